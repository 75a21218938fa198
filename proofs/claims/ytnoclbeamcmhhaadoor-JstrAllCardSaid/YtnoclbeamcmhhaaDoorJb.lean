/- The walk of jstr's reader: plain. -/
import Derived.Test.YtnoclbeamcmhhaaDoorJa
import Derived.Deep.QuietTactic
import Derived.BigQuiet
namespace Go.Proofs.YtnoclbeamcmhhaaDoor
open Go.RowKit Go.Shelf Go.Lib
set_option linter.unusedVariables false
set_option linter.unusedSimpArgs false

def PlPost (g : Nat) (s : ByteArray) (n N : Nat) (ok : Bool) (w : World) (e : Ending) (w' : World) : Prop :=
  if ok = true then e = .returned (.string (s.extract n (n + N))) ∧ Stepd g ((n + N : Nat) : Int) w w' else ThrowsR g w e w'
theorem below_drewN (w : World) (n : Nat) : Below w.heap.size w (w.drewN n) := ⟨rfl, rfl, rfl, Nat.le_refl _, fun _ _ => rfl⟩
theorem run_list (s : ByteArray) (n N : Nat) : (s.extract n (n + N)).data.toList = (tailL s n).take N := by
  rw [ByteArray.data_extract, Array.toList_extract]
  simp [tailL, List.extract_eq_take_drop]
set_option maxHeartbeats 2000000 in
set_option maxRecDepth 100000 in
theorem plain_any (g : Nat) (s : ByteArray) (n : Nat) (w : World) (hs : s.size ≤ 1000000) (hr : Rdr g s n w) (hn : n ≤ s.size) (hT : UT w) :
    Calls Tryd.prog 68 #[.pointer (some ⟨g, 0, none⟩)] w (PlPost g s n (plainN (tailL s n)) (validL ((tailL s n).take (plainN (tailL s n)))) w) := by
  have HRD := Lib.hid (fun (k : Nat) W (h : Stepd g (k : Int) w W) => h.rdr hr)
  have HSB := Lib.hid (fun W (h : Below w.heap.size w W) => Stepd.of_below hr h)
  have hlt := hr.lt
  have hst : (s.extract n s.size).data.toList = tailL s n := extract_list s n
  have hle := plainN_le (tailL s n)
  rw [tailL_length] at hle
  have KP := Lib.hid (fun W => (plainBytes_any (s.extract n s.size) W (by unfold maxLen; rw [ByteArray.size_extract]; omega)).mono (R' := fun e w' => e = .returned (.int .i64 ((plainN (tailL s n) : Nat) : Int)) ∧ w' = W) fun _ _ h => by rw [hst] at h; exact ⟨h.1, h.2.symm⟩)
  have KV := Lib.hid (fun W (h : UT W) => valid_any (s.extract n (n + plainN (tailL s n))) W (by unfold maxLen; rw [ByteArray.size_extract]; omega) h)
  rw [run_list] at KV
  have HUT := Lib.hid (fun W (h : Below w.heap.size w W) => hT.below h)
  obtain ⟨c0, c1, f1⟩ := hr
  clear hst hT
  generalize hN : plainN (tailL s n) = N at *
  have HN := Lib.hid hN; clear hN
  have hsum : IntKind.i64.wrap ((n : Int) + (N : Int)) = ((n + N : Nat) : Int) := by
    rw [IntWalk.i64_in _ (by omega)]; rfl
  have hnz : (n : Int) ≤ (s.size : Int) := by omega
  have hnN : (n : Int) ≤ ((n + N : Nat) : Int) := by omega
  have hNz : ((n + N : Nat) : Int) ≤ (s.size : Int) := by omega
  have hNz2 : n + N ≤ s.size := by omega
  cases hv : validL ((tailL s n).take N)
  · rw [hv] at KV
    clear hv
    go_enter Tryd.func68, Tryd.ntmps68
    go_wp2
    go_quiet ((go_at_call 52; exact Calls.quiet_of_same (KP.out _)))
    go_wp2
    go_region
    go_wp2_with fail
    refine (KV.out _ (HUT.out _ (below_drewN w _))).mono ?_
    rintro r w1 ⟨rfl, h1⟩
    have HB := Lib.hid ((below_drewN w _).trans h1); clear h1
    go_wp2
    exact ⟨rfl, rfl, _, HSB.out _ HB.out⟩
  · rw [hv] at KV
    clear hv
    go_enter Tryd.func68, Tryd.ntmps68
    go_wp2
    go_quiet ((go_at_call 52; exact Calls.quiet_of_same (KP.out _)))
    go_wp2
    go_region
    go_wp2_with fail
    refine (KV.out _ (HUT.out _ (below_drewN w _))).mono ?_
    rintro r w1 ⟨rfl, h1⟩
    have hb := (below_drewN w _).trans h1
    have d1 : w1.cell? ⟨g, 1, none⟩ = some (.int .i64 (n : Int)) := by rw [hb.cell (p := ⟨g, 1, none⟩) hlt]; exact c1
    have e1 : w1.frozen? ⟨g, 1, none⟩ = false := by rw [hb.frozen (p := ⟨g, 1, none⟩) hlt]; exact f1
    have HF := Lib.hid ((HSB.out _ hb).trans (show Stepd g ((n + N : Nat) : Int) w1 (w1.setCell ⟨g, 1, none⟩ (.int .i64 ((n + N : Nat) : Int))) from Below.refl _ _))
    clear h1 hb c0 c1 f1
    go_wp2
    go_ret
    exact ⟨rfl, HF.out⟩
end Go.Proofs.YtnoclbeamcmhhaaDoor
