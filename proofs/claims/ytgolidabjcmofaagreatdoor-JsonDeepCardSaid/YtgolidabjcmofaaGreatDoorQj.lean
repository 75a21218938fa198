/- Texts of the claim. -/
import Derived.Test.YtgolidabjcmofaaGreatDoorQa
import Derived.Test.YtgolidabjcmofaaGreatDoorQi
import Derived.RegionTactic
import Derived.Laws.BitsLemmas
import Derived.Laws.Strings3
import Derived.Lib.IndexBytes
import Derived.Deep.DeepFit
import Derived.Deep.QuietTactic
import Derived.BigQuiet
import Derived.IntWalk
namespace Go.Proofs.YtgolidabjcmofaaGreatDoor
open Go.RowKit Go.Shelf
set_option linter.unusedVariables false
set_option linter.unusedSimpArgs false
theorem at_get (s : ByteArray) (k : Nat) (h : k < s.size) : s.data.toList.getD k 0 = s[k]'h := by
  rw [← get!_list]; exact Utf8W.get!_of_lt s k h
set_option maxHeartbeats 1000000 in
theorem plainBytes_any (s : ByteArray) (w : World) (hs : s.size ≤ maxLen) :
    Calls Tryz.prog 102 #[.string s] w fun e w' => e = .returned (.int .i64 ((plainN s.data.toList : Nat) : Int)) ∧ w = w' := by
  unfold maxLen at hs
  have hle := plainN_le s.data.toList
  have hsz : s.data.toList.length = s.size := by simp
  rw [hsz] at hle
  have HLT := Lib.hid (fun k (h : k < plainN s.data.toList) => plainB_iff.1 (plainN_lt h))
  have HST := Lib.hid (fun (h : plainN s.data.toList < s.size) => plainB_not (plainN_stop (l := s.data.toList) (by rw [hsz]; exact h)))
  clear hsz
  generalize hN : plainN s.data.toList = N at *
  clear hN
  go_enter Tryz.func102, Tryz.ntmps102
  go_wp2
  go_loop [3] (fun i => ∃ k : Nat, k ≤ N ∧ i = .int .i64 (k : Int)) (fun i => s.size - (intOf i).toNat)
  case atStart => exact ⟨0, Nat.zero_le _, rfl⟩
  case round =>
    obtain ⟨k, hk, rfl⟩ := hrel
    by_cases hlt : k < N
    · have h1 := HLT.out k hlt
      rw [at_get s k (by omega)] at h1
      have hks : k < s.size := by omega
      have hkz : (k : Int) < (s.size : Int) := by omega
      generalize hx : s[k] = x at *
      have c1 : decide ((32 : Int) ≤ (x.toNat : Int)) = true := decide_eq_true (by omega)
      have c2 : ((x.toNat : Int) != 34) = true := by rw [bne_iff_ne]; omega
      have c3 : ((x.toNat : Int) != 92) = true := by rw [bne_iff_ne]; omega
      have c4 : ((x.toNat : Int) == 34) = false := by rw [beq_eq_false_iff_ne]; omega
      have c5 : ((x.toNat : Int) == 92) = false := by rw [beq_eq_false_iff_ne]; omega
      clear h1
      go_wp2
      go_round
      case rel => exact ⟨k + 1, by omega, by go_num⟩
      case measure => simp [intOf]; omega
    · obtain rfl : k = N := by omega
      by_cases hks : k < s.size
      · have h1 := HST.out hks
        rw [at_get s k hks] at h1
        have hkz : (k : Int) < (s.size : Int) := by omega
        generalize hx : s[k] = x at *
        by_cases d1 : x.toNat < 32
        · have c1 : decide ((32 : Int) ≤ (x.toNat : Int)) = false := decide_eq_false (by omega)
          clear h1 d1
          go_wp2
          go_ret
          exact ⟨rfl, rfl⟩
        · have c1 : decide ((32 : Int) ≤ (x.toNat : Int)) = true := decide_eq_true (by omega)
          rcases h1 with h1 | h1 | h1
          · omega
          · have c2 : ((x.toNat : Int) != 34) = false := by rw [bne_eq_false_iff_eq]; omega
            have c4 : ((x.toNat : Int) == 34) = true := by rw [beq_iff_eq]; omega
            clear h1 d1
            go_wp2
            go_ret
            exact ⟨rfl, rfl⟩
          · have c2 : ((x.toNat : Int) != 34) = true := by rw [bne_iff_ne]; omega
            have c3 : ((x.toNat : Int) != 92) = false := by rw [bne_eq_false_iff_eq]; omega
            have c4 : ((x.toNat : Int) == 34) = false := by rw [beq_eq_false_iff_ne]; omega
            have c5 : ((x.toNat : Int) == 92) = true := by rw [beq_iff_eq]; omega
            clear h1 d1
            go_wp2
            go_ret
            exact ⟨rfl, rfl⟩
      · have hkz : ¬ (k : Int) < (s.size : Int) := by omega
        go_wp2
        go_ret
        exact ⟨rfl, rfl⟩
end Go.Proofs.YtgolidabjcmofaaGreatDoor
namespace Go.Proofs.YtgolidabjcmofaaGreatDoor
open Go.RowKit Go.Shelf
set_option linter.unusedVariables false
set_option linter.unusedSimpArgs false
def Rk (k : IntKind) (w : World) (ad : Option Addr) (xs : List Int) : Prop :=
  ∀ i, i < xs.length → ∃ b o, ad = some ⟨b, o, none⟩ ∧ b < w.heap.size ∧ w.cell? ⟨b, o + i, none⟩ = some (.int k (xs.getD i 0))
theorem Rk.at {k : IntKind} {w : World} {b o : Nat} {xs : List Int} (h : Rk k w (some ⟨b, o, none⟩) xs) (i : Nat) (hi : i < xs.length) :
    w.cell? ⟨b, o + i, none⟩ = some (.int k (xs.getD i 0)) := by
  obtain ⟨b', o', e, _, hc⟩ := h i hi
  cases e; exact hc
theorem Rk.nil (k : IntKind) (w : World) (ad : Option Addr) : Rk k w ad [] := by intro i h; simp at h
theorem Rk.below {k : IntKind} {w w' : World} {ad : Option Addr} {xs : List Int} (h : Rk k w ad xs) (hb : Below w.heap.size w w') : Rk k w' ad xs := by
  intro i hi
  obtain ⟨b, o, e, hlt, hc⟩ := h i hi
  exact ⟨b, o, e, Nat.lt_of_lt_of_le hlt hb.size, by rw [hb.cell (p := ⟨b, o + i, none⟩) hlt]; exact hc⟩
def JR (rs : List Int) (B : Nat) (w : World) (k : Nat) (v : Value) (wr : World) : Prop :=
  ∃ i, rs.length - i ≤ k ∧ i ≤ rs.length ∧ v = .int .i64 i ∧ okAll (rs.take i) = true ∧ Lib.IsBuilderF 62 5 B B (Lib.byteCells (joinL (rs.take i))) wr ∧ Below B w wr ∧ B < wr.heap.size
theorem take_snocI (rs : List Int) (i : Nat) (hi : i < rs.length) : rs.take (i + 1) = rs.take i ++ [rs.getD i 0] := by
  rw [List.take_succ_eq_append_getElem hi]; simp [List.getD, hi]
theorem okAll_snoc {rs : List Int} {r : Int} (h : okAll rs = true) (hr : okR r = true) : okAll (rs ++ [r]) = true := by
  simp [okAll] at h ⊢; exact ⟨h, hr⟩
theorem JR.step {rs : List Int} {B i k : Nat} {w wr w' : World} {p : Value} (hi : i < rs.length) (hk : rs.length - i ≤ k + 1) (ha : okAll (rs.take i) = true) (hr : okR (rs.getD i 0) = true) (hb : Below B w wr) (hB : B < wr.heap.size)
    (h1 : Lib.BuilderAtF 62 5 B B (.pointer (some ⟨B, 0, none⟩)) (Lib.byteCells (joinL (rs.take i)) ++ Lib.runeCells (rs.getD i 0)) w') (h2 : Below B wr w') : JR rs B w k (.int .i64 ((i + 1 : Nat) : Int)) w' := by
  refine ⟨i + 1, by omega, by omega, rfl, ?_, ?_, hb.trans h2, Nat.lt_of_lt_of_le hB h2.size⟩
  · rw [take_snocI rs i hi]; exact okAll_snoc ha hr
  · rw [take_snocI rs i hi, joinL_append]
    have e : joinL [rs.getD i 0] = Lib.encodeRune (rs.getD i 0) := by rw [encodeRune_enc hr]; simp [joinL]
    rw [e, Lib.byteCells_append, Lib.byteCells_encodeRune]
    exact Or.inr h1
end Go.Proofs.YtgolidabjcmofaaGreatDoor
namespace Go.Proofs.YtgolidabjcmofaaGreatDoor
open Go.RowKit Go.Shelf Go.Lib
set_option linter.unusedVariables false
set_option linter.unusedSimpArgs false
def RunePost (r m : Int) (w : World) (e : Ending) (w' : World) : Prop := e = .returned (.tuple #[.int .i32 r, .int .i64 m]) ∧ ∃ q, w' = w.drewN q
def r3 (c : Nat) : Int := if 2048 ≤ c ∧ (c < 55296 ∨ 57343 < c) then c else -1
def r4 (c : Nat) : Int := if 65536 ≤ c ∧ c ≤ 1114111 then c else -1
end Go.Proofs.YtgolidabjcmofaaGreatDoor
namespace Go.Proofs.YtgolidabjcmofaaGreatDoor
open Go.RowKit Go.Shelf Go.Lib
set_option linter.unusedVariables false
set_option linter.unusedSimpArgs false
theorem RunePost.below {r m : Int} {w : World} {e : Ending} {w' : World} (h : RunePost r m w e w') : e = .returned (.tuple #[.int .i32 r, .int .i64 m]) ∧ Below w.heap.size w w' := by
  obtain ⟨he, q, rfl⟩ := h
  exact ⟨he, (Below.refl _ _).trans ⟨rfl, rfl, rfl, Nat.le_refl _, fun _ _ => rfl⟩⟩
end Go.Proofs.YtgolidabjcmofaaGreatDoor
