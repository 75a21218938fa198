/- The walk of package utf's Join. Lists of whole numbers in memory. -/
import Derived.Test.YtllcikobepeemaaDoorU5
namespace Go.Proofs.YtllcikobepeemaaDoor
open Go.RowKit Go.Shelf
set_option linter.unusedVariables false
set_option linter.unusedSimpArgs false

/-- The cells that a slice's address leads to read as these whole numbers of the kind k. -/
def Rk (k : IntKind) (w : World) (ad : Option Addr) (xs : List Int) : Prop :=
  ∀ i, i < xs.length → ∃ b o, ad = some ⟨b, o, none⟩ ∧ b < w.heap.size ∧ w.cell? ⟨b, o + i, none⟩ = some (.int k (xs.getD i 0))
theorem Rk.at {k : IntKind} {w : World} {b o : Nat} {xs : List Int} (h : Rk k w (some ⟨b, o, none⟩) xs) (i : Nat) (hi : i < xs.length) :
    w.cell? ⟨b, o + i, none⟩ = some (.int k (xs.getD i 0)) := by
  obtain ⟨b', o', e, _, hc⟩ := h i hi
  cases e; exact hc
theorem Rk.nil (k : IntKind) (w : World) (ad : Option Addr) : Rk k w ad [] := by intro i h; simp at h
theorem Rk.below {k : IntKind} {w w' : World} {ad : Option Addr} {xs : List Int} (h : Rk k w ad xs) (hb : Below w.heap.size w w') : Rk k w' ad xs := by
  intro i hi
  obtain ⟨b, o, e, hlt, hc⟩ := h i hi
  exact ⟨b, o, e, Nat.lt_of_lt_of_le hlt hb.size, by rw [hb.cell (p := ⟨b, o + i, none⟩) hlt]; exact hc⟩
/-- What the call owns can be read. -/
theorem own_rk {w : World} {B : Nat} {v : Value} {l : List Int} (h : w.ownsRow B 21 1 v l.length (rv l)) :
    ∃ ad cap, v = .slice ad l.length cap ∧ l.length ≤ cap ∧ Rk .i32 w ad l := by
  rcases h.2 with ⟨rfl, h0⟩ | ⟨g, cap, cur, rfl, hB, hg, hc, rest⟩
  · have : l = [] := List.eq_nil_of_length_eq_zero h0
    subst this
    exact ⟨none, 0, rfl, Nat.le_refl _, Rk.nil _ _ _⟩
  · refine ⟨_, cap, rfl, hc, ?_⟩
    intro i hi
    refine ⟨g, 0, rfl, (Array.getElem?_eq_some_iff.1 hg).1, ?_⟩
    have := World.ownsRow.cells h (g := g) rfl i (.int .i32 (l.getD i 0)) (by simp [rv, List.getD, hi])
    have hadd : (⟨g, 0, none⟩ : Addr).add i = ⟨g, 0 + i, none⟩ := by unfold Addr.add; split <;> simp_all
    rw [hadd] at this; exact this

def JoinPost (rs : List Int) (w : World) (e : Ending) (w' : World) : Prop :=
  e = .returned (.tuple #[.string ⟨(if okAll rs then joinL rs else []).toArray⟩, .bool (okAll rs)]) ∧ Below w.heap.size w w'

/-- What holds from round to round of Join. -/
def JR (rs : List Int) (B : Nat) (w : World) (k : Nat) (v : Value) (wr : World) : Prop :=
  ∃ i, rs.length - i ≤ k ∧ i ≤ rs.length ∧ v = .int .i64 i ∧ okAll (rs.take i) = true ∧ Lib.IsBuilderF 42 5 B B (Lib.byteCells (joinL (rs.take i))) wr ∧ Below B w wr ∧ B < wr.heap.size
theorem okAll_get {rs : List Int} (h : okAll rs = true) (i : Nat) (hi : i < rs.length) : okR (rs.getD i 0) = true := by
  simp only [okAll, List.all_eq_true] at h
  have := h rs[i] (List.getElem_mem hi)
  simpa [List.getD, hi] using this
theorem take_snocI (rs : List Int) (i : Nat) (hi : i < rs.length) : rs.take (i + 1) = rs.take i ++ [rs.getD i 0] := by
  rw [List.take_succ_eq_append_getElem hi]; simp [List.getD, hi]
theorem okAll_snoc {rs : List Int} {r : Int} (h : okAll rs = true) (hr : okR r = true) : okAll (rs ++ [r]) = true := by
  simp [okAll] at h ⊢; exact ⟨h, hr⟩
theorem JR.step {rs : List Int} {B i k : Nat} {w wr w' : World} {p : Value} (hi : i < rs.length) (hk : rs.length - i ≤ k + 1) (ha : okAll (rs.take i) = true) (hr : okR (rs.getD i 0) = true) (hb : Below B w wr) (hB : B < wr.heap.size)
    (h1 : Lib.BuilderAtF 42 5 B B (.pointer (some ⟨B, 0, none⟩)) (Lib.byteCells (joinL (rs.take i)) ++ Lib.runeCells (rs.getD i 0)) w') (h2 : Below B wr w') : JR rs B w k (.int .i64 ((i + 1 : Nat) : Int)) w' := by
  refine ⟨i + 1, by omega, by omega, rfl, ?_, ?_, hb.trans h2, Nat.lt_of_lt_of_le hB h2.size⟩
  · rw [take_snocI rs i hi]; exact okAll_snoc ha hr
  · rw [take_snocI rs i hi, joinL_append]
    have e : joinL [rs.getD i 0] = Lib.encodeRune (rs.getD i 0) := by rw [encodeRune_enc hr]; simp [joinL]
    rw [e, Lib.byteCells_append, Lib.byteCells_encodeRune]
    exact Or.inr h1

set_option maxHeartbeats 1000000 in
theorem join_any (ad : Option Addr) (n cap : Nat) (rs : List Int) (w : World) (hn : rs.length = n) (hcap : n ≤ cap) (hm : n ≤ 1000000) (h32 : ∀ r ∈ rs, -2147483648 ≤ r ∧ r ≤ 2147483647) (hr : Rk .i32 w ad rs) :
    Calls Tryd.prog 10 #[.slice ad n cap] w (JoinPost rs w) := by
  have HN := Lib.hid hn; clear hn
  have H32 := Lib.hid h32; clear h32
  have HR := Lib.hid hr; clear hr
  have KG := Lib.hid (Tryd.Builder_Grow_fresh w.heap.size w.heap.size n (w.alloc (.cells #[.pointer none, .slice none 0 0] 42)) (Nat.le_refl _) (heap_alloc_new w _) (by simp) (by omega))
  go_enter Tryd.func10, Tryd.ntmps10
  go_wp2_with fail
  refine KG.out.mono ?_
  rintro r w1 ⟨rfl, h1, hb1⟩
  have hb0 : Below w.heap.size w w1 := ((Below.refl _ w).alloc (Nat.le_refl _) _).trans hb1
  have hsz : w.heap.size < w1.heap.size := by have := hb1.size; simp at this; omega
  have hst : JR rs w.heap.size w n (.int .i64 0) w1 := ⟨0, by rw [HN.out]; omega, Nat.zero_le _, rfl, rfl, Lib.IsBuilderF.of (.inr h1), hb0, hsz⟩
  have HST := Lib.hid hst
  have HRD := Lib.hid (fun W (h : Below w.heap.size w W) => HR.out.below h)
  clear hst h1 hb1 hb0 hsz
  generalize hB : w.heap.size = B at *
  have HB := Lib.hid hB; clear hB
  go_wp2
  go_loopg [12] n (fun k v wr => JR rs B w k v wr)
  case atStart => exact HST.out
  case round =>
    obtain ⟨i, hk, hi, rfl, ha, hI, hb, hlt⟩ := hrel
    rw [HN.out] at hk hi
    have HA := Lib.hid ha; have HI := Lib.hid hI; have HBL := Lib.hid hb
    clear ha hI hb
    by_cases hp : i < n
    · obtain ⟨k, rfl⟩ : ∃ k, gk = k + 1 := ⟨gk - 1, by omega⟩
      obtain ⟨b2, o2, hadd, _, hc⟩ := HRD.out wr HBL.out i (by rw [HN.out]; exact hp)
      have hrng := H32.out (rs.getD i 0) (by simp [List.getD, HN.out, hp])
      have KV := Lib.hid (fun W => Tryd.utf8_ValidRune (rs.getD i 0) W)
      have KW := Lib.hid (writeRune_k B B (Lib.byteCells (joinL (rs.take i))) (rs.getD i 0) hrng.1 hrng.2 wr HI.out (by
        rw [Lib.byteCells_length]; have := joinL_length (rs.take i); have := List.length_take_le i rs; omega) (Nat.le_of_lt hlt))
      have HS := Lib.hid (fun (hr : okR (rs.getD i 0) = true) w' p1 p2 => JR.step (p := .bool true) (k := k) (w' := w') (by rw [HN.out]; exact hp) (by rw [HN.out]; exact hk) HA.out hr HBL.out hlt p1 p2)
      have HOK := Lib.hid (fun (h : okAll rs = true) => okAll_get h i (by rw [HN.out]; exact hp))
      subst hadd
      generalize rs.getD i 0 = x at *
      rw [validRune_ok] at KV
      cases hx : okR x
      · have hbad := Lib.hid (show okAll rs = false by
          cases h : okAll rs
          · rfl
          · rw [HOK.out h] at hx; cases hx)
        rw [hx] at KV
        clear hx hrng
        go_wp2_with fail
        refine (KV.out _).mono ?_
        rintro r w' ⟨rfl, rfl⟩
        go_wp2
        go_ret2
        unfold JoinPost
        rw [hbad.out, HB.out]
        exact ⟨rfl, HBL.out⟩
      · rw [hx] at KV
        have HX := Lib.hid hx
        clear hx hrng
        go_wp2_with fail
        refine (KV.out _).mono ?_
        rintro r w' ⟨rfl, rfl⟩
        go_wp2_with fail
        refine KW.out.mono ?_
        rintro r w2 ⟨rfl, g1, g2, g3⟩
        have HJ := Lib.hid (HS.out HX.out w2 g1 g2)
        clear g1 g2 g3
        go_wp2
        go_roundg k
        case rel => exact HJ.out
        case measure => omega
    · have hin : i = n := by omega
      subst hin
      have e1 : rs.take i = rs := List.take_of_length_le (by rw [HN.out]; exact Nat.le_refl _)
      rw [e1] at HA HI
      have KS := Lib.hid (Tryd.Builder_String_any_k B B (joinL rs) wr HI.out (Nat.le_of_lt hlt))
      clear e1
      go_wp2_with fail
      refine KS.out.mono ?_
      rintro r w2 ⟨rfl, _, g2, _⟩
      have HJ := Lib.hid (HBL.out.trans g2)
      clear g2
      go_wp2
      go_ret2
      unfold JoinPost
      rw [HA.out, HB.out]
      exact ⟨rfl, HJ.out⟩
end Go.Proofs.YtllcikobepeemaaDoor
