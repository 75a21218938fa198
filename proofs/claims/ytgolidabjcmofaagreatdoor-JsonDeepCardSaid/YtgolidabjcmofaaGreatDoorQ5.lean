/- Texts of the claim. -/
import Derived.Test.YtgolidabjcmofaaGreatDoorQe
import Derived.Test.YtgolidabjcmofaaGreatDoorQf
namespace Go.Proofs.YtgolidabjcmofaaGreatDoor
open Go.RowKit
set_option linter.unusedVariables false
set_option linter.unusedSimpArgs false
def pickC (l : List Cel) (S : List Nat) : List Cel := S.map fun p => l.getD p zeroC
def pickK (l : List Cel) (S : List Nat) (k : Nat) : List Cel := pickC l (S.take k) ++ List.replicate (S.length - k) zeroC
theorem pickK_len (l : List Cel) (S : List Nat) {k : Nat} (h : k ≤ S.length) : (pickK l S k).length = S.length := by simp [pickK, pickC]; omega
theorem pickK_zero (l : List Cel) (S : List Nat) : pickK l S 0 = List.replicate S.length zeroC := by simp [pickK, pickC]
theorem pickK_all (l : List Cel) (S : List Nat) : pickK l S S.length = pickC l S := by simp [pickK]
theorem pickK_set (l : List Cel) (S : List Nat) {k : Nat} (h : k < S.length) : (pickK l S k).set k (l.getD (S.getD k 0) zeroC) = pickK l S (k + 1) := by
  unfold pickK pickC
  rw [List.set_append_right _ _ (by simp; omega), List.length_map, List.length_take, Nat.min_eq_left (by omega), Nat.sub_self, List.take_succ_eq_append_getElem h, List.map_append, List.append_assoc]
  congr 1
  obtain ⟨m, hm⟩ : ∃ m, S.length - k = m + 1 := ⟨S.length - k - 1, by omega⟩
  rw [hm, List.replicate_succ, List.set_cons_zero, show S.length - (k + 1) = m by omega]
  simp [List.getD, h]
def PickPost (e : TypeId) (vs : List Value) (n : Nat) (w : World) (r : Ending) (w' : World) : Prop :=
  ∃ g, r = .returned (.slice (some ⟨g, 0, none⟩) n n) ∧ w.heap.size ≤ g ∧ BlkV w' g e vs ∧ Below w.heap.size w w'
set_option maxHeartbeats 1000000 in
theorem pickT_any (ad : Option Addr) (n cap : Nat) (l : List Cel) (ad' : Option Addr) (n' cap' : Nat) (S : List Nat) (w : World) (hl : l.length = n) (hcap : n ≤ cap) (hm : n ≤ 1000000) (hr : RdV w ad (flat l))
    (hS : S.length = n') (hcap' : n' ≤ cap') (hm' : n' ≤ 1000000) (hr' : RdV w ad' (S.map iv)) (hb : ∀ p ∈ S, p < n) :
    Calls Tryz.prog 127 #[.slice ad n cap, .slice ad' n' cap'] w (PickPost 28 (flat (pickC l S)) n' w) := by
  have HL := Lib.hid hl; have HR := Lib.hid hr; have HS := Lib.hid hS; have HR' := Lib.hid hr'; have HB := Lib.hid hb
  clear hl hr hS hr' hb
  go_enter Tryz.func127, Tryz.ntmps127
  go_wp2_with (at_make; refine wpl_make_trees _ rfl _ _ rfl _ _ _ _ n' rfl rfl rfl rfl (by omega) ?_)
  intro w1 hk1 hb1
  have HK := Lib.hid hk1; have HBL := Lib.hid hb1
  clear hk1 hb1
  go_wp2
  go_loopw [13] (fun i wr => ∃ k : Nat, k ≤ n' ∧ i = .int .i64 (k : Int) ∧ BlkV wr w.heap.size 28 (flat (pickK l S k)) ∧ Below w.heap.size w wr) (fun i _ => n' - (intOf i).toNat)
  case atStart => exact ⟨0, Nat.zero_le _, rfl, by rw [pickK_zero, HS.out]; exact HK.out, HBL.out⟩
  case round =>
    obtain ⟨k, hk, rfl, hT, hbl⟩ := hrel
    have HT := Lib.hid hT; have HBW := Lib.hid hbl
    clear hT hbl
    by_cases hlt : k < n'
    · have h1 : (k : Int) < (n' : Int) := by omega
      have h2 : (0 : Int) ≤ (k : Int) := by omega
      obtain ⟨b', o', rfl, _, hc⟩ := (HR'.out.on HBW.out) k (by rw [List.length_map, HS.out]; exact hlt)
      rw [iv_get _ _ (by rw [HS.out]; exact hlt)] at hc
      have hp := HB.out (S.getD k 0) (by simp [List.getD, HS.out, hlt])
      obtain ⟨b, o, rfl, _⟩ := (HR.out.on HBW.out).shape (by rw [flat_len, HL.out]; omega)
      obtain ⟨c0, c1, c2, c3, c4, c5, c6, c7⟩ := flat_at (HR.out.on HBW.out) (S.getD k 0) (by rw [HL.out]; exact hp) rfl
      obtain ⟨⟨z0, d0⟩, ⟨z1, d1⟩, ⟨z2, d2⟩, ⟨z3, d3⟩, ⟨z4, d4⟩, ⟨z5, d5⟩, ⟨z6, d6⟩, ⟨z7, d7⟩⟩ := blk_olds HT.out (show k < (pickK l S k).length by rw [pickK_len _ _ (by rw [HS.out]; exact hk), HS.out]; exact hlt)
      have f0 := HT.out.free (k * 8); have f1 := HT.out.free (k * 8 + 1); have f2 := HT.out.free (k * 8 + 2); have f3 := HT.out.free (k * 8 + 3)
      have f4 := HT.out.free (k * 8 + 4); have f5 := HT.out.free (k * 8 + 5); have f6 := HT.out.free (k * 8 + 6); have f7 := HT.out.free (k * 8 + 7)
      have hnew := put8_blk HT.out k (by rw [pickK_len _ _ (by rw [HS.out]; exact hk), HS.out]; exact hlt) (l.getD (S.getD k 0) zeroC)
      rw [pickK_set _ _ (by rw [HS.out]; exact hlt)] at hnew
      have HNEW := Lib.hid hnew; clear hnew
      have HB3 := Lib.hid (HBW.out.trans ((put8_but wr w.heap.size (k * 8) (l.getD (S.getD k 0) zeroC)).below (Nat.le_refl _) HBW.out.size))
      unfold put8 at HNEW HB3
      generalize l.getD (S.getD k 0) zeroC = c at *
      generalize S.getD k 0 = p at *
      have hp1 : (p : Int) < (n : Int) := by omega
      have hp2 : (0 : Int) ≤ (p : Int) := by omega
      go_wp2_with fail
      go_roundw
      case rel => exact ⟨k + 1, by omega, by go_num, HNEW.out, HB3.out⟩
      case measure => simp [intOf]; omega
    · obtain rfl : k = n' := by omega
      have h1 : ¬ (k : Int) < (k : Int) := by omega
      have hT := HT.out
      rw [← HS.out, pickK_all] at hT
      have HT2 := Lib.hid hT; clear hT
      go_wp2
      go_ret
      exact ⟨_, rfl, Nat.le_refl _, HT2.out, HBW.out⟩
end Go.Proofs.YtgolidabjcmofaaGreatDoor
namespace Go.Proofs.YtgolidabjcmofaaGreatDoor
set_option linter.unusedVariables false
set_option linter.unusedSimpArgs false
section
variable {K : Type} [DecidableEq K]
theorem srt_next {lt : K → K → Bool} (h : Sto lt) (key : Nat → K) (n i : Nat) (hi : i + 1 < n) :
    lt (key ((srt lt key 0 n).getD (i + 1) 0)) (key ((srt lt key 0 n).getD i 0)) = false ∧ (key ((srt lt key 0 n).getD i 0) = key ((srt lt key 0 n).getD (i + 1) 0) → (srt lt key 0 n).getD i 0 < (srt lt key 0 n).getD (i + 1) 0) := by
  have hs := srt_sorted h key 0 n
  have hl := srt_len lt key 0 n
  have hp := srt_perm lt key 0 n
  have hnd : (srt lt key 0 n).Nodup := hp.nodup_iff.2 List.nodup_range'
  generalize srt lt key 0 n = l at *
  have g := List.pairwise_iff_getElem.1 hs i (i + 1) (by omega) (by omega) (by omega)
  have gn := List.pairwise_iff_getElem.1 hnd i (i + 1) (by omega) (by omega) (by omega)
  simp only [List.getD, List.getElem?_eq_getElem (show i < l.length by omega), List.getElem?_eq_getElem (show i + 1 < l.length by omega), Option.getD_some]
  rw [leI_iff] at g
  rcases g with g | ⟨g, g'⟩
  · exact ⟨h.asym g, fun e => by rw [e, h.irr] at g; cases g⟩
  · exact ⟨by rw [g]; exact h.irr _, fun _ => by omega⟩
theorem srt_lt (lt : K → K → Bool) (key : Nat → K) (n i : Nat) (hi : i < n) : (srt lt key 0 n).getD i 0 < n := by
  have hl := srt_len lt key 0 n
  have := @srt_mem K _ lt key 0 n ((srt lt key 0 n).getD i 0)
  have hm : (srt lt key 0 n).getD i 0 ∈ srt lt key 0 n := by
    simp only [List.getD, List.getElem?_eq_getElem (show i < (srt lt key 0 n).length by omega), Option.getD_some]; exact List.getElem_mem _
  have := this.1 hm; omega
theorem srt_has (lt : K → K → Bool) (key : Nat → K) (n x : Nat) (hx : x < n) : ∃ p, p < n ∧ (srt lt key 0 n).getD p 0 = x := by
  have hl := srt_len lt key 0 n
  have hm : x ∈ srt lt key 0 n := srt_mem.2 ⟨Nat.zero_le _, by omega⟩
  obtain ⟨p, hp, rfl⟩ := List.mem_iff_getElem.1 hm
  exact ⟨p, by omega, by simp [List.getD, hp]⟩
end
section
variable {K : Type}
def Low (key : Nat → K) (S : List Nat) (m lo : Nat) (f : Bool) : Prop :=
  (f = false → lo = 0 ∧ ∀ i, i + 1 < m → key (S.getD i 0) ≠ key (S.getD (i + 1) 0)) ∧
  (f = true → (∃ i, i + 1 < m ∧ key (S.getD i 0) = key (S.getD (i + 1) 0) ∧ lo = S.getD (i + 1) 0) ∧ ∀ i, i + 1 < m → key (S.getD i 0) = key (S.getD (i + 1) 0) → lo ≤ S.getD (i + 1) 0)
theorem Low.start (key : Nat → K) (S : List Nat) : Low key S 1 0 false := ⟨fun _ => ⟨rfl, fun i hi => absurd hi (by omega)⟩, fun h => by cases h⟩
theorem Low.keep {key : Nat → K} {S : List Nat} {m lo : Nat} {f : Bool} (h : Low key S (m + 1) lo f) (hn : key (S.getD m 0) ≠ key (S.getD (m + 1) 0) ∨ (f = true ∧ lo ≤ S.getD (m + 1) 0)) : Low key S (m + 2) lo f := by
  refine ⟨fun hf => ⟨(h.1 hf).1, fun i hi => ?_⟩, fun hf => ⟨?_, fun i hi he => ?_⟩⟩
  · by_cases e : i = m
    · subst e; rcases hn with hn | ⟨hn, _⟩
      · exact hn
      · rw [hn] at hf; cases hf
    · exact (h.1 hf).2 i (by omega)
  · obtain ⟨i, hi, h1, h2⟩ := (h.2 hf).1
    exact ⟨i, by omega, h1, h2⟩
  · by_cases e : i = m
    · subst e; rcases hn with hn | ⟨_, hn⟩
      · exact absurd he hn
      · exact hn
    · exact (h.2 hf).2 i (by omega) he
theorem Low.take {key : Nat → K} {S : List Nat} {m lo : Nat} {f : Bool} (h : Low key S (m + 1) lo f) (he : key (S.getD m 0) = key (S.getD (m + 1) 0)) (hl : f = false ∨ S.getD (m + 1) 0 < lo) : Low key S (m + 2) (S.getD (m + 1) 0) true := by
  refine ⟨(fun h => by cases h), fun _ => ⟨⟨m, by omega, he, rfl⟩, fun i hi hie => ?_⟩⟩
  by_cases e : i = m
  · subst e; exact Nat.le_refl _
  · rcases hl with hl | hl
    · exact absurd hie ((h.1 hl).2 i (by omega))
    · cases hf : f
      · exact absurd hie ((h.1 hf).2 i (by omega))
      · have := (h.2 hf).2 i (by omega) hie; omega
def Twc (key : Nat → K) (n lo : Nat) (f : Bool) : Prop :=
  (f = false → lo = 0 ∧ ∀ j, j < n → ∀ i, i < j → key i ≠ key j) ∧ (f = true → lo < n ∧ (∃ i, i < lo ∧ key i = key lo) ∧ ∀ j, j < lo → ∀ i, i < j → key i ≠ key j)
end
section
variable {K : Type} [DecidableEq K]
theorem twin_near {lt : K → K → Bool} (h : Sto lt) (key : Nat → K) {n i j : Nat} (hj : j < n) (hi : i < j) (e : key i = key j) :
    ∃ p, p + 1 < n ∧ (srt lt key 0 n).getD (p + 1) 0 = j ∧ key ((srt lt key 0 n).getD p 0) = key j := by
  obtain ⟨p, hp, ep⟩ := srt_has lt key n j hj
  obtain ⟨q, hq, eq⟩ := srt_has lt key n i (by omega)
  have hs := srt_sorted h key 0 n
  have hl := srt_len lt key 0 n
  generalize srt lt key 0 n = l at *
  have gp : l[p]'(by omega) = j := by rw [← ep]; simp [List.getD, show p < l.length by omega]
  have gq : l[q]'(by omega) = i := by rw [← eq]; simp [List.getD, show q < l.length by omega]
  have hij : leI lt key i j = true := by rw [leI_iff]; exact .inr ⟨e, by omega⟩
  have hqp : q < p := by
    rcases Nat.lt_trichotomy q p with h1 | h1 | h1
    · exact h1
    · subst h1; rw [ep] at eq; omega
    · have g := List.pairwise_iff_getElem.1 hs p q (by omega) (by omega) h1
      rw [gp, gq] at g
      have := leI_anti h key hij g; omega
  obtain ⟨r, rfl⟩ : ∃ r, p = r + 1 := ⟨p - 1, by omega⟩
  refine ⟨r, hp, ep, ?_⟩
  have er : l.getD r 0 = l[r]'(by omega) := by simp [List.getD, show r < l.length by omega]
  rw [er]
  have g1 := List.pairwise_iff_getElem.1 hs r (r + 1) (by omega) (by omega) (by omega)
  rw [gp, leI_iff] at g1
  have g0 : lt (key i) (key l[r]) = true ∨ key i = key l[r] := by
    rcases Nat.lt_or_ge q r with h1 | h1
    · have g := List.pairwise_iff_getElem.1 hs q r (by omega) (by omega) h1
      rw [gq, leI_iff] at g
      exact g.imp id And.left
    · obtain rfl : q = r := by omega
      exact .inr (by rw [gq])
  rcases g1 with g1 | ⟨g1, _⟩
  · rcases g0 with g0 | g0
    · have := h.tr _ _ _ g0 g1; rw [e, h.irr] at this; cases this
    · rw [← g0, e]
  · exact g1
theorem Low.twc {lt : K → K → Bool} (h : Sto lt) {key : Nat → K} {n lo : Nat} {f : Bool} (hl : Low key (srt lt key 0 n) n lo f) : Twc key n lo f := by
  refine ⟨fun hf => ⟨(hl.1 hf).1, fun j hj i hi e => ?_⟩, fun hf => ?_⟩
  · obtain ⟨p, hp, e1, e2⟩ := twin_near h key hj hi e
    exact (hl.1 hf).2 p hp (by rw [e2, e1])
  · obtain ⟨⟨p, hp, e1, e2⟩, hmin⟩ := hl.2 hf
    have hn := srt_next h key n p hp
    refine ⟨by rw [e2]; exact srt_lt lt key n _ hp, ⟨_, by rw [e2]; exact hn.2 e1, by rw [e2]; exact e1⟩, fun j hj i hi e => ?_⟩
    obtain ⟨q, hq, f1, f2⟩ := twin_near h key (show j < n by have := srt_lt lt key n _ hp; omega) hi e
    have := hmin q hq (by rw [f2, f1])
    rw [f1] at this; omega
end
end Go.Proofs.YtgolidabjcmofaaGreatDoor
namespace Go.Proofs.YtgolidabjcmofaaGreatDoor
open Go.RowKit
set_option linter.unusedVariables false
set_option linter.unusedSimpArgs false
theorem less_any (a b : ByteArray) (w : World) :
    Calls Tryz.prog 166 #[.string a, .string b] w fun e w' => e = .returned (.bool (Op.bytesLess a.toList b.toList)) ∧ w = w' := by
  generalize hl : Op.bytesLess a.toList b.toList = r
  go_enter Tryz.func166, Tryz.ntmps166
  go_wp2
  go_ret
  exact ⟨rfl, rfl⟩
theorem cmp_less (i j n cap : Nat) (ad : Option Addr) (l : List ByteArray) (pa pl : Nat) (w : World) (hi : i < l.length) (hj : j < l.length) (hn : l.length = n) (hcap : n ≤ cap) (hm : n ≤ 1000000000) (hr : RdV w ad (sv l))
    (ha : w.cell? ⟨pa, 0, none⟩ = some (.func (.func 166) #[] #[])) (hl : w.cell? ⟨pl, 0, none⟩ = some (.slice ad n cap)) :
    Calls Tryz.prog 195 #[.int .i64 (i : Int), .int .i64 (j : Int), .pointer (some ⟨pa, 0, none⟩), .pointer (some ⟨pl, 0, none⟩)] w fun e w' => e = .returned (.bool (Op.bytesLess (l.getD i ByteArray.empty).toList (l.getD j ByteArray.empty).toList)) ∧ ∃ q, w' = w.drewN q := by
  obtain ⟨b, o, rfl, _, ci⟩ := hr i (by rw [sv_len]; exact hi)
  have cj := hr.at j (by rw [sv_len]; exact hj)
  rw [sv_get l i hi] at ci
  rw [sv_get l j hj] at cj
  have K := Lib.hid (less_any (l.getD i ByteArray.empty) (l.getD j ByteArray.empty))
  clear hr
  have HN := Lib.hid hn; clear hn
  generalize l.getD i ByteArray.empty = x at *
  generalize l.getD j ByteArray.empty = y at *
  have hi1 : (0 : Int) ≤ (i : Int) := by omega
  have hi2 : (i : Int) < (n : Int) := by have := HN.out; omega
  have hj1 : (0 : Int) ≤ (j : Int) := by omega
  have hj2 : (j : Int) < (n : Int) := by have := HN.out; omega
  go_enter Tryz.func195, Tryz.ntmps195
  go_wp2
  go_quiet ((go_at_call 166; exact Calls.quiet_of_same ((K.out _).mono fun _ _ h => ⟨h.1, h.2.symm⟩)))
  go_wp2
  go_ret
  exact ⟨rfl, _, rfl⟩
def CmpOk (lt : List UInt8 → List UInt8 → Bool) (key : Nat → List UInt8) (n pa pl B0 : Nat) (w0 : World) : Prop :=
  ∀ W, Below B0 w0 W → ∀ i j : Nat, i < n → j < n → Calls Tryz.prog 195 #[.int .i64 (i : Int), .int .i64 (j : Int), .pointer (some ⟨pa, 0, none⟩), .pointer (some ⟨pl, 0, none⟩)] W fun e w' => e = .returned (.bool (lt (key i) (key j))) ∧ ∃ q, w' = W.drewN q
def cmpF (pa pl : Nat) : Value := .func (.func 195) #[] #[.pointer (some ⟨pa, 0, none⟩), .pointer (some ⟨pl, 0, none⟩)]
end Go.Proofs.YtgolidabjcmofaaGreatDoor
