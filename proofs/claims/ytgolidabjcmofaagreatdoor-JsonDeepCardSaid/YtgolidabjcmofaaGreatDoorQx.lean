/- Texts of the claim. -/
import Derived.Test.YtgolidabjcmofaaGreatDoorQw
import Derived.Defers
import Derived.Recover
namespace Go.Proofs.YtgolidabjcmofaaGreatDoor
open Go.RowKit Go.Shelf Go.Lib
set_option linter.unusedVariables false
set_option linter.unusedSimpArgs false
def itemL (V : List UInt8 → Nat → PRJ) (us : List MT) (l : List UInt8) (n : Nat) : (List MT × List UInt8 × Nat) ⊕ Int :=
  match V l n with
  | .inr x => .inr x
  | .inl r => .inl (us ++ [r.1], r.2.1, r.2.2)
def memberL (V : List UInt8 → Nat → PRJ) (us : List (List UInt8) × List MT) (l : List UInt8) (n : Nat) : ((List (List UInt8) × List MT) × List UInt8 × Nat) ⊕ Int :=
  match textL (skipL l) with
  | .inr x => .inr x
  | .inl r =>
    if nextL r.2 = 58 then
      match V (skipL r.2).tail n with
      | .inr x => .inr x
      | .inl q => .inl ((us.1 ++ [r.1], us.2 ++ [q.1]), q.2.1, q.2.2)
    else .inr 2
def barr (us : List MT) : MT := arrT none us.length 0 us
def bobj (ks : List ByteArray) (us : List MT) : MT := objT none ks.length 0 none us.length 0 ks us
def strs (l : List (List UInt8)) : List ByteArray := l.map fun x => ⟨x.toArray⟩
def sortedK (ks : List ByteArray) : List Nat := srt Op.bytesLess (fun i => (ks.getD i ByteArray.empty).toList) 0 ks.length
def arrL (V : List UInt8 → Nat → PRJ) (d n : Nat) (s : List UInt8) : PRJ :=
  match loopL (itemL V) 93 (d + 1) (s.length + 1) 0 [] (skipL s).tail n with
  | .inr x => .inr x
  | .inl r => .inl (barr r.1, r.2.1, r.2.2)
def objL (V : List UInt8 → Nat → PRJ) (d n : Nat) (s : List UInt8) : PRJ :=
  match loopL (memberL V) 125 (d + 1) (s.length + 1) 0 ([], []) (skipL s).tail n with
  | .inr x => .inr x
  | .inl r =>
    if r.1.1.Nodup then .inl (bobj ((sortedK (strs r.1.1)).map fun i => (strs r.1.1).getD i ByteArray.empty) ((sortedK (strs r.1.1)).map fun i => r.1.2.getD i (leafT 0 false ⟨#[]⟩)), r.2.1, r.2.2)
    else .inr 2
def valueL : Nat → Nat → List UInt8 → Nat → PRJ
  | 0, _, _, _ => .inr 2
  | f + 1, d, l, n => valueW (arrL (valueL f (d + 1)) d n) (objL (valueL f (d + 1)) d n) l n
def decodeL (l : List UInt8) : MT ⊕ Int :=
  if 32768 < l.length then .inr 4
  else match valueL 66 1 l 1 with
    | .inr x => .inr x
    | .inl r => if skipL r.2.1 = [] then .inl r.1 else .inr 2
def Eats (s : List UInt8) (n : Nat) (r : PRJ) : Prop := ∀ p, r = .inl p → p.2.1.length < s.length ∧ (n ≤ 2000 → p.2.2 ≤ 2000)
theorem loopL_eats {σ : Type} {P : σ → List UInt8 → Nat → (σ × List UInt8 × Nat) ⊕ Int} {c : UInt8} {d : Nat} (h0 : c ≠ 0)
    (hP : ∀ s l n r, P s l n = .inl r → r.2.1.length < l.length ∧ (n ≤ 2000 → r.2.2 ≤ 2000)) :
    ∀ (f many : Nat) (s : σ) (l : List UInt8) (n : Nat) (r : σ × List UInt8 × Nat), loopL P c d f many s l n = .inl r → r.2.1.length < l.length ∧ (n ≤ 2000 → r.2.2 ≤ 2000) := by
  intro f
  induction f with
  | zero => intro many s l n r h; cases h
  | succ f ih =>
    intro many s l n r h
    have hsk := skipL_len l
    unfold loopL at h
    split at h
    · rename_i hx
      obtain ⟨r', hs⟩ := head_cons h0 hx
      simp only [Sum.inl.injEq] at h
      subst h
      simp only
      rw [hs] at hsk ⊢
      simp only [List.length_cons, List.tail_cons] at hsk ⊢
      exact ⟨by omega, fun h => h⟩
    · split at h
      · cases h
      · split at h
        · rename_i hlim
          split at h
          · cases h
          · rename_i q hq
            have h1 := hP _ _ _ _ hq
            have h2 := ih _ _ _ _ _ h
            have h3 := left_le (0 < many) l
            exact ⟨by omega, fun hn => h2.2 (h1.2 (by omega))⟩
        · cases h
theorem wordL_eats {W : List UInt8} {t : MT} {s : List UInt8} {n : Nat} (hW : 0 < W.length) : Eats s n (wordL W t s n) := by
  intro p h
  unfold wordL at h
  split at h
  · rename_i hp
    simp only [Sum.inl.injEq] at h
    subst h
    have := (List.isPrefixOf_iff_prefix.1 (by unfold Lib.hasPrefix at hp; exact hp)).length_le
    simp only [Lib.trimPrefix, hp, if_true, List.length_drop]
    exact ⟨by omega, fun h => h⟩
  · cases h
theorem unqAt_pos {s : ByteArray} {k : Int} {p : List UInt8 × Nat} (h : unqAt s k = some p) : 0 < p.2 := by
  unfold unqAt at h
  split at h
  · obtain ⟨q, _, rfl⟩ := Option.map_eq_some_iff.1 h
    simp only; omega
  · cases h
theorem textL_eats {s t r : List UInt8} (h : textL s = .inl (t, r)) : r.length < s.length := by
  unfold textL at h
  split at h
  · cases h
  · rename_i q hq
    split at h
    · cases h
    · simp only [Sum.inl.injEq, Prod.mk.injEq] at h
      obtain ⟨_, rfl⟩ := h
      have h1 := unqAt_pos hq
      have h2 := unqAt_le hq
      rw [str_size] at h2
      simp only at h1 h2
      rw [List.length_drop]
      omega
theorem trim_lt {s : List UInt8} {cs : List UInt8} {x : UInt8} {r : List UInt8} (hs : s = x :: r) (hx : cs.contains x = true) : (Lib.trimLeftS s cs).length < s.length := by
  subst hs
  unfold Lib.trimLeftS
  rw [List.dropWhile_cons, if_pos hx]
  have := (List.dropWhile_sublist (l := r) (cs.contains ·)).length_le
  simp only [List.length_cons]; omega
theorem numL_eats {s : List UInt8} {p : (Bool × Nat × Int) × List UInt8} {x : UInt8} {r : List UInt8} (hs : s = x :: r) (hx : signsL.contains x = true) (h : numL s = .inl p) : p.2.length < s.length := by
  unfold numL at h
  split at h
  · cases h
  · simp only [Sum.inl.injEq] at h
    subst h
    exact trim_lt hs hx
theorem next_cons {l : List UInt8} (h : (nextL l).toNat ≠ 0) : ∃ r, skipL l = nextL l :: r := head_cons (fun e => h (by rw [e]; rfl)) rfl
theorem sign_has {x : UInt8} (h : x.toNat = 45 ∨ 48 ≤ x.toNat ∧ x.toNat ≤ 57) : signsL.contains x = true := by
  have : x = 45 ∨ x = 48 ∨ x = 49 ∨ x = 50 ∨ x = 51 ∨ x = 52 ∨ x = 53 ∨ x = 54 ∨ x = 55 ∨ x = 56 ∨ x = 57 := by
    simp only [← UInt8.toNat_inj]
    have e : (45 : UInt8).toNat = 45 ∧ (48 : UInt8).toNat = 48 ∧ (49 : UInt8).toNat = 49 ∧ (50 : UInt8).toNat = 50 ∧ (51 : UInt8).toNat = 51 ∧ (52 : UInt8).toNat = 52 ∧ (53 : UInt8).toNat = 53 ∧ (54 : UInt8).toNat = 54 ∧ (55 : UInt8).toNat = 55 ∧ (56 : UInt8).toNat = 56 ∧ (57 : UInt8).toNat = 57 := by decide
    omega
  rcases this with rfl | rfl | rfl | rfl | rfl | rfl | rfl | rfl | rfl | rfl | rfl <;> decide
theorem valueW_eats {A O : List UInt8 → PRJ} {l : List UInt8} {n : Nat} (hA : ∀ s, Eats s n (A s)) (hO : ∀ s, Eats s n (O s)) : Eats l n (valueW A O l n) := by
  have hsk := skipL_len l
  have up : ∀ r, Eats (skipL l) n r → Eats l n r := fun r h p hp => ⟨Nat.lt_of_lt_of_le (h p hp).1 hsk, (h p hp).2⟩
  unfold valueW
  split
  · exact up _ (wordL_eats (by decide))
  · split
    · exact up _ (wordL_eats (by decide))
    · split
      · exact up _ (wordL_eats (by decide))
      · split
        · rename_i hx
          refine up _ (fun p hp => ?_)
          unfold numP at hp
          split at hp
          · cases hp
          · rename_i q hq
            simp only [Sum.inl.injEq] at hp
            subst hp
            obtain ⟨r, hr⟩ := next_cons (l := l) (by omega)
            exact ⟨numL_eats hr (sign_has hx) hq, fun h => h⟩
        · split
          · refine up _ (fun p hp => ?_)
            unfold textP at hp
            split at hp
            · cases hp
            · rename_i q hq
              simp only [Sum.inl.injEq] at hp
              subst hp
              exact ⟨textL_eats (t := q.1) hq, fun h => h⟩
          · split
            · exact up _ (hA _)
            · split
              · exact up _ (hO _)
              · intro p hp; cases hp
theorem arrL_eats {V : List UInt8 → Nat → PRJ} {d n : Nat} (hV : ∀ s n, Eats s n (V s n)) (s : List UInt8) : Eats s n (arrL V d n s) := by
  intro p hp
  unfold arrL at hp
  split at hp
  · cases hp
  · rename_i q hq
    simp only [Sum.inl.injEq] at hp
    subst hp
    have h := loopL_eats (by decide) (fun us l n r h => by
      unfold itemL at h
      split at h
      · cases h
      · rename_i p hp
        simp only [Sum.inl.injEq] at h
        subst h
        exact hV _ _ _ hp) _ _ _ _ _ _ hq
    have h2 := skipL_len s
    rw [List.length_tail] at h
    exact ⟨by simp only; omega, h.2⟩
theorem memberL_eats {V : List UInt8 → Nat → PRJ} (hV : ∀ s n, Eats s n (V s n)) (us : List (List UInt8) × List MT) (l : List UInt8) (n : Nat) (r : (List (List UInt8) × List MT) × List UInt8 × Nat) (h : memberL V us l n = .inl r) : r.2.1.length < l.length ∧ (n ≤ 2000 → r.2.2 ≤ 2000) := by
  unfold memberL at h
  split at h
  · cases h
  · rename_i q hq
    split at h
    · split at h
      · cases h
      · rename_i p hp
        simp only [Sum.inl.injEq] at h
        subst h
        have h1 := textL_eats (t := q.1) (r := q.2) hq
        have h2 := hV _ _ _ hp
        have h3 := skipL_len l
        have h4 := skipL_len q.2
        rw [List.length_tail] at h2
        exact ⟨by simp only; omega, h2.2⟩
    · cases h
theorem objL_eats {V : List UInt8 → Nat → PRJ} {d n : Nat} (hV : ∀ s n, Eats s n (V s n)) (s : List UInt8) : Eats s n (objL V d n s) := by
  intro p hp
  unfold objL at hp
  split at hp
  · cases hp
  · rename_i q hq
    split at hp
    · simp only [Sum.inl.injEq] at hp
      subst hp
      have h := loopL_eats (by decide) (fun us l n r h => memberL_eats hV us l n r h) _ _ _ _ _ _ hq
      have h2 := skipL_len s
      rw [List.length_tail] at h
      exact ⟨by simp only; omega, h.2⟩
    · cases hp
theorem valueL_eats : ∀ (f d : Nat) (l : List UInt8) (n : Nat), Eats l n (valueL f d l n) := by
  intro f
  induction f with
  | zero => intro d l n p h; cases h
  | succ f ih =>
    intro d l n
    unfold valueL
    exact valueW_eats (arrL_eats (ih (d + 1))) (objL_eats (ih (d + 1)))
end Go.Proofs.YtgolidabjcmofaaGreatDoor
namespace Go.Proofs.YtgolidabjcmofaaGreatDoor
open Go.RowKit Go.Shelf Go.Lib
set_option linter.unusedVariables false
set_option linter.unusedSimpArgs false
theorem assert_errnoD (x : Int) (W : World) : (Instr.typeAssert (.iface 31 (.int .i64 x)) 20 31 false).run Tryz.prog W = .ok (.int .i64 x) W := by kernel_rfl
set_option maxHeartbeats 2000000 in
/-- The closure that catches: what was thrown becomes the answer. -/
theorem catch_thrownD (g h : Nat) (v0 v1 v2 v3 v4 v5 v6 v7 u : Value) (x : Int) (older : List PanicEntry) (w : World) (n1 : g ≠ h)
    (c0 : w.cell? ⟨g, 0, none⟩ = some v0) (f0 : w.frozen? ⟨g, 0, none⟩ = false)
    (c1 : w.cell? ⟨g, 1, none⟩ = some v1) (f1 : w.frozen? ⟨g, 1, none⟩ = false)
    (c2 : w.cell? ⟨g, 2, none⟩ = some v2) (f2 : w.frozen? ⟨g, 2, none⟩ = false)
    (c3 : w.cell? ⟨g, 3, none⟩ = some v3) (f3 : w.frozen? ⟨g, 3, none⟩ = false)
    (c4 : w.cell? ⟨g, 4, none⟩ = some v4) (f4 : w.frozen? ⟨g, 4, none⟩ = false)
    (c5 : w.cell? ⟨g, 5, none⟩ = some v5) (f5 : w.frozen? ⟨g, 5, none⟩ = false)
    (c6 : w.cell? ⟨g, 6, none⟩ = some v6) (f6 : w.frozen? ⟨g, 6, none⟩ = false)
    (c7 : w.cell? ⟨g, 7, none⟩ = some v7) (f7 : w.frozen? ⟨g, 7, none⟩ = false)
    (ch : w.cell? ⟨h, 0, none⟩ = some u) (fh : w.frozen? ⟨h, 0, none⟩ = false) :
    CallsD Tryz.prog 24 #[.pointer (some ⟨g, 0, none⟩), .pointer (some ⟨h, 0, none⟩)] (.panicking ({ v := .iface 31 (.int .i64 x), recovered := false } :: older)) w fun e u' w' =>
      e = .returned (.tuple #[]) ∧ u' = .panicking ({ v := .iface 31 (.int .i64 x), recovered := true } :: older) ∧
        w' = (((((((((w.setCell ⟨g, 0, none⟩ (.int .i64 0)).setCell ⟨g, 1, none⟩ (.bool false)).setCell ⟨g, 2, none⟩ (.bool false)).setCell ⟨g, 3, none⟩ (.slice none 0 0)).setCell ⟨g, 4, none⟩ (.int .i64 0)).setCell ⟨g, 5, none⟩ (.string ⟨#[]⟩)).setCell ⟨g, 6, none⟩ (.slice none 0 0)).setCell ⟨g, 7, none⟩ (.slice none 0 0)).setCell ⟨h, 0, none⟩ (.int .i64 x)).drew := by
  refine callsD_of_wpS Tryz.func24 rfl fun c₀ cs hu => ?_
  apply wpS_seq
  apply wpS_region
  simp [wpOpsS, go_sem, recoverD, hu, Tryz.ntmps24, Exit.thenS]
  apply wpS_seq
  apply wpS_region
  simp [wpOpsS, go_sem, Exit.thenS]
  refine wpS_cond (t := true) (by simp [Act.eval, Array.replicate]) ?_
  simp only [if_true]
  refine wpS_of_wp ?_
  change Code.wp _ _ _ { tmps := #[.pointer (some ⟨g, 0, none⟩), .pointer (some ⟨h, 0, none⟩), .iface 31 (.int .i64 x), .iface 31 (.int .i64 x), .iface 31 (.int .i64 x), .bool true, undef, undef, undef], defers := [] } w
  have hne1 : ¬ h = g := fun hh => n1 hh.symm
  have hta := assert_errnoD x
  go_region
  exact ⟨rfl, _, rfl, .tuple #[], by simp [results, Tryz.results24, go_sem], rfl, rfl, rfl⟩
end Go.Proofs.YtgolidabjcmofaaGreatDoor
