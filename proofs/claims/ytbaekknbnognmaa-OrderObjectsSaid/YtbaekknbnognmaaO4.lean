/- The walk of package order's merge. -/
import Derived.Test.YtbaekknbnognmaaO3
import Derived.Deep.DeepCutAuto
namespace Go.Proofs.Ytbaekknbnognmaa
open Go.RowKit
set_option linter.unusedVariables false
set_option linter.unusedSimpArgs false

/-- The list that is filled: so many of the merged stand in it. -/
def fillT (T M : List Nat) (s k : Nat) : List Nat := T.take s ++ M.take k ++ T.drop (s + k)
theorem fillT_len {T M : List Nat} {s k : Nat} (h1 : s + k ≤ T.length) (h2 : k ≤ M.length) : (fillT T M s k).length = T.length := by
  unfold fillT; simp; omega
theorem fillT_zero (T M : List Nat) (s : Nat) : fillT T M s 0 = T := by simp [fillT]
theorem fillT_set {T M : List Nat} {s k : Nat} (h1 : s + k < T.length) (h2 : k < M.length) : (fillT T M s k).set (s + k) (M.getD k 0) = fillT T M s (k + 1) := by
  unfold fillT
  apply List.ext_getElem?
  intro i
  rw [List.getElem?_set]
  by_cases e : s + k = i
  · subst e
    rw [if_pos rfl, if_pos (by simp; omega)]
    rw [List.getElem?_append_left (by simp; omega), List.getElem?_append_right (by simp; omega)]
    simp only [List.length_take]
    rw [Nat.min_eq_left (by omega), Nat.add_sub_cancel_left, List.getElem?_take, if_pos (by omega)]
    simp [List.getD, h2]
  · rw [if_neg e]
    simp only [List.append_assoc, List.getElem?_append, List.getElem?_take, List.length_take, List.getElem?_drop]
    rw [Nat.min_eq_left (show s ≤ T.length by omega), Nat.min_eq_left (show k ≤ M.length by omega), Nat.min_eq_left (show k + 1 ≤ M.length by omega)]
    by_cases h : i < s
    · simp [h]
    · by_cases h' : i - s < k
      · simp [h, h', show i - s < k + 1 by omega]
      · simp only [h, h', show ¬ i - s < k + 1 by omega, if_false]
        congr 1; omega

/-- What stands before each round of merge. -/
def MR (lt : List UInt8 → List UInt8 → Bool) (key : Nat → List UInt8) (n g s m : Nat) (M T : List Nat) (w : World) (a b i : Value) (wr : World) : Prop :=
  ∃ (k : Nat) (A B : List Nat) (ad1 ad2 : Option Addr) (c1 c2 : Nat), i = .int .i64 (k : Int) ∧ k + (A.length + B.length) = m ∧ a = .slice ad1 A.length c1 ∧ b = .slice ad2 B.length c2 ∧ A.length ≤ c1 ∧ B.length ≤ c2 ∧
    RdV wr ad1 (A.map iv) ∧ RdV wr ad2 (B.map iv) ∧ (∀ x, ad1 = some x → 0 < A.length → x.block ≠ g) ∧ (∀ x, ad2 = some x → 0 < B.length → x.block ≠ g) ∧
    mrg lt key A B = M.drop k ∧ (∀ x ∈ A, x < n) ∧ (∀ x ∈ B, x < n) ∧ (∀ x ∈ A, ∀ y ∈ B, x < y) ∧ BlkV wr g 3 ((fillT T M s k).map iv) ∧ But g w wr

theorem drop_get {M R : List Nat} {k y : Nat} (h : M.drop k = y :: R) : k < M.length ∧ M.getD k 0 = y ∧ M.drop (k + 1) = R := by
  have hk : k < M.length := by
    rcases Nat.lt_or_ge k M.length with h1 | h1
    · exact h1
    · rw [List.drop_of_length_le h1] at h; cases h
  rw [List.drop_eq_getElem_cons hk] at h
  injection h with h1 h2
  exact ⟨hk, by simp [List.getD, hk, h1], h2⟩
theorem iv_set (l : List Nat) (i x : Nat) : (l.map iv).set i (.int .i64 (x : Int)) = (l.set i x).map iv := by
  rw [List.map_set]; rfl
theorem fill_blk {w : World} {g s k m x : Nat} {T M R : List Nat} {W : World} (hT : BlkV W g 3 ((fillT T M s k).map iv)) (hd : M.drop k = x :: R) (hse : s + m ≤ T.length) (hk : k < m) :
    BlkV (W.setCell ⟨g, s + k, none⟩ (.int .i64 (x : Int))) g 3 ((fillT T M s (k + 1)).map iv) := by
  obtain ⟨h1, h2, h3⟩ := drop_get hd
  have := hT.set (s + k) (.int .i64 (x : Int))
  rw [iv_set, ← h2, fillT_set (by omega) h1, h2] at this
  exact this
theorem keep_rd {W : World} {g i : Nat} {v : Value} {ad : Option Addr} {A : List Nat} (h : RdV W ad (A.map iv)) (n : ∀ x, ad = some x → 0 < A.length → x.block ≠ g) : RdV (W.setCell ⟨g, i, none⟩ v) ad (A.map iv) :=
  ((But.refl g W).setCell i v).rd h (fun a e hp => n a e (by simpa using hp))
/-- The next one is b's. -/
theorem MR.right {lt : List UInt8 → List UInt8 → Bool} {key : Nat → List UInt8} {n g s m k : Nat} {M T A B : List Nat} {y : Nat} {w wr : World} {ad1 ad2 : Option Addr} {c1 c2 : Nat} {q : Nat} (hk : k + (A.length + (B.length + 1)) = m) (h1 : A.length ≤ c1) (h2 : B.length ≤ c2)
    (r1 : RdV wr ad1 (A.map iv)) (r2 : RdV wr ad2 (B.map iv)) (n1 : ∀ x, ad1 = some x → 0 < A.length → x.block ≠ g) (n2 : ∀ x, ad2 = some x → 0 < B.length → x.block ≠ g)
    (hM : mrg lt key A (y :: B) = M.drop k) (hy : mrg lt key A (y :: B) = y :: mrg lt key A B) (a1 : ∀ x ∈ A, x < n) (a2 : ∀ x ∈ y :: B, x < n) (a3 : ∀ x ∈ A, ∀ z ∈ y :: B, x < z)
    (hT : BlkV wr g 3 ((fillT T M s k).map iv)) (hb : But g w wr) (hse : s + m ≤ T.length) : MR lt key n g s m M T w (.slice ad1 A.length c1) (.slice ad2 B.length c2) (.int .i64 ((k : Int) + 1)) ((wr.drewN q).setCell ⟨g, s + k, none⟩ (.int .i64 (y : Int))) := by
  rw [hy] at hM
  exact ⟨k + 1, A, B, ad1, ad2, c1, c2, rfl, by omega, rfl, rfl, h1, h2, keep_rd (W := wr.drewN q) r1 n1, keep_rd (W := wr.drewN q) r2 n2, n1, n2, (drop_get hM.symm).2.2.symm, a1, fun x hx => a2 x (by simp [hx]), fun x hx z hz => a3 x hx z (by simp [hz]),
    fill_blk (w := w) (m := m) (W := wr.drewN q) hT hM.symm hse (by omega), (hb.drewN q).setCell _ _⟩
/-- The next one is a's. -/
theorem MR.left {lt : List UInt8 → List UInt8 → Bool} {key : Nat → List UInt8} {n g s m k : Nat} {M T A B : List Nat} {x : Nat} {w wr : World} {ad1 ad2 : Option Addr} {c1 c2 : Nat} {q : Nat} (hk : k + ((A.length + 1) + B.length) = m) (h1 : A.length ≤ c1) (h2 : B.length ≤ c2)
    (r1 : RdV wr ad1 (A.map iv)) (r2 : RdV wr ad2 (B.map iv)) (n1 : ∀ x, ad1 = some x → 0 < A.length → x.block ≠ g) (n2 : ∀ x, ad2 = some x → 0 < B.length → x.block ≠ g)
    (hM : mrg lt key (x :: A) B = M.drop k) (hx : mrg lt key (x :: A) B = x :: mrg lt key A B) (a1 : ∀ z ∈ x :: A, z < n) (a2 : ∀ x ∈ B, x < n) (a3 : ∀ u ∈ x :: A, ∀ z ∈ B, u < z)
    (hT : BlkV wr g 3 ((fillT T M s k).map iv)) (hb : But g w wr) (hse : s + m ≤ T.length) : MR lt key n g s m M T w (.slice ad1 A.length c1) (.slice ad2 B.length c2) (.int .i64 ((k : Int) + 1)) ((wr.drewN q).setCell ⟨g, s + k, none⟩ (.int .i64 (x : Int))) := by
  rw [hx] at hM
  exact ⟨k + 1, A, B, ad1, ad2, c1, c2, rfl, by omega, rfl, rfl, h1, h2, keep_rd (W := wr.drewN q) r1 n1, keep_rd (W := wr.drewN q) r2 n2, n1, n2, (drop_get hM.symm).2.2.symm, fun u hu => a1 u (by simp [hu]), a2, fun u hu z hz => a3 u (by simp [hu]) z hz,
    fill_blk (w := w) (m := m) (W := wr.drewN q) hT hM.symm hse (by omega), (hb.drewN q).setCell _ _⟩
/-- Where the rest of a list begins, and that it can be read there. -/
theorem rest_rd {W : World} {b o c g : Nat} {x : Nat} {A : List Nat} (h : RdV W (some ⟨b, o, none⟩) ((x :: A).map iv)) (hc : A.length + 1 ≤ c) (n : ∀ z, (some ⟨b, o, none⟩ : Option Addr) = some z → 0 < (x :: A).length → z.block ≠ g) :
    ∃ o2, (if c = 1 then (some ⟨b, o, none⟩ : Option Addr) else some ⟨b, o + 1, none⟩) = some ⟨b, o2, none⟩ ∧ RdV W (some ⟨b, o2, none⟩) (A.map iv) ∧ (∀ z, (some ⟨b, o2, none⟩ : Option Addr) = some z → 0 < A.length → z.block ≠ g) := by
  have hb : b ≠ g := n _ rfl (by simp)
  by_cases h1 : c = 1
  · have hA : A = [] := by cases A with
      | nil => rfl
      | cons => simp at hc; omega
    subst hA
    exact ⟨o, by rw [if_pos h1], RdV.nil _ _, fun z _ hp => absurd hp (by simp)⟩
  · exact ⟨o + 1, by rw [if_neg h1], h.drop 1, fun z e _ => by cases e; exact hb⟩
set_option maxHeartbeats 2000000 in
theorem merge_any {lt : List UInt8 → List UInt8 → Bool} (hs : Sto lt) {key : Nat → List UInt8} {n pa pl B0 : Nat} {w0 : World} (hc : CmpOk lt key n pa pl B0 w0) (g s m capO : Nat) (ad1 ad2 : Option Addr) (c1 c2 : Nat) (A B T : List Nat) (w : World)
    (hm : A.length + B.length = m) (h1 : A.length ≤ c1) (h2 : B.length ≤ c2) (hmm : m ≤ 1000000000) (r1 : RdV w ad1 (A.map iv)) (r2 : RdV w ad2 (B.map iv)) (n1 : ∀ x, ad1 = some x → 0 < A.length → x.block ≠ g) (n2 : ∀ x, ad2 = some x → 0 < B.length → x.block ≠ g)
    (a1 : ∀ x ∈ A, x < n) (a2 : ∀ x ∈ B, x < n) (a3 : ∀ x ∈ A, ∀ y ∈ B, x < y) (hT : BlkV w g 3 (T.map iv)) (hse : s + m ≤ T.length) (hco : m ≤ capO) (hw : Below B0 w0 w) (hg : B0 ≤ g) (hB : B0 ≤ w.heap.size) :
    Calls Try.prog 45 #[.slice (some ⟨g, s, none⟩) m capO, .slice ad1 A.length c1, .slice ad2 B.length c2, cmpF pa pl] w fun e w' => e = .returned (.tuple #[]) ∧ BlkV w' g 3 ((fillT T (mrg lt key A B) s m).map iv) ∧ But g w w' := by
  have HST := Lib.hid (show MR lt key n g s m (mrg lt key A B) T w (.slice ad1 A.length c1) (.slice ad2 B.length c2) (.int .i64 0) w from
    ⟨0, A, B, ad1, ad2, c1, c2, rfl, by omega, rfl, rfl, h1, h2, r1, r2, n1, n2, rfl, a1, a2, a3, by rw [fillT_zero]; exact hT, But.refl _ _⟩)
  have HML := Lib.hid (show (mrg lt key A B).length = m by rw [mrg_len]; exact hm)
  clear r1 r2 n1 n2 a1 a2 a3 hT h1 h2
  generalize mrg lt key A B = M at *
  generalize A.length = la at *
  generalize B.length = lb at *
  have HC := Lib.hid hc; have HW := Lib.hid hw
  clear hc hw hm A B
  unfold cmpF
  go_enter Try.func45, Try.ntmps45
  go_wp2
  go_loopw [1, 2, 11] (fun a b i wr => MR lt key n g s m M T w a b i wr) (fun _ _ i _ => m - (intOf i).toNat)
  case atStart => exact HST.out
  case round =>
    obtain ⟨k, A, B, ad1, ad2, c1, c2, rfl, hk, rfl, rfl, h1, h2, r1, r2, n1, n2, hM, a1, a2, a3, hT, hBut⟩ := hrel
    have HM := Lib.hid hM; clear hM
    have HT := Lib.hid hT; clear hT
    by_cases hlt : k < m
    · rcases A with _ | ⟨x, A⟩
      · rcases B with _ | ⟨y, B⟩
        · simp at hk; omega
        · obtain ⟨b2, o2, rfl, hb2⟩ := r2.shape (by simp)
          have hcy : wr.cell? ⟨b2, o2, none⟩ = some (.int .i64 (y : Int)) := by simpa [iv] using r2.at 0 (by simp)
          obtain ⟨o3, ho3, r3, n3⟩ := rest_rd r2 h2 n2
          have HO := Lib.hid ho3; clear ho3
          have hk1 : (k : Int) < (m : Int) := by omega
          have hk2 : (0 : Int) ≤ (k : Int) := by omega
          have hfz := HT.out.free (s + k)
          obtain ⟨z, hold⟩ : ∃ z : Nat, wr.cell? ⟨g, s + k, none⟩ = some (.int .i64 (z : Int)) := ⟨_, (HT.out.cell _).trans (iv_get _ _ (by rw [fillT_len (by omega) (by have := HML.out; omega)]; omega))⟩
          have HR := Lib.hid (fun q => MR.right (lt := lt) (key := key) (n := n) (w := w) (A := []) (c2 := c2 - 1) (q := q) (by simpa using hk) h1 (by simp at h2; omega) r1 r3 n1 n3 HM.out (by rw [mrg_nil_left, mrg_nil_left]) a1 a2 a3 HT.out hBut hse)
          clear r1 r2 r3 n1 n2 n3 a1 a2 a3 hBut
          simp only [List.length_nil, List.length_cons] at h1 h2 hk ⊢
          generalize B.length = lb at *
          have h2' : (1 : Int) ≤ (lb : Int) + 1 := by omega
          by_cases hcc : c2 = 1
          · have HO2 := Lib.hid HO.out
            rw [if_pos hcc] at HO2
            obtain rfl : o2 = o3 := by have := HO2.out; simpa using this
            obtain rfl : lb = 0 := by omega
            clear HO HO2
            subst hcc
            go_wp2
            go_quiet (fail)
            go_wp2
            go_region
            all_goals
              go_wp2
              go_roundw
              case rel => exact HR.out _
              case measure => simp [intOf]; omega
          · have HO2 := Lib.hid HO.out
            rw [if_neg hcc] at HO2
            obtain rfl : o3 = o2 + 1 := by have := HO2.out; simpa using this.symm
            clear HO HO2
            go_wp2
            go_quiet (fail)
            go_wp2
            go_region
            all_goals
              go_wp2
              go_roundw
              case rel => exact HR.out _
              case measure => simp [intOf]; omega
      · rcases B with _ | ⟨y, B⟩
        · obtain ⟨b1, o1, rfl, hb1⟩ := r1.shape (by simp)
          have hcx : wr.cell? ⟨b1, o1, none⟩ = some (.int .i64 (x : Int)) := by simpa [iv] using r1.at 0 (by simp)
          obtain ⟨o3, ho3, r3, n3⟩ := rest_rd r1 h1 n1
          have HO := Lib.hid ho3; clear ho3
          have hk1 : (k : Int) < (m : Int) := by omega
          have hk2 : (0 : Int) ≤ (k : Int) := by omega
          have hfz := HT.out.free (s + k)
          obtain ⟨z, hold⟩ : ∃ z : Nat, wr.cell? ⟨g, s + k, none⟩ = some (.int .i64 (z : Int)) := ⟨_, (HT.out.cell _).trans (iv_get _ _ (by rw [fillT_len (by omega) (by have := HML.out; omega)]; omega))⟩
          have HR := Lib.hid (fun q => MR.left (lt := lt) (key := key) (n := n) (w := w) (B := []) (c1 := c1 - 1) (q := q) (by simpa using hk) (by simp at h1; omega) h2 r3 r2 n3 n2 HM.out (by rw [mrg_nil_right, mrg_nil_right]) a1 a2 a3 HT.out hBut hse)
          clear r1 r2 r3 n1 n2 n3 a1 a2 a3 hBut
          simp only [List.length_nil, List.length_cons] at h1 h2 hk ⊢
          generalize A.length = la at *
          have h2' : (1 : Int) ≤ (la : Int) + 1 := by omega
          have h3' : ((la : Int) + 1 == 0) = false := by first | (simp; done) | (simp; omega)
          by_cases hcc : c1 = 1
          · have HO2 := Lib.hid HO.out
            rw [if_pos hcc] at HO2
            obtain rfl : o1 = o3 := by have := HO2.out; simpa using this
            obtain rfl : la = 0 := by omega
            clear HO HO2
            subst hcc
            go_wp2
            go_quiet (fail)
            go_wp2
            go_region
            all_goals
              go_wp2
              go_roundw
              case rel => exact HR.out _
              case measure => simp [intOf]; omega
          · have HO2 := Lib.hid HO.out
            rw [if_neg hcc] at HO2
            obtain rfl : o3 = o1 + 1 := by have := HO2.out; simpa using this.symm
            clear HO HO2
            go_wp2
            go_quiet (fail)
            go_wp2
            go_region
            all_goals
              go_wp2
              go_roundw
              case rel => exact HR.out _
              case measure => simp [intOf]; omega
        · obtain ⟨b1, o1, rfl, hb1⟩ := r1.shape (by simp)
          have hcx : wr.cell? ⟨b1, o1, none⟩ = some (.int .i64 (x : Int)) := by simpa [iv] using r1.at 0 (by simp)
          obtain ⟨b2, o2, rfl, hb2⟩ := r2.shape (by simp)
          have hcy : wr.cell? ⟨b2, o2, none⟩ = some (.int .i64 (y : Int)) := by simpa [iv] using r2.at 0 (by simp)
          have hk1 : (k : Int) < (m : Int) := by omega
          have hk2 : (0 : Int) ≤ (k : Int) := by omega
          have hfz := HT.out.free (s + k)
          obtain ⟨z, hold⟩ : ∃ z : Nat, wr.cell? ⟨g, s + k, none⟩ = some (.int .i64 (z : Int)) := ⟨_, (HT.out.cell _).trans (iv_get _ _ (by rw [fillT_len (by omega) (by have := HML.out; omega)]; omega))⟩
          have hxy := a3 x (by simp) y (by simp)
          have hle := leI_lt hs key hxy
          have HBW := Lib.hid (HW.out.trans (hBut.below hg hB))
          have KC := Lib.hid (fun q => HC.out (wr.drewN q) (below_drewN HBW.out q) y x (a2 y (by simp)) (a1 x (by simp)))
          cases hlt2 : lt (key y) (key x)
          · rw [hlt2] at KC hle
            obtain ⟨o3, ho3, r3, n3⟩ := rest_rd r1 h1 n1
            have HO := Lib.hid ho3; clear ho3
            have HR := Lib.hid (fun q => MR.left (lt := lt) (key := key) (n := n) (w := w) (B := y :: B) (c1 := c1 - 1) (q := q) (by simpa using hk) (by simp at h1; omega) h2 r3 r2 n3 n2 HM.out (mrg_left hle) a1 a2 a3 HT.out hBut hse)
            clear r1 r2 r3 n1 n2 n3 a1 a2 a3 hBut hle hlt2 hxy
            simp only [List.length_cons] at HR
            simp only [List.length_nil, List.length_cons] at h1 h2 hk ⊢
            generalize A.length = la at *
            generalize B.length = lb at *
            have h2' : (1 : Int) ≤ (la : Int) + 1 := by omega
            have h2'' : (1 : Int) ≤ (lb : Int) + 1 := by omega
            have h3' : ((la : Int) + 1 == 0) = false := by first | (simp; done) | (simp; omega)
            have h4' : decide ((0 : Int) < (lb : Int) + 1) = true := by first | (simp; done) | (simp; omega)
            by_cases hcc : c1 = 1
            · have HO2 := Lib.hid HO.out
              rw [if_pos hcc] at HO2
              obtain rfl : o1 = o3 := by have := HO2.out; simpa using this
              obtain rfl : la = 0 := by omega
              clear HO HO2
              subst hcc
              go_wp2
              go_quiet (((go_at_call 39; exact Calls.quiet_of (KC.out _))))
              go_wp2
              go_region
              all_goals
                go_wp2
                go_roundw
                case rel => exact HR.out _
                case measure => simp [intOf]; omega
            · have HO2 := Lib.hid HO.out
              rw [if_neg hcc] at HO2
              obtain rfl : o3 = o1 + 1 := by have := HO2.out; simpa using this.symm
              clear HO HO2
              go_wp2
              go_quiet (((go_at_call 39; exact Calls.quiet_of (KC.out _))))
              go_wp2
              go_region
              all_goals
                go_wp2
                go_roundw
                case rel => exact HR.out _
                case measure => simp [intOf]; omega
          · rw [hlt2] at KC hle
            obtain ⟨o3, ho3, r3, n3⟩ := rest_rd r2 h2 n2
            have HO := Lib.hid ho3; clear ho3
            have HR := Lib.hid (fun q => MR.right (lt := lt) (key := key) (n := n) (w := w) (A := x :: A) (c2 := c2 - 1) (q := q) (by simpa using hk) h1 (by simp at h2; omega) r1 r3 n1 n3 HM.out (mrg_right hle) a1 a2 a3 HT.out hBut hse)
            clear r1 r2 r3 n1 n2 n3 a1 a2 a3 hBut hle hlt2 hxy
            simp only [List.length_cons] at HR
            simp only [List.length_nil, List.length_cons] at h1 h2 hk ⊢
            generalize A.length = la at *
            generalize B.length = lb at *
            have h2' : (1 : Int) ≤ (la : Int) + 1 := by omega
            have h2'' : (1 : Int) ≤ (lb : Int) + 1 := by omega
            have h3' : ((la : Int) + 1 == 0) = false := by first | (simp; done) | (simp; omega)
            have h4' : decide ((0 : Int) < (lb : Int) + 1) = true := by first | (simp; done) | (simp; omega)
            by_cases hcc : c2 = 1
            · have HO2 := Lib.hid HO.out
              rw [if_pos hcc] at HO2
              obtain rfl : o2 = o3 := by have := HO2.out; simpa using this
              obtain rfl : lb = 0 := by omega
              clear HO HO2
              subst hcc
              go_wp2
              go_quiet (((go_at_call 39; exact Calls.quiet_of (KC.out _))))
              go_wp2
              go_region
              all_goals
                go_wp2
                go_roundw
                case rel => exact HR.out _
                case measure => simp [intOf]; omega
            · have HO2 := Lib.hid HO.out
              rw [if_neg hcc] at HO2
              obtain rfl : o3 = o2 + 1 := by have := HO2.out; simpa using this.symm
              clear HO HO2
              go_wp2
              go_quiet (((go_at_call 39; exact Calls.quiet_of (KC.out _))))
              go_wp2
              go_region
              all_goals
                go_wp2
                go_roundw
                case rel => exact HR.out _
                case measure => simp [intOf]; omega
    · obtain rfl : k = m := by omega
      have HF := Lib.hid hBut
      clear r1 r2 n1 n2 a1 a2 a3 hBut
      generalize A.length = la at *
      generalize B.length = lb at *
      go_wp2
      go_end0
      exact ⟨rfl, HT.out, HF.out⟩
end Go.Proofs.Ytbaekknbnognmaa
