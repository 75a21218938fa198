/- The walk of the reference's Parse. -/
import Derived.Test.YtokppjfaihkkcaaDoorRp
import Derived.Deep.RegionWith
import Derived.Deep.RegionHeld3
import Derived.Deep.DeepCutAuto
namespace Go.Proofs.YtokppjfaihkkcaaDoor
open Go.RowKit
set_option linter.unusedVariables false
set_option linter.unusedSimpArgs false

theorem below_drewr {w w' : World} (h : Below w.heap.size w w') : Below w.heap.size w w'.drew := h.trans ⟨rfl, rfl, rfl, Nat.le_refl _, fun _ _ => rfl⟩
/-- The reference's Mul, Add of what the call owns by a literal of one limb that stands somewhere. -/
theorem lit_rd {W : World} {g x : Nat} (hc : W.cell? ⟨g, 0, none⟩ = some (.int .u32 (x : Int))) : Rd W (some ⟨g, 0, none⟩) [x] := by
  intro i hi
  have h0 : i = 0 := by simpa using hi
  subst h0
  exact ⟨g, 0, rfl, World.block_lt_of_cell? W _ hc, hc⟩
theorem refMul_at {B : Nat} {v : Value} {zs : List Nat} {W : World} {g x : Nat} (h : Own B W v zs) (hl : zs.length ≤ 1000000) (hx : x < B32) (hc : W.cell? ⟨g, 0, none⟩ = some (.int .u32 (x : Int))) :
    Calls Tryd.prog 45 #[v, .slice (some ⟨g, 0, none⟩) 1 1] W (Gives (val zs * x) W) := by
  obtain ⟨ad, cap, rfl, hcp, hr, _⟩ := h.view
  have := refMul_any ad zs.length cap zs (some ⟨g, 0, none⟩) 1 1 [x] W rfl hcp hl h.1 hr rfl (Nat.le_refl _) (by omega) (Okl.cons hx Okl.nil) (lit_rd hc)
  have hv : val [x] = x := by simp [val]
  rwa [hv] at this
theorem refAdd_at {B : Nat} {v : Value} {zs : List Nat} {W : World} {g x : Nat} (h : Own B W v zs) (hl : zs.length ≤ 1000000) (hx : x < B32) (hc : W.cell? ⟨g, 0, none⟩ = some (.int .u32 (x : Int))) :
    Calls Tryd.prog 65 #[v, .slice (some ⟨g, 0, none⟩) 1 1] W (Gives (val zs + x) W) := by
  obtain ⟨ad, cap, rfl, hcp, hr, _⟩ := h.view
  have := refAdd_any ad zs.length cap zs (some ⟨g, 0, none⟩) 1 1 [x] W rfl hcp hl h.1 hr rfl (Nat.le_refl _) (by omega) (Okl.cons hx Okl.nil) (lit_rd hc)
  have hv : val [x] = x := by simp [val]
  rwa [hv] at this

def PaRel (G : Nat) (s : ByteArray) (w : World) (g : Nat) (l i : Value) (wr : World) : Prop :=
  ∃ k, s.size - k ≤ g ∧ k ≤ s.size ∧ i = .int .i64 ((k : Nat) : Int) ∧ Okd ((nums s).take k) ∧ Own G wr l (limbs (hval ((nums s).take k))) ∧ Below G w wr
theorem len_hval {l : List Nat} (h : Okd l) : (limbs (hval l)).length ≤ l.length :=
  limbs_length_le (Nat.lt_of_lt_of_le (hval_lt h) (ten_le _))

set_option maxHeartbeats 8000000 in
set_option maxRecDepth 100000 in
theorem refParse_any (s : ByteArray) (w : World) (hmax : s.size ≤ maxLen) :
    Calls Tryd.prog 35 #[.string s] w (ParsePost (nums s) w) := by
  unfold maxLen at hmax
  by_cases h0 : s.size < 1
  · have hbad : ¬ (0 < (nums s).length ∧ (nums s).length ≤ 2000 ∧ Okd (nums s)) := by rw [nums_len]; omega
    have HB := Lib.hid hbad; clear hbad
    have h0z : (s.size : Int) < 1 := by omega
    go_enter Tryd.func35, Tryd.ntmps35
    go_wp2
    go_ret2
    exact ⟨.inr ⟨HB.out, rfl⟩, Below.refl _ _⟩
  · have h0z : ¬ (s.size : Int) < 1 := by omega
    by_cases h2 : 2000 < s.size
    · have hbad : ¬ (0 < (nums s).length ∧ (nums s).length ≤ 2000 ∧ Okd (nums s)) := by rw [nums_len]; omega
      have HB := Lib.hid hbad; clear hbad
      have h2z : (2000 : Int) < (s.size : Int) := by omega
      go_enter Tryd.func35, Tryd.ntmps35
      go_wp2
      go_ret2
      exact ⟨.inr ⟨HB.out, rfl⟩, Below.refl _ _⟩
    · have h2z : ¬ (2000 : Int) < (s.size : Int) := by omega
      have HST := Lib.hid (show PaRel w.heap.size s w s.size (.slice none 0 0) (.int .i64 0) w from ⟨0, by omega, by omega, rfl, by rw [List.take_zero]; exact Okd.nil, by rw [List.take_zero]; exact Own.nil _ _, Below.refl _ _⟩)
      have HUN := Lib.hid (fun W (h : Below w.heap.size w W) => h.size)
      generalize hB : w.heap.size = B at *
      have HB := Lib.hid hB; clear hB
      go_enter Tryd.func35, Tryd.ntmps35
      go_wp2
      clear h0z h2z
      go_loopg [4, 5] s.size (fun g l i wr => PaRel B s w g l i wr)
      case atStart => exact HST.out
      case round =>
        obtain ⟨k, hk, hks, rfl, hod, hown, hbl⟩ := hrel
        by_cases hp : k < s.size
        · obtain ⟨g, rfl⟩ : ∃ g, gk = g + 1 := ⟨gk - 1, by omega⟩
          have hpz : (k : Int) < (s.size : Int) := by omega
          have hat := nums_at s k hp
          have htk := take_snoc' (nums s) k (by rw [nums_len]; exact hp)
          rw [hat] at htk
          have hmem : s[k].toNat ∈ nums s := by
            have h1 : s[k].toNat ∈ (nums s).take (k + 1) := by rw [htk]; simp
            exact List.mem_of_mem_take h1
          have HT := Lib.hid htk; have HM := Lib.hid hmem
          have hlim := len_hval hod
          rw [List.length_take, nums_len] at hlim
          have HLIM := Lib.hid hlim
          have HOD := Lib.hid hod; have HOW := Lib.hid hown; have HBL := Lib.hid hbl
          clear hat htk hmem hlim hod hown hbl
          generalize hX : s[k] = x at *
          have hxl := x.toNat_lt
          by_cases h1 : x.toNat < 48
          · have hbad : ¬ Okd (nums s) := fun h => by have := h _ HM.out; omega
            have HBD := Lib.hid (show ¬ (0 < (nums s).length ∧ (nums s).length ≤ 2000 ∧ Okd (nums s)) from fun h => hbad h.2.2)
            have h1z : decide ((x.toNat : Int) < 48) = true := decide_eq_true (by omega)
            clear hbad
            go_wp2
            go_ret2
            exact ⟨.inr ⟨HBD.out, rfl⟩, by rw [HB.out]; exact HBL.out⟩
          · have h1z : decide ((x.toNat : Int) < 48) = false := decide_eq_false (by omega)
            by_cases h2 : 57 < x.toNat
            · have hbad : ¬ Okd (nums s) := fun h => by have := h _ HM.out; omega
              have HBD := Lib.hid (show ¬ (0 < (nums s).length ∧ (nums s).length ≤ 2000 ∧ Okd (nums s)) from fun h => hbad h.2.2)
              have h2z : decide ((57 : Int) < (x.toNat : Int)) = true := decide_eq_true (by omega)
              clear hbad
              go_wp2
              go_ret2
              exact ⟨.inr ⟨HBD.out, rfl⟩, by rw [HB.out]; exact HBL.out⟩
            · have h2z : decide ((57 : Int) < (x.toNat : Int)) = false := decide_eq_false (by omega)
              have hod2 : Okd ((nums s).take (k + 1)) := by rw [HT.out]; exact HOD.out.snoc (by omega) (by omega)
              have hv : hval ((nums s).take (k + 1)) = hval ((nums s).take k) * 10 + (x.toNat - 48) := by rw [HT.out, hval_snoc]; omega
              have HOD2 := Lib.hid hod2; have HV := Lib.hid hv
              clear hod2 hv
              obtain ⟨d, hd⟩ : ∃ d : Nat, x.toNat - 48 = d := ⟨_, rfl⟩
              have hdz : (x.toNat : Int) - 48 = (d : Int) := by omega
              have hdb : d ≤ 9 := by omega
              rw [hd] at HV
              have hw8 : IntKind.u8.wrap (d : Int) = (d : Int) := by rw [show IntKind.u8.wrap (d : Int) = (d : Int) % 256 by simp [IntKind.wrap, IntKind.bits, IntKind.signed]]; omega
              have hw32 : IntKind.u32.wrap (d : Int) = (d : Int) := by rw [show IntKind.u32.wrap (d : Int) = (d : Int) % 4294967296 by simp [IntKind.wrap, IntKind.bits, IntKind.signed]]; omega
              go_upto_region 9 with fail
              have hll : (limbs (hval ((nums s).take k) * 10)).length ≤ 3000 := by
                have h1 := hval_lt HOD.out
                rw [List.length_take, nums_len, Nat.min_eq_left (by omega)] at h1
                have h3 : hval ((nums s).take k) * 10 < tenN (k + 1) := by rw [tenN_succ]; omega
                have := limbs_length_le (Nat.lt_of_lt_of_le h3 (ten_le (k + 1))); omega
              have KM := Lib.hid (fun W g (hW : Below wr.heap.size wr W) (hc : W.cell? ⟨g, 0, none⟩ = some (.int .u32 ((10 : Nat) : Int))) => refMul_at (HOW.out.below hW) (by have := HLIM.out; omega) (x := 10) (by decide) hc)
              have KA := Lib.hid (fun W B' v g (ho : Own B' W v (limbs (hval ((nums s).take k) * 10))) (hc : W.cell? ⟨g, 0, none⟩ = some (.int .u32 (d : Int))) => refAdd_at ho (by omega) (x := d) (by rw [B32_eq]; omega) hc)
              rw [val_limbs] at KM KA
              have KA2 := Lib.hid (fun W B' v g ho hc => HV.out ▸ KA.out W B' v g ho hc)
              have HF := Lib.hid (fun W0 W1 W1x W2 v2 (hw : Below wr.heap.size wr W0) (h1 : Below W0.heap.size W0 W1) (hx : Below W1.heap.size W1 W1x) (h2 : Below W1x.heap.size W1x W2) (ho : Own W1x.heap.size W2 v2 (limbs (hval ((nums s).take (k + 1))))) =>
                (⟨k + 1, by omega, by omega, by go_num, HOD2.out, ho.mono (Nat.le_trans (HUN.out _ HBL.out) (Nat.le_trans hw.size (Nat.le_trans h1.size hx.size))), HBL.out.trans ((below_on (below_on (below_on hw h1) hx) h2).mono (HUN.out _ HBL.out))⟩ : PaRel B s w g v2 (.int .i64 ((k : Int) + 1)) W2))
              clear KA hll
              go_region_with (first
                | (go_at_call 45; (with_reducible refine (KM.out _ _ (by first | exact below_drewr ((Below.refl _ _).alloc (Nat.le_refl _) _) | exact below_drewr (((Below.refl _ _).alloc (Nat.le_refl _) _).alloc (by simp) _)) (by simp)).mono ?_); rintro r W1 ⟨v1, rfl, ho1, hb1⟩; have H1 := Lib.hid ho1; have HB1 := Lib.hid hb1; clear ho1 hb1)
                | (go_at_call 65; (with_reducible refine (KA2.out _ _ _ _ (by first | exact H1.out.below ((Below.refl _ _).alloc (Nat.le_refl _) _) | exact H1.out) (by first | (simp; done) | exact (HB1.out.cell (by simp; try omega)).trans (by simp))).mono ?_); rintro r W2 ⟨v2, rfl, ho2, hb2⟩; have H2 := Lib.hid ho2; have HB2 := Lib.hid hb2; clear ho2 hb2))
              all_goals
                go_wp2
                go_roundg g
                case rel => first
                  | exact HF.out _ _ _ _ _ (below_drewr ((Below.refl _ _).alloc (Nat.le_refl _) _)) HB1.out ((Below.refl _ _).alloc (Nat.le_refl _) _) HB2.out H2.out
                  | exact HF.out _ _ _ _ _ (below_drewr (((Below.refl _ _).alloc (Nat.le_refl _) _).alloc (by simp) _)) HB1.out (Below.refl _ _) HB2.out H2.out
                case measure => omega
        · have hpz : ¬ (k : Int) < (s.size : Int) := by omega
          have e : (nums s).take k = nums s := List.take_of_length_le (by rw [nums_len]; omega)
          rw [e] at hod hown
          have HP := Lib.hid (show ParsePost (nums s) w (.returned (.tuple #[u4, .bool true])) wr from ⟨.inl ⟨by rw [nums_len]; omega, by rw [nums_len]; omega, hod, u4, rfl, by rw [HB.out]; exact hown⟩, by rw [HB.out]; exact hbl⟩)
          clear hod hown hbl e
          go_wp2
          go_ret2
          exact HP.out
end Go.Proofs.YtokppjfaihkkcaaDoor
