/- The walks of the reference's Add, Sub. -/
import Derived.Test.YtokppjfaihkkcaaDoorRq
import Derived.Deep.LoopGhost
import Derived.Deep.DeepCutAuto
namespace Go.Proofs.YtokppjfaihkkcaaDoor
open Go.RowKit
set_option linter.unusedVariables false
set_option linter.unusedSimpArgs false

/-- The reference's Norm of a list that the call owns. -/
theorem refNorm_own {B : Nat} {v : Value} {zs : List Nat} {w0 w : World} (h : Own B w v zs) (hb : Below B w0 w) (hB : B = w0.heap.size) (hl : zs.length ≤ 100000000) :
    Calls Tryd.prog 69 #[v] w (Gives (val zs) w0) := by
  obtain ⟨ad, cap, rfl, hc, hr, _⟩ := h.view
  refine (refNorm_any ad zs.length cap zs w rfl hc hl h.1 hr).mono ?_
  rintro e w' ⟨v', rfl, ho, hb2⟩
  subst hB
  exact ⟨v', rfl, ho.mono hb.size, hb.trans (hb2.mono hb.size)⟩

theorem limb_keep (ad : Option Addr) (n cap : Nat) (xs : List Nat) (i : Nat) (w : World) (hn : xs.length = n) (hcap : n ≤ cap) (hm : n ≤ 1000000000) (hi : i ≤ 1000000000) (ho : Okl xs) (hr : Rd w ad xs) :
    Calls Tryd.prog 70 #[.slice ad n cap, .int .i64 (i : Int)] w fun e w' => e = .returned (.int .u64 ((xs.getD i 0 : Nat) : Int)) ∧ w = w' :=
  (limb_any ad n cap xs i w hn hcap hm hi ho hr).mono fun _ _ ⟨h1, h2⟩ => ⟨h1, h2.symm⟩
def AddRel (G m : Nat) (xs ys : List Nat) (w : World) (g : Nat) (l c i : Value) (wr : World) : Prop :=
  ∃ (k cy : Nat) (zs : List Nat), m + 1 - k ≤ g ∧ k ≤ m + 1 ∧ i = .int .i64 (k : Int) ∧ c = .int .u64 (cy : Int) ∧ RAInv xs ys zs k cy ∧ Own G wr l zs ∧ Below G w wr

set_option maxHeartbeats 4000000 in
set_option maxRecDepth 100000 in
theorem refAdd_any (ad : Option Addr) (n cap : Nat) (xs : List Nat) (ad' : Option Addr) (n' cap' : Nat) (ys : List Nat) (w : World) (hn : xs.length = n) (hcap : n ≤ cap) (hm : n ≤ 1000000) (ho : Okl xs) (hr : Rd w ad xs)
    (hn' : ys.length = n') (hcap' : n' ≤ cap') (hm' : n' ≤ 1000000) (ho' : Okl ys) (hr' : Rd w ad' ys) :
    Calls Tryd.prog 65 #[.slice ad n cap, .slice ad' n' cap'] w (Gives (val xs + val ys) w) := by
  have KA := Lib.hid (fun (i : Nat) W (hi : i ≤ 1000000000) (h : Below w.heap.size w W) => limb_keep ad n cap xs i W hn hcap (by omega) hi ho (hr.below h))
  have KB := Lib.hid (fun (i : Nat) W (hi : i ≤ 1000000000) (h : Below w.heap.size w W) => limb_keep ad' n' cap' ys i W hn' hcap' (by omega) hi ho' (hr'.below h))
  obtain ⟨m, hmm⟩ : ∃ m, max n n' = m := ⟨_, rfl⟩
  have hmz : max (n : Int) (n' : Int) = (m : Int) := by omega
  have hl1 := Lib.hid (show xs.length ≤ m by omega)
  have hl2 := Lib.hid (show ys.length ≤ m by omega)
  have hmb : m ≤ 1000000 := by omega
  have HO := Lib.hid ho; have HO' := Lib.hid ho'
  clear hn hn' hmm ho ho' hr hr'
  have HST := Lib.hid (show AddRel w.heap.size m xs ys w (m + 1) (.slice none 0 0) (.int .u64 0) (.int .i64 0) w from ⟨0, 0, [], by omega, by omega, rfl, rfl, RAInv.start xs ys, Own.nil _ _, Below.refl _ _⟩)
  have HUN := Lib.hid (fun W (h : Below w.heap.size w W) => h.size)
  generalize hB : w.heap.size = B at *
  have HB := Lib.hid hB; clear hB
  go_enter Tryd.func65, Tryd.ntmps65
  go_wp2
  go_loopg [5, 6, 7] (m + 1) (fun g l c i wr => AddRel B m xs ys w g l c i wr)
  case atStart => exact HST.out
  case round =>
    obtain ⟨k, cy, zs, hk, hkm, rfl, rfl, hinv, hown, hb⟩ := hrel
    have hcy : cy ≤ 1 := hinv.2.2.1
    have hzl := Lib.hid hinv.1
    have HI := Lib.hid hinv; have HOW := Lib.hid hown; have HBL := Lib.hid hb
    clear hinv hown hb
    by_cases hp : k ≤ m
    · obtain ⟨g, rfl⟩ : ∃ g, gk = g + 1 := ⟨gk - 1, by omega⟩
      have hx : xs.getD k 0 < 4294967296 := HO.out.getD k
      have hy : ys.getD k 0 < 4294967296 := HO'.out.getD k
      have K1 := Lib.hid (KA.out k wr (by omega) HBL.out)
      have K2 := Lib.hid (KB.out k wr (by omega) HBL.out)
      have HN := Lib.hid (HI.out.next HO.out HO'.out)
      generalize xs.getD k 0 = x at *
      generalize ys.getD k 0 = y at *
      have hpz : (k : Int) ≤ (m : Int) := by omega
      go_wp2_with fail
      refine K1.out.mono ?_
      rintro e w' ⟨rfl, rfl⟩
      go_wp2_with fail
      refine K2.out.mono ?_
      rintro e w' ⟨rfl, rfl⟩
      have hsum : (cy + x + y) % 4294967296 < B32 := by rw [B32_eq]; omega
      go_wp2_with (at_builtin; refine wpl_append rfl _ _ rfl B _ zs rfl (HOW.out.below ((Below.refl _ _).alloc (Nat.le_refl _) _)) ⟨wr.heap.size, 0, none⟩ 1 ((cy + x + y) % 4294967296) rfl hsum ?hcell ?hlen ?hbase ?_)
      case hcell => simp
      case hlen => rw [hzl.out]; omega
      case hbase => have := HUN.out _ HBL.out; simp; omega
      intro v' w4 ho4 hb4 _
      have hb5 := HBL.out.trans (((Below.refl B wr).alloc (HUN.out _ HBL.out) (.cells #[.int .u32 (((cy + x + y) % 4294967296 : Nat) : Int)] 54)).trans hb4)
      have HO4 := Lib.hid ho4; have HB5 := Lib.hid hb5
      clear ho4 hb4 hb5
      go_wp2
      go_roundg g
      case rel => exact ⟨k + 1, (cy + x + y) / 4294967296, zs ++ [(cy + x + y) % 4294967296], by omega, by omega, by go_num, by first | rfl | (congr 1; omega) | (simp; omega), HN.out, HO4.out, HB5.out⟩
      case measure => omega
    · have hpz : ¬ (k : Int) ≤ (m : Int) := by omega
      obtain rfl : k = m + 1 := by omega
      have hval := HI.out.done HO.out HO'.out hl1.out hl2.out
      have KN := Lib.hid (refNorm_own HOW.out HBL.out (by exact HB.out.symm) (by rw [hzl.out]; omega))
      rw [hval] at KN
      clear hval
      go_wp2_with fail
      refine KN.out.mono ?_
      rintro e w' hg
      obtain ⟨v, rfl, h1, h2⟩ := hg
      have H1 := Lib.hid h1; have H2 := Lib.hid h2
      clear h1 h2
      go_wp2
      go_ret
      exact ⟨v, rfl, H1.out, H2.out⟩

def SubRel (G m : Nat) (xs ys : List Nat) (w : World) (g : Nat) (l c i : Value) (wr : World) : Prop :=
  ∃ (k cy : Nat) (zs : List Nat), m - k ≤ g ∧ k ≤ m ∧ i = .int .i64 (k : Int) ∧ c = .int .u64 (cy : Int) ∧ RSInv xs ys zs k cy ∧ Own G wr l zs ∧ Below G w wr
/-- The difference of two limbs and a carry, in 64 bits. -/
theorem sub_wrap {x y c : Nat} (hx : x < 4294967296) (hy : y < 4294967296) (hc : c ≤ 1) :
    ∃ D d b : Nat, d < 4294967296 ∧ b ≤ 1 ∧ x + 4294967296 * b = d + y + c ∧ IntKind.u64.wrap (IntKind.u64.wrap ((x : Int) - (y : Int)) - (c : Int)) = (D : Int) ∧ (D : Int) % 4294967296 = (d : Int) ∧ (D : Int) / 9223372036854775808 = (b : Int) ∧ D < 18446744073709551616 := by
  have e : ∀ z : Int, IntKind.u64.wrap z = z % 18446744073709551616 := fun z => by simp [IntKind.wrap, IntKind.bits, IntKind.signed]
  rw [e, e]
  by_cases h : y + c ≤ x
  · exact ⟨x - (y + c), x - (y + c), 0, by omega, by omega, by omega, by omega, by omega, by omega, by omega⟩
  · exact ⟨x + 18446744073709551616 - (y + c), x + 4294967296 - (y + c), 1, by omega, by omega, by omega, by omega, by omega, by omega, by omega⟩

end Go.Proofs.YtokppjfaihkkcaaDoor
