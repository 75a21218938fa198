/- The law TreeSets, part 1: what Set, Member, Unset, Same and Light answer there, in one form whether the name is a member or not. -/
import Derived.Test.YtndjdmgncjiggaaQKj
import Derived.Test.YtndjdmgncjiggaaQKk
import Derived.Test.YtndjdmgncjiggaaQKn
import Derived.Test.YtndjdmgncjiggaaQKo
import Derived.Test.YtndjdmgncjiggaaQh
namespace Go.Proofs.Ytndjdmgncjiggaa
open Go.RowKit Go.Shelf
set_option linter.unusedVariables false
set_option linter.unusedSimpArgs false

theorem nodesL_app (l r : List MT) : MT.nodesL (l ++ r) = MT.nodesL l + MT.nodesL r := by
  induction l with
  | nil => rw [List.nil_append, MT.nodesL_nil]; omega
  | cons t l ih => rw [List.cons_append, MT.nodesL_cons, MT.nodesL_cons, ih]; omega
theorem nodesL_cut (l : List MT) (p j : Nat) (h : p ≤ j) : MT.nodesL (l.take p ++ l.drop j) ≤ MT.nodesL l := by
  have h1 : MT.nodesL l = MT.nodesL (l.take p) + MT.nodesL (l.drop p) := by rw [← nodesL_app, List.take_append_drop]
  have h2 : MT.nodesL (l.drop p) = MT.nodesL ((l.drop p).take (j - p)) + MT.nodesL ((l.drop p).drop (j - p)) := by rw [← nodesL_app, List.take_append_drop]
  rw [List.drop_drop, show p + (j - p) = j by omega] at h2
  rw [nodesL_app]
  omega
/-- An object that may be: its names rise, as many as its values. -/
structure ObjOk (t : MT) : Prop where
  k7 : t.c.k = 7
  kn : t.c.kn = t.k.length
  vn : t.c.vn = t.v.length
  kv : t.k.length = t.v.length
  le : t.k.length ≤ 300
  ris : Ris t.k
  nums : NumsOk t
  nodes : t.nodes ≤ 2000
theorem obj_ok {w : World} {t : MT} (hR : Rep w t) (h : checkB t = true) (h7 : t.c.k = 7) : ObjOk t := by
  obtain ⟨h1, h2, h3⟩ := check_obj h h7
  have e1 := hR.own.kn; have e2 := hR.own.vn
  exact ⟨h7, e1.symm, e2.symm, by omega, by omega, ris_of h2, check_nums h, (check_sound h).1⟩
theorem nms_all {t : MT} (h7 : t.c.k = 7) (h1 : t.c.kn = t.k.length) (h2 : t.c.vn = t.v.length) (h3 : t.k.length = t.v.length) : nmsL t = t.k ∧ valsL t = t.v := by
  unfold nmsL valsL
  rw [if_pos h7, if_pos h7, h1, h2, ← h3, Nat.min_self, List.take_of_length_le (Nat.le_refl _), List.take_of_length_le (by omega)]
  exact ⟨rfl, rfl⟩
/-- Where a name belongs, and whether it is there. -/
structure PlaceOk (t : MT) (s : ByteArray) (p j : Nat) (has : Bool) : Prop where
  spl : Spl t.k s p j
  yes : has = true → ixL t.k s = some p ∧ j = p + 1
  no : has = false → ixL t.k s = none ∧ j = p ∧ plL t.k s = p
theorem place_ok {t : MT} (h : ObjOk t) (s : ByteArray) : ∃ p j has, PlaceOk t s p j has := by
  cases hi : ixL t.k s with
  | none => exact ⟨_, _, false, spl_none h.ris hi, (fun h => by cases h), fun _ => ⟨hi, rfl, rfl⟩⟩
  | some i => exact ⟨_, _, true, spl_some h.ris hi, (fun _ => ⟨hi, rfl⟩), fun h => by cases h⟩
/-- The object with the member set. -/
structure SetU (t v : MT) (s : ByteArray) (p j : Nat) (u : MT) : Prop where
  k7 : u.c.k = 7
  k : u.k = put1 t.k p j s
  v : u.v = put1 t.v p j v
  kn : u.c.kn = u.k.length
  vn : u.c.vn = u.v.length
  kv : u.k.length = u.v.length
  le : u.k.length + j = t.k.length + 1 + p
/-- The object without the member. -/
structure UnsetY (t : MT) (p j : Nat) (y : MT) : Prop where
  k7 : y.c.k = 7
  k : y.k = t.k.take p ++ t.k.drop j
  v : y.v = t.v.take p ++ t.v.drop j
  kn : y.c.kn = y.k.length
  vn : y.c.vn = y.v.length
  le : y.k.length + j = t.k.length + p
theorem UnsetY.same {t y z : MT} {p j : Nat} (hy : UnsetY t p j y) (hz : UnsetY t p j z) : sameM y z = true :=
  sameM_obj hy.k7 hz.k7 (by rw [hy.k, hz.k]) (by rw [hy.v, hz.v]) (by rw [hy.vn, hz.vn, hy.v, hz.v])
theorem UnsetY.nums {t y : MT} {p j : Nat} (h : ObjOk t) (hy : UnsetY t p j y) : NumsOk y := by
  refine NumsOk.mk (fun h3 => by rw [hy.k7] at h3; cases h3) (fun x hx => h.nums.part ?_)
  rw [hy.v] at hx
  rcases List.mem_append.1 hx with hx | hx
  · exact List.mem_of_mem_take hx
  · exact List.mem_of_mem_drop hx
theorem UnsetY.nodes {t y : MT} {p j : Nat} (h : ObjOk t) (hpj : p ≤ j) (hy : UnsetY t p j y) : y.nodes ≤ 1000000 := by
  have h1 := nodesL_cut t.v p j hpj
  have h2 := MT.nodes_eq t
  have h3 := h.nodes
  rw [MT.nodes_eq, hy.v]
  omega
/-- A tree was answered. -/
def TreePost (P : MT → Prop) (w : World) (e : Ending) (w' : World) : Prop := ∃ u : MT, e = .returned u.c.val ∧ Rep w' u ∧ P u ∧ Below w.heap.size w w'
/-- A member was answered. -/
def MemPost (P : Cel → Prop) (b : Bool) (w : World) (e : Ending) (w' : World) : Prop := ∃ c : Cel, e = .returned (.tuple #[c.val, .bool b]) ∧ P c ∧ Below w.heap.size w w'
theorem SetU.nms {t v u : MT} {s : ByteArray} {p j : Nat} (hu : SetU t v s p j u) : nmsL u = u.k ∧ valsL u = u.v := nms_all hu.k7 hu.kn hu.vn hu.kv
/-- Taken away again from where it was not, it is as it was. -/
theorem UnsetY.back {t y : MT} {s : ByteArray} {p j : Nat} (h : ObjOk t) (hp : PlaceOk t s p j false) (hy : UnsetY t p j y) : sameM y t = true := by
  obtain ⟨h1, h2, h3⟩ := hp.no rfl
  subst h2
  exact sameM_obj hy.k7 h.k7 (by rw [hy.k, List.take_append_drop]) (by rw [hy.v, List.take_append_drop]) (by rw [hy.vn, h.vn, hy.v, List.take_append_drop])

def LightOk (n : Int) (w : World) (e : Ending) (w' : World) : Prop := ∃ b, e = .returned (.bool b) ∧ Below w.heap.size w w'
set_option maxHeartbeats 4000000 in
set_option maxRecDepth 100000 in
theorem lightB_any (t : MT) (n : Int) (w : World) (h0 : 0 ≤ n) (h1 : n ≤ 1000) (hR : Rep w t) :
    Calls Try.prog 6 #[t.c.val, .int .i64 n] w (LightOk n w) := by
  obtain ⟨Wb, hWb⟩ : ∃ x, w.alloc (.cells t.c.cells.toArray 31) = x := ⟨_, rfl⟩
  have hb0 : Below w.heap.size w Wb := by rw [← hWb]; exact (Below.refl _ _).alloc (Nat.le_refl _) _
  have K := Lib.hid (light_any t n Wb h0 h1 (hR.on hb0))
  have HB0 := Lib.hid hb0
  have hwb := hWb
  clear hR hb0 hWb
  generalize t.c = c at *
  obtain ⟨k, bo, neg, ma, mn, mc, e, st, ka, kn, kc, va, vn, vc⟩ := c
  unfold Cel.val at K ⊢
  unfold Cel.cells at hwb
  simp only at hwb
  have HWB := Lib.hid hwb
  clear hwb
  go_enter Try.func6, Try.ntmps6
  go_wp2_with fail
  rw [HWB.out]
  refine K.out.mono ?_
  rintro r w2 ⟨z, rfl, h2, h3, h4⟩
  have H4 := Lib.hid (HB0.out.trans (h4.mono HB0.out.size))
  clear h4
  go_wp2
  go_ret
  exact ⟨_, rfl, H4.out⟩
end Go.Proofs.Ytndjdmgncjiggaa
