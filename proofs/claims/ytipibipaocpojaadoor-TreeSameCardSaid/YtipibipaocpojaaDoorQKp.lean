/- The law TreeSets, part 1: what Set, Member, Unset, Same and Light answer there, in one form whether the name is a member or not. -/
import Derived.Test.YtipibipaocpojaaDoorQKj
import Derived.Test.YtipibipaocpojaaDoorQKk
import Derived.Test.YtipibipaocpojaaDoorQKn
import Derived.Test.YtipibipaocpojaaDoorQKo
import Derived.Test.YtipibipaocpojaaDoorQh
namespace Go.Proofs.YtipibipaocpojaaDoor
open Go.RowKit Go.Shelf
set_option linter.unusedVariables false
set_option linter.unusedSimpArgs false

theorem nodesL_app (l r : List MT) : MT.nodesL (l ++ r) = MT.nodesL l + MT.nodesL r := by
  induction l with
  | nil => rw [List.nil_append, MT.nodesL_nil]; omega
  | cons t l ih => rw [List.cons_append, MT.nodesL_cons, MT.nodesL_cons, ih]; omega
theorem nodesL_cut (l : List MT) (p j : Nat) (h : p ≤ j) : MT.nodesL (l.take p ++ l.drop j) ≤ MT.nodesL l := by
  have h1 : MT.nodesL l = MT.nodesL (l.take p) + MT.nodesL (l.drop p) := by rw [← nodesL_app, List.take_append_drop]
  have h2 : MT.nodesL (l.drop p) = MT.nodesL ((l.drop p).take (j - p)) + MT.nodesL ((l.drop p).drop (j - p)) := by rw [← nodesL_app, List.take_append_drop]
  rw [List.drop_drop, show p + (j - p) = j by omega] at h2
  rw [nodesL_app]
  omega
/-- An object that may be: its names rise, as many as its values. -/
structure ObjOk (t : MT) : Prop where
  k7 : t.c.k = 7
  kn : t.c.kn = t.k.length
  vn : t.c.vn = t.v.length
  kv : t.k.length = t.v.length
  le : t.k.length ≤ 300
  ris : Ris t.k
  nums : NumsOk t
  nodes : t.nodes ≤ 2000
theorem obj_ok {w : World} {t : MT} (hR : Rep w t) (h : checkB t = true) (h7 : t.c.k = 7) : ObjOk t := by
  obtain ⟨h1, h2, h3⟩ := check_obj h h7
  have e1 := hR.own.kn; have e2 := hR.own.vn
  exact ⟨h7, e1.symm, e2.symm, by omega, by omega, ris_of h2, check_nums h, (check_sound h).1⟩
theorem nms_all {t : MT} (h7 : t.c.k = 7) (h1 : t.c.kn = t.k.length) (h2 : t.c.vn = t.v.length) (h3 : t.k.length = t.v.length) : nmsL t = t.k ∧ valsL t = t.v := by
  unfold nmsL valsL
  rw [if_pos h7, if_pos h7, h1, h2, ← h3, Nat.min_self, List.take_of_length_le (Nat.le_refl _), List.take_of_length_le (by omega)]
  exact ⟨rfl, rfl⟩
/-- Where a name belongs, and whether it is there. -/
structure PlaceOk (t : MT) (s : ByteArray) (p j : Nat) (has : Bool) : Prop where
  spl : Spl t.k s p j
  yes : has = true → ixL t.k s = some p ∧ j = p + 1
  no : has = false → ixL t.k s = none ∧ j = p ∧ plL t.k s = p
theorem place_ok {t : MT} (h : ObjOk t) (s : ByteArray) : ∃ p j has, PlaceOk t s p j has := by
  cases hi : ixL t.k s with
  | none => exact ⟨_, _, false, spl_none h.ris hi, (fun h => by cases h), fun _ => ⟨hi, rfl, rfl⟩⟩
  | some i => exact ⟨_, _, true, spl_some h.ris hi, (fun _ => ⟨hi, rfl⟩), fun h => by cases h⟩
/-- The object with the member set. -/
structure SetU (t v : MT) (s : ByteArray) (p j : Nat) (u : MT) : Prop where
  k7 : u.c.k = 7
  k : u.k = put1 t.k p j s
  v : u.v = put1 t.v p j v
  kn : u.c.kn = u.k.length
  vn : u.c.vn = u.v.length
  kv : u.k.length = u.v.length
  le : u.k.length + j = t.k.length + 1 + p
/-- The object without the member. -/
structure UnsetY (t : MT) (p j : Nat) (y : MT) : Prop where
  k7 : y.c.k = 7
  k : y.k = t.k.take p ++ t.k.drop j
  v : y.v = t.v.take p ++ t.v.drop j
  kn : y.c.kn = y.k.length
  vn : y.c.vn = y.v.length
  le : y.k.length + j = t.k.length + p
theorem UnsetY.same {t y z : MT} {p j : Nat} (hy : UnsetY t p j y) (hz : UnsetY t p j z) : sameM y z = true :=
  sameM_obj hy.k7 hz.k7 (by rw [hy.k, hz.k]) (by rw [hy.v, hz.v]) (by rw [hy.vn, hz.vn, hy.v, hz.v])
theorem UnsetY.nums {t y : MT} {p j : Nat} (h : ObjOk t) (hy : UnsetY t p j y) : NumsOk y := by
  refine NumsOk.mk (fun h3 => by rw [hy.k7] at h3; cases h3) (fun x hx => h.nums.part ?_)
  rw [hy.v] at hx
  rcases List.mem_append.1 hx with hx | hx
  · exact List.mem_of_mem_take hx
  · exact List.mem_of_mem_drop hx
theorem UnsetY.nodes {t y : MT} {p j : Nat} (h : ObjOk t) (hpj : p ≤ j) (hy : UnsetY t p j y) : y.nodes ≤ 1000000 := by
  have h1 := nodesL_cut t.v p j hpj
  have h2 := MT.nodes_eq t
  have h3 := h.nodes
  rw [MT.nodes_eq, hy.v]
  omega
/-- A tree was answered. -/
def TreePost (P : MT → Prop) (w : World) (e : Ending) (w' : World) : Prop := ∃ u : MT, e = .returned u.c.val ∧ Rep w' u ∧ P u ∧ Below w.heap.size w w'
theorem set_law {t v : MT} {s : ByteArray} {p j : Nat} {has : Bool} (h : ObjOk t) (hp : PlaceOk t s p j has) (W : World) (hR : Rep W t) (hV : Rep W v) (hs : s.size ≤ maxLen) :
    Calls Tryd.prog 10 #[t.c.val, .string s, v.c.val] W (TreePost (SetU t v s p j) W) := by
  obtain ⟨hn, hv⟩ := nms_all h.k7 h.kn h.vn h.kv
  have hle := h.le
  have key : Calls Tryd.prog 10 #[t.c.val, .string s, v.c.val] W (ObjMade (put1 (nmsL t) p j s) (put1 (valsL t) p j v) W) := by
    cases has with
    | true =>
      obtain ⟨h1, h2⟩ := hp.yes rfl
      exact set_has t v s W hR hV hs p j p (by unfold ixZ; rw [hn, h1]) hp.spl.pq (by rw [hn]; exact hp.spl.ql) rfl h2 (by rw [hn]; omega)
    | false =>
      obtain ⟨h1, h2, h3⟩ := hp.no rfl
      exact set_not t v s W hR hV hs p j (-1) (by unfold ixZ; rw [hn, h1]) hp.spl.pq (by rw [hn]; exact hp.spl.ql) rfl (by rw [hn]; exact h3) h2 (by rw [hn]; omega)
  refine key.mono ?_
  rintro e w' ⟨u, rfl, hr, h7, hk, hvv, hkn, hvn, hb⟩
  rw [hn] at hk hkn
  rw [hv] at hvv hvn
  have l1 := put1_len t.k p j s hp.spl.pq hp.spl.ql
  have l2 := put1_len t.v p j v hp.spl.pq (by rw [← h.kv]; exact hp.spl.ql)
  have hkv := h.kv
  exact ⟨u, rfl, hr, ⟨h7, hk, hvv, by rw [hk]; exact hkn, by rw [hvv]; exact hvn, by rw [hk, hvv]; omega, by rw [hk]; exact l1⟩, hb⟩
/-- A member was answered. -/
def MemPost (P : Cel → Prop) (b : Bool) (w : World) (e : Ending) (w' : World) : Prop := ∃ c : Cel, e = .returned (.tuple #[c.val, .bool b]) ∧ P c ∧ Below w.heap.size w w'
theorem SetU.nms {t v u : MT} {s : ByteArray} {p j : Nat} (hu : SetU t v s p j u) : nmsL u = u.k ∧ valsL u = u.v := nms_all hu.k7 hu.kn hu.vn hu.kv
theorem member_u {t v u : MT} {s : ByteArray} {p j : Nat} {has : Bool} (h : ObjOk t) (hp : PlaceOk t s p j has) (hu : SetU t v s p j u) (W : World) (hR : Rep W u) :
    Calls Tryd.prog 11 #[u.c.val, .string s] W (MemPost (fun c => c = v.c) true W) := by
  obtain ⟨hn, hv⟩ := hu.nms
  have hi : ixL (nmsL u) s = some p := by rw [hn, hu.k]; exact spl_ix hp.spl
  refine (member_any u s W hR.own).mono ?_
  rintro e w' ⟨rfl, hb⟩
  refine ⟨memC u s, by unfold memB; rw [hi]; rfl, ?_, hb⟩
  show memC u s = v.c
  rw [memC_at hi, hv, hu.v, put1_at _ _ _ _ _ (by rw [← h.kv]; have := hp.spl.pq; have := hp.spl.ql; omega)]
theorem member_t {t : MT} {s : ByteArray} {p j : Nat} {has : Bool} (h : ObjOk t) (hp : PlaceOk t s p j has) (W : World) (hR : Rep W t) :
    Calls Tryd.prog 11 #[t.c.val, .string s] W (MemPost (fun _ => True) has W) := by
  obtain ⟨hn, hv⟩ := nms_all h.k7 h.kn h.vn h.kv
  refine (member_any t s W hR.own).mono ?_
  rintro e w' ⟨rfl, hb⟩
  refine ⟨memC t s, ?_, trivial, hb⟩
  unfold memB
  rw [hn]
  cases has with
  | true => rw [(hp.yes rfl).1]; rfl
  | false => rw [(hp.no rfl).1]; rfl
theorem member_i {t v u : MT} {s : ByteArray} {p j : Nat} {has : Bool} (h : ObjOk t) (hp : PlaceOk t s p j has) (hu : SetU t v s p j u) (W : World) (hR : Rep W u) (i : Nat) (hi : i < t.k.length) :
    Calls Tryd.prog 11 #[u.c.val, .string (t.k.getD i ByteArray.empty)] W (MemPost (fun c => t.k.getD i ByteArray.empty ≠ s → c = (t.v.getD i (leafT 0 false ⟨#[]⟩)).c) true W) := by
  obtain ⟨hn, hv⟩ := hu.nms
  by_cases he : t.k.getD i ByteArray.empty = s
  · rw [he]
    exact (member_u h hp hu W hR).mono (fun e w' ⟨c, h1, h2, h3⟩ => ⟨c, h1, fun hne => absurd rfl hne, h3⟩)
  · obtain ⟨k, h1, h2, h3⟩ := spl_other h.ris hp.spl h.kv.symm v (leafT 0 false ⟨#[]⟩) hi he
    have hk : ixL (nmsL u) (t.k.getD i ByteArray.empty) = some k := by rw [hn, hu.k]; exact h1
    refine (member_any u _ W hR.own).mono ?_
    rintro e w' ⟨rfl, hb⟩
    exact ⟨memC u (t.k.getD i ByteArray.empty), by unfold memB; rw [hk]; rfl, fun _ => by rw [memC_at hk, hv, hu.v, h3], hb⟩
theorem unset_u {t v u : MT} {s : ByteArray} {p j : Nat} {has : Bool} (h : ObjOk t) (hp : PlaceOk t s p j has) (hu : SetU t v s p j u) (W : World) (hR : Rep W u) :
    Calls Tryd.prog 12 #[u.c.val, .string s] W (TreePost (UnsetY t p j) W) := by
  obtain ⟨hn, hv⟩ := hu.nms
  have hpk : p ≤ t.k.length := by have := hp.spl.pq; have := hp.spl.ql; omega
  have hi : ixL (nmsL u) s = some p := by rw [hn, hu.k]; exact spl_ix hp.spl
  have hle := h.le; have hul := hu.le; have hpq := hp.spl.pq; have hql := hp.spl.ql; have hqp := hp.spl.qp
  refine (unset_yes u s W hR p hi (by rw [hn]; omega)).mono ?_
  rintro e w' ⟨y, rfl, hr, h7, hk, hvv, hkn, hvn, hb⟩
  rw [hn, hu.k, put1_take _ _ _ _ hpk, put1_drop _ _ _ _ hpk] at hk hkn
  rw [hv, hu.v, put1_take _ _ _ _ (by rw [← h.kv]; exact hpk), put1_drop _ _ _ _ (by rw [← h.kv]; exact hpk)] at hvv hvn
  exact ⟨y, rfl, hr, ⟨h7, hk, hvv, by rw [hk]; exact hkn, by rw [hvv]; exact hvn, by rw [hk]; simp only [List.length_append, List.length_take, List.length_drop]; omega⟩, hb⟩
theorem unset_t {t : MT} {s : ByteArray} {p j : Nat} {has : Bool} (h : ObjOk t) (hp : PlaceOk t s p j has) (W : World) (hR : Rep W t) :
    Calls Tryd.prog 12 #[t.c.val, .string s] W (TreePost (UnsetY t p j) W) := by
  obtain ⟨hn, hv⟩ := nms_all h.k7 h.kn h.vn h.kv
  have hle := h.le; have hpq := hp.spl.pq; have hql := hp.spl.ql
  cases has with
  | true =>
    obtain ⟨h1, h2⟩ := hp.yes rfl
    subst h2
    refine (unset_yes t s W hR p (by rw [hn]; exact h1) (by rw [hn]; omega)).mono ?_
    rintro e w' ⟨y, rfl, hr, h7, hk, hvv, hkn, hvn, hb⟩
    rw [hn] at hk hkn
    rw [hv] at hvv hvn
    exact ⟨y, rfl, hr, ⟨h7, hk, hvv, by rw [hk]; exact hkn, by rw [hvv]; exact hvn, by rw [hk]; simp only [List.length_append, List.length_take, List.length_drop]; omega⟩, hb⟩
  | false =>
    obtain ⟨h1, h2, h3⟩ := hp.no rfl
    subst h2
    refine (unset_no t s W hR (by rw [hn]; exact h1)).mono ?_
    rintro e w' ⟨rfl, hb⟩
    exact ⟨t, rfl, hR.on hb, ⟨h.k7, by rw [List.take_append_drop], by rw [List.take_append_drop], h.kn, h.vn, by omega⟩, hb⟩
/-- Taken away again from where it was not, it is as it was. -/
theorem UnsetY.back {t y : MT} {s : ByteArray} {p j : Nat} (h : ObjOk t) (hp : PlaceOk t s p j false) (hy : UnsetY t p j y) : sameM y t = true := by
  obtain ⟨h1, h2, h3⟩ := hp.no rfl
  subst h2
  exact sameM_obj hy.k7 h.k7 (by rw [hy.k, List.take_append_drop]) (by rw [hy.v, List.take_append_drop]) (by rw [hy.vn, h.vn, hy.v, List.take_append_drop])

def LightOk (n : Int) (w : World) (e : Ending) (w' : World) : Prop := ∃ b, e = .returned (.bool b) ∧ Below w.heap.size w w'
set_option maxHeartbeats 4000000 in
set_option maxRecDepth 100000 in
theorem lightB_any (t : MT) (n : Int) (w : World) (h0 : 0 ≤ n) (h1 : n ≤ 1000) (hR : Rep w t) :
    Calls Tryd.prog 8 #[t.c.val, .int .i64 n] w (LightOk n w) := by
  obtain ⟨Wb, hWb⟩ : ∃ x, w.alloc (.cells t.c.cells.toArray 28) = x := ⟨_, rfl⟩
  have hb0 : Below w.heap.size w Wb := by rw [← hWb]; exact (Below.refl _ _).alloc (Nat.le_refl _) _
  have K := Lib.hid (light_any t n Wb h0 h1 (hR.on hb0))
  have HB0 := Lib.hid hb0
  have hwb := hWb
  clear hR hb0 hWb
  generalize t.c = c at *
  obtain ⟨k, bo, neg, ma, mn, mc, e, st, ka, kn, kc, va, vn, vc⟩ := c
  unfold Cel.val at K ⊢
  unfold Cel.cells at hwb
  simp only at hwb
  have HWB := Lib.hid hwb
  clear hwb
  go_enter Tryd.func8, Tryd.ntmps8
  go_wp2_with fail
  rw [HWB.out]
  refine K.out.mono ?_
  rintro r w2 ⟨z, rfl, h2, h3, h4⟩
  have H4 := Lib.hid (HB0.out.trans (h4.mono HB0.out.size))
  clear h4
  go_wp2
  go_ret
  exact ⟨_, rfl, H4.out⟩
end Go.Proofs.YtipibipaocpojaaDoor
