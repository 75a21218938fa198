/- Walks: the document's example of layer 6; copies of lists of texts. -/
import Derived.Test.YtndjdmgncjiggaaQOw7
import Derived.Laws.AppendOwnNone
import Derived.Test.YtndjdmgncjiggaaQn
namespace Go.Proofs.Ytndjdmgncjiggaa
open Go.RowKit
set_option linter.unusedVariables false
set_option linter.unusedSimpArgs false

theorem lit_blk (w : World) (vs : List Value) (e : TypeId) (arr : Array Value) (h : arr = vs.toArray) : BlkV (w.alloc (.cells arr e)) w.heap.size e vs := by
  unfold BlkV; rw [heap_alloc_new, h]

def lits0 : List ByteArray := [⟨#[98]⟩, ⟨#[97]⟩, ⟨#[98]⟩]
def lits9 : List ByteArray := [⟨#[98, 98]⟩, ⟨#[99]⟩]
theorem keyB_data (l : List ByteArray) (i : Nat) : keyB l i = (l.getD i ByteArray.empty).data.toList := by
  unfold keyB; rw [ByteArray.toList_eq]
theorem sort0 : srt Op.bytesLess (keyB lits0) 0 3 = [1, 0, 2] := by
  refine (srt_unique sto_bytes _ _ _ _ (by decide) ?_).symm
  simp only [List.pairwise_cons, leI_iff, keyB_data]
  decide
theorem sort9 : srt shortL (keyB lits9) 0 2 = [1, 0] := by
  refine (srt_unique sto_short _ _ _ _ (by decide) ?_).symm
  simp only [List.pairwise_cons, leI_iff, keyB_data]
  decide
theorem less_ab : Op.bytesLess (ByteArray.mk #[97]).toList (ByteArray.mk #[97, 98]).toList = true := by
  rw [ByteArray.toList_eq, ByteArray.toList_eq]; decide

set_option maxHeartbeats 2000000 in
theorem awake_any (w : World) : Calls Try.prog 5 #[] w (BoolBelow true w) := by
  have hz0 : ∀ s ∈ lits9, s.size ≤ 1000000000 := by
    intro s hs
    simp only [lits9, List.mem_cons, List.not_mem_nil, or_false] at hs
    rcases hs with rfl | rfl <;> decide
  have K1 := Lib.hid (fun W g (h : BlkV W g 9 (sv lits0)) => sort_any (some ⟨g, 0, none⟩) 3 3 lits0 W rfl (Nat.le_refl _) (by decide) h.all)
  have K2 := Lib.hid (fun W g (h : BlkV W g 9 (sv lits9)) => cbor_any (some ⟨g, 0, none⟩) 2 2 lits9 W rfl (Nat.le_refl _) (by decide) hz0 h.all)
  have KS := Lib.hid (fun W g g' (xs : List Nat) n (hn : xs.length = n) (h9 : n ≤ 9) (h : BlkV W g 3 (xs.map iv)) (h' : BlkV W g' 3 (xs.map iv)) => sameInts_any (some ⟨g, 0, none⟩) n n xs (some ⟨g', 0, none⟩) n n xs W hn (by omega) h.all hn (by omega) h'.all (Nat.le_refl _) (Nat.le_refl _))
  have hb1 := Lib.hid ((Below.refl w.heap.size w).alloc (Nat.le_refl _) (.cells #[.string ⟨#[98]⟩, .string ⟨#[97]⟩, .string ⟨#[98]⟩] 9))
  clear hz0
  go_enter Try.func5, Try.ntmps5
  go_wp2_with fail
  refine (K1.out _ _ (lit_blk w (sv lits0) _ _ rfl)).mono ?_
  rintro r w1 ⟨g1, rfl, hg1, hk1, hw1⟩
  rw [sort0] at hk1
  have B1 := Lib.hid (hb1.out.trans (hw1.mono (by simp)))
  have HG := Lib.hid hk1.lt
  have HK1 := Lib.hid (hk1.below (B := w1.heap.size) ((Below.refl _ _).alloc (Nat.le_refl _) (.cells #[.int .i64 1, .int .i64 0, .int .i64 2] 3)) hk1.lt)
  have B2 := Lib.hid (below_on B1.out ((Below.refl _ w1).alloc (Nat.le_refl _) (.cells #[.int .i64 1, .int .i64 0, .int .i64 2] 3)))
  clear hg1 hk1 hw1 hb1
  go_wp2_with fail
  refine (KS.out _ _ _ [1, 0, 2] 3 rfl (by decide) HK1.out (lit_blk w1 _ _ _ rfl)).mono ?_
  rintro r w2 ⟨rfl, q2, rfl⟩
  have B3 := Lib.hid (below_drewN B2.out q2)
  clear HK1
  generalize hW : World.drewN _ q2 = W2 at B3 ⊢
  clear hW
  go_wp2_with fail
  refine (less_any _ _ _).mono ?_
  rintro r w3 ⟨rfl, rfl⟩
  rw [less_ab]
  go_wp2_with fail
  have B4 := Lib.hid (B3.out.alloc B3.out.size (.cells #[.string ⟨#[98, 98]⟩, .string ⟨#[99]⟩] 9))
  refine (K2.out _ _ (lit_blk W2 (sv lits9) _ _ rfl)).mono ?_
  rintro r w4 ⟨g4, rfl, hg4, hk4, hw4⟩
  rw [sort9] at hk4
  have B5 := Lib.hid (below_on B4.out hw4)
  have HK4 := Lib.hid (hk4.below (B := w4.heap.size) ((Below.refl _ _).alloc (Nat.le_refl _) (.cells #[.int .i64 1, .int .i64 0] 3)) hk4.lt)
  have B6 := Lib.hid (B5.out.alloc B5.out.size (.cells #[.int .i64 1, .int .i64 0] 3))
  clear hg4 hk4 hw4
  go_wp2_with fail
  refine (KS.out _ _ _ [1, 0] 2 rfl (by decide) HK4.out (lit_blk w4 _ _ _ rfl)).mono ?_
  rintro r w5 ⟨rfl, q5, rfl⟩
  have B7 := Lib.hid (below_drewN B6.out q5)
  generalize hW : World.drewN _ q5 = W5 at B7 ⊢
  clear hW
  go_wp2
  go_ret
  exact BoolBelow.mk (by simp) B7.out
end Go.Proofs.Ytndjdmgncjiggaa
/- The walks of package order's pick of texts, and Object. -/
namespace Go.Proofs.Ytndjdmgncjiggaa
open Go.RowKit
set_option linter.unusedVariables false
set_option linter.unusedSimpArgs false

/-- What is picked of texts. -/
def pickB (l : List ByteArray) (S : List Nat) : List ByteArray := S.map fun p => l.getD p ByteArray.empty
def pickBK (l : List ByteArray) (S : List Nat) (k : Nat) : List ByteArray := pickB l (S.take k) ++ List.replicate (S.length - k) ByteArray.empty
theorem pickBK_len (l : List ByteArray) (S : List Nat) {k : Nat} (h : k ≤ S.length) : (pickBK l S k).length = S.length := by simp [pickBK, pickB]; omega
theorem pickBK_zero (l : List ByteArray) (S : List Nat) : pickBK l S 0 = List.replicate S.length ByteArray.empty := by simp [pickBK, pickB]
theorem pickBK_all (l : List ByteArray) (S : List Nat) : pickBK l S S.length = pickB l S := by simp [pickBK]
theorem pickBK_set (l : List ByteArray) (S : List Nat) {k : Nat} (h : k < S.length) : (pickBK l S k).set k (l.getD (S.getD k 0) ByteArray.empty) = pickBK l S (k + 1) := by
  unfold pickBK pickB
  rw [List.set_append_right _ _ (by simp; omega), List.length_map, List.length_take, Nat.min_eq_left (by omega), Nat.sub_self, List.take_succ_eq_append_getElem h, List.map_append, List.append_assoc]
  congr 1
  obtain ⟨m, hm⟩ : ∃ m, S.length - k = m + 1 := ⟨S.length - k - 1, by omega⟩
  rw [hm, List.replicate_succ, List.set_cons_zero, show S.length - (k + 1) = m by omega]
  simp [List.getD, h]
theorem sv_set (l : List ByteArray) (i : Nat) (s : ByteArray) : (sv l).set i (.string s) = sv (l.set i s) := by
  unfold sv; rw [List.map_set]
theorem sv_rep (n : Nat) : sv (List.replicate n ByteArray.empty) = List.replicate n (.string ByteArray.empty) := by simp [sv]
set_option maxHeartbeats 1000000 in
theorem pickS_any (ad : Option Addr) (n cap : Nat) (l : List ByteArray) (ad' : Option Addr) (n' cap' : Nat) (S : List Nat) (w : World) (hl : l.length = n) (hcap : n ≤ cap) (hm : n ≤ 1000000) (hr : RdV w ad (sv l))
    (hS : S.length = n') (hcap' : n' ≤ cap') (hm' : n' ≤ 1000000) (hr' : RdV w ad' (S.map iv)) (hb : ∀ p ∈ S, p < n) :
    Calls Try.prog 23 #[.slice ad n cap, .slice ad' n' cap'] w (PickPost 9 (sv (pickB l S)) n' w) := by
  have HL := Lib.hid hl; have HR := Lib.hid hr; have HS := Lib.hid hS; have HR' := Lib.hid hr'; have HB := Lib.hid hb
  clear hl hr hS hr' hb
  have hst := made_blk w (.string ByteArray.empty) n' 9
  rw [← sv_rep, ← HS.out, ← pickBK_zero l S] at hst
  have HST := Lib.hid hst; clear hst
  rw [HS.out] at HST
  have HBL := Lib.hid ((Below.refl w.heap.size w).alloc (Nat.le_refl _) (.cells (madeCells #[Value.string ByteArray.empty] n') 9))
  have hmk := fun W => run_make_row' (P := Try.prog) 22 9 (.string ByteArray.empty) 16 Try.underlying22 info_string rfl .i64 .i64 n' (by omega) (by omega) W
  go_enter Try.func23, Try.ntmps23
  go_wp2
  clear hmk
  go_loopw [13] (fun i wr => ∃ k : Nat, k ≤ n' ∧ i = .int .i64 (k : Int) ∧ BlkV wr w.heap.size 9 (sv (pickBK l S k)) ∧ Below w.heap.size w wr) (fun i _ => n' - (intOf i).toNat)
  case atStart => exact ⟨0, Nat.zero_le _, rfl, HST.out, HBL.out⟩
  case round =>
    obtain ⟨k, hk, rfl, hT, hbl⟩ := hrel
    have HT := Lib.hid hT; have HBW := Lib.hid hbl
    clear hT hbl
    by_cases hlt : k < n'
    · have h1 : (k : Int) < (n' : Int) := by omega
      have h2 : (0 : Int) ≤ (k : Int) := by omega
      obtain ⟨b', o', rfl, _, hc⟩ := (HR'.out.on HBW.out) k (by rw [List.length_map, HS.out]; exact hlt)
      rw [iv_get _ _ (by rw [HS.out]; exact hlt)] at hc
      have hp := HB.out (S.getD k 0) (by simp [List.getD, HS.out, hlt])
      obtain ⟨b, o, rfl, _, hd⟩ := (HR.out.on HBW.out) (S.getD k 0) (by rw [sv_len, HL.out]; exact hp)
      rw [sv_get _ _ (by rw [HL.out]; exact hp)] at hd
      obtain ⟨z, hold⟩ : ∃ z, wr.cell? ⟨w.heap.size, k, none⟩ = some z := ⟨_, (HT.out.cell k).trans (sv_get _ _ (by rw [pickBK_len _ _ (by rw [HS.out]; exact hk), HS.out]; exact hlt))⟩
      have hf := HT.out.free k
      have hnew := HT.out.set k (.string (l.getD (S.getD k 0) ByteArray.empty))
      rw [sv_set, pickBK_set _ _ (by rw [HS.out]; exact hlt)] at hnew
      have HNEW := Lib.hid hnew; clear hnew
      have HB3 := Lib.hid (HBW.out.setCell (p := ⟨w.heap.size, k, none⟩) (Nat.le_refl _) (.string (l.getD (S.getD k 0) ByteArray.empty)))
      generalize l.getD (S.getD k 0) ByteArray.empty = c at *
      generalize S.getD k 0 = p at *
      have hp1 : (p : Int) < (n : Int) := by omega
      have hp2 : (0 : Int) ≤ (p : Int) := by omega
      go_wp2_with fail
      go_roundw
      case rel => exact ⟨k + 1, by omega, by go_num, HNEW.out, HB3.out⟩
      case measure => simp [intOf]; omega
    · obtain rfl : k = n' := by omega
      have h1 : ¬ (k : Int) < (k : Int) := by omega
      have hT := HT.out
      rw [← HS.out, pickBK_all] at hT
      have HT2 := Lib.hid hT; clear hT
      go_wp2
      go_ret
      exact ⟨_, rfl, Nat.le_refl _, HT2.out, HBW.out⟩

/-- An object's cells. -/
def objC (g1 g2 n : Nat) : Cel := ⟨7, false, false, none, 0, 0, 0, ByteArray.empty, some ⟨g1, 0, none⟩, n, n, some ⟨g2, 0, none⟩, n, n⟩
/-- What Object leaves: no key twice. -/
def ObjYes (l : List ByteArray) (cs : List Cel) (m : Nat) (w : World) (r : Ending) (w' : World) : Prop :=
  ∃ g1 g2, r = .returned (.tuple #[(objC g1 g2 m).val, .int .i64 0, .bool true]) ∧ w.heap.size ≤ g1 ∧ w.heap.size ≤ g2 ∧ BlkV w' g1 9 (sv (pickB l (srt Op.bytesLess (keyB l) 0 m))) ∧ BlkV w' g2 31 (flat (pickC cs (srt Op.bytesLess (keyB l) 0 m))) ∧ Below w.heap.size w w'
/-- One stands twice. -/
def ObjNo (lo : Nat) (w : World) (r : Ending) (w' : World) : Prop :=
  r = .returned (.tuple #[zeroC.val, .int .i64 (lo : Int), .bool false]) ∧ Below w.heap.size w w'
/-- What Object leaves. -/
def ObjPost (l : List ByteArray) (cs : List Cel) (m : Nat) (w : World) (r : Ending) (w' : World) : Prop :=
  ∃ lo f, Twc (keyB l) m lo f ∧ (f = false → ObjYes l cs m w r w') ∧ (f = true → ObjNo lo w r w')
set_option maxHeartbeats 2000000 in
theorem object_core (ad : Option Addr) (n cap m : Nat) (l : List ByteArray) (ad' : Option Addr) (n' cap' : Nat) (cs : List Cel) (w : World) (hcap : n ≤ cap) (hm : n ≤ 1000000) (hl : l.length = m) (hr : RdV w ad (sv l))
    (hS : cs.length = n') (hcap' : n' ≤ cap') (hm' : n' ≤ 1000000) (hr' : RdV w ad' (flat cs)) (hmin : n ≤ n' ∧ m = n ∨ n' < n ∧ m = n') :
    Calls Try.prog 7 #[.slice ad n cap, .slice ad' n' cap'] w (ObjPost l cs m w) := by
  have hmn : m ≤ n := by omega
  have hmn' : m ≤ n' := by omega
  have KS := Lib.hid (fun W (h : Below w.heap.size w W) => sort_any ad m cap l W hl (by omega) (by omega) (hr.on h))
  have KA := Lib.hid (fun W (h : Below w.heap.size w W) g (hk : BlkV W g 3 ((srt Op.bytesLess (keyB l) 0 m).map iv)) =>
    again_any ad m cap l (some ⟨g, 0, none⟩) m m (srt Op.bytesLess (keyB l) 0 m) W hl (srt_len _ _ _ _) (by omega) (by omega) (hr.on h) hk.all (fun i hi => srt_lt _ _ _ i hi) (by omega) (Nat.le_refl _))
  have hbS : ∀ p ∈ srt Op.bytesLess (keyB l) 0 m, p < m := fun p hp => by have := srt_mem.1 hp; omega
  have KP := Lib.hid (fun W (h : Below w.heap.size w W) g (hk : BlkV W g 3 ((srt Op.bytesLess (keyB l) 0 m).map iv)) =>
    pickS_any ad m cap l (some ⟨g, 0, none⟩) m m (srt Op.bytesLess (keyB l) 0 m) W hl (by omega) (by omega) (hr.on h) (srt_len _ _ _ _) (Nat.le_refl _) (by omega) hk.all hbS)
  have KT := Lib.hid (fun W (h : Below w.heap.size w W) g (hk : BlkV W g 3 ((srt Op.bytesLess (keyB l) 0 m).map iv)) =>
    pickT_any ad' n' cap' cs (some ⟨g, 0, none⟩) m m (srt Op.bytesLess (keyB l) 0 m) W hS hcap' hm' (hr'.on h) (srt_len _ _ _ _) (Nat.le_refl _) (by omega) hk.all (fun p hp => by have := hbS p hp; omega))
  clear hr hr' hS hl hbS
  have B1 := Lib.hid ((Below.refl w.heap.size w).alloc (Nat.le_refl _) (.cells #[.int .i64 0, .bool false, .bool false, .slice none 0 0, .int .i64 0, .string ByteArray.empty, .slice none 0 0, .slice none 0 0] 31))
  rcases hmin with ⟨hle, rfl⟩ | ⟨hle, rfl⟩
  · have hi : (m : Int) ≤ (n' : Int) := by omega
    have mn1 := Int.min_def (m : Int) (n' : Int)
    go_enter Try.func7, Try.ntmps7
    go_wp2_with fail
    have HZ0 := B1.out.size
    have c0 := lit_blk w [.int .i64 0, .bool false, .bool false, .slice none 0 0, .int .i64 0, .string ByteArray.empty, .slice none 0 0, .slice none 0 0] 31 #[.int .i64 0, .bool false, .bool false, .slice none 0 0, .int .i64 0, .string ByteArray.empty, .slice none 0 0, .slice none 0 0] rfl
    have HC0 := Lib.hid c0; clear c0
    refine (KS.out _ B1.out).mono ?_
    rintro r w1 ⟨g, rfl, hg, hk, hw⟩
    have B2 := Lib.hid (below_on B1.out hw)
    have HK := Lib.hid hk
    have HC1 := Lib.hid (HC0.out.below hw (by simp))
    clear hg hk hw HC0
    go_wp2_with fail
    refine (KA.out _ B2.out g HK.out).mono ?_
    rintro r w2 ⟨lo, f, q, rfl, hL, rfl⟩
    have HT := Lib.hid (hL.twc sto_bytes)
    have B3 := Lib.hid (below_drewN B2.out q)
    have HC2 := Lib.hid (HC1.out.drewN q)
    have HK2 := Lib.hid (HK.out.drewN q)
    clear hL HK HC1
    generalize World.drewN _ q = w2 at B3 HC2 HK2 ⊢
    cases f
    · go_wp2_with fail
      refine (KP.out _ B3.out g HK2.out).mono ?_
      rintro r w3 ⟨g1, rfl, hg1, hk1, hb1⟩
      have B4 := Lib.hid (below_on B3.out hb1)
      have HG1 := Lib.hid (show w.heap.size < g1 by have := HC2.out.lt; omega)
      have HC3 := Lib.hid (HC2.out.below hb1 HC2.out.lt)
      have HK3 := Lib.hid (HK2.out.below hb1 HK2.out.lt)
      have HP := Lib.hid hk1
      clear hg1 hk1 hb1
      go_wp2_with fail
      refine (KT.out _ B4.out g HK3.out).mono ?_
      rintro r w4 ⟨g2, rfl, hg2, hk2, hb2⟩
      have B5 := Lib.hid (below_on B4.out hb2)
      have HG2 := Lib.hid (show w.heap.size < g2 by have := HC3.out.lt; omega)
      have HC4 := Lib.hid (HC3.out.below hb2 HC3.out.lt)
      have HP2 := Lib.hid (HP.out.below hb2 HP.out.lt)
      have HQ := Lib.hid hk2
      clear hg2 hk2 hb2
      have y0 := HC4.out.cell 0; have y1 := HC4.out.cell 1; have y2 := HC4.out.cell 2; have y3 := HC4.out.cell 3
      have y4 := HC4.out.cell 4; have y5 := HC4.out.cell 5; have y6 := HC4.out.cell 6; have y7 := HC4.out.cell 7
      have f0 := HC4.out.free 0; have f1 := HC4.out.free 1; have f2 := HC4.out.free 2; have f3 := HC4.out.free 3
      have f4 := HC4.out.free 4; have f5 := HC4.out.free 5; have f6 := HC4.out.free 6; have f7 := HC4.out.free 7
      simp only [List.getElem?_cons_zero, List.getElem?_cons_succ] at y0 y1 y2 y3 y4 y5 y6 y7
      go_wp2_with fail
      refine bodyPost_ret (v := .tuple #[(objC g1 g2 m).val, .int .i64 0, .bool true]) (by simp [results, Try.results7, go_sem, y0, y1, y2, y3, y4, y5, y6, y7, objC, Cel.val]; rfl) rfl ?_
      have hbut := put8_but w4 w.heap.size 0 (objC g1 g2 m)
      exact ⟨lo, false, HT.out, fun _ => ⟨g1, g2, rfl, Nat.le_of_lt HG1.out, Nat.le_of_lt HG2.out, hbut.blk HP2.out (by have := HG1.out; omega), hbut.blk HQ.out (by have := HG2.out; omega), B5.out.trans (hbut.below (Nat.le_refl _) B5.out.size)⟩, fun h => by cases h⟩
    · have HC4 := HC2
      have y0 := HC4.out.cell 0; have y1 := HC4.out.cell 1; have y2 := HC4.out.cell 2; have y3 := HC4.out.cell 3
      have y4 := HC4.out.cell 4; have y5 := HC4.out.cell 5; have y6 := HC4.out.cell 6; have y7 := HC4.out.cell 7
      have f0 := HC4.out.free 0; have f1 := HC4.out.free 1; have f2 := HC4.out.free 2; have f3 := HC4.out.free 3
      have f4 := HC4.out.free 4; have f5 := HC4.out.free 5; have f6 := HC4.out.free 6; have f7 := HC4.out.free 7
      simp only [List.getElem?_cons_zero, List.getElem?_cons_succ] at y0 y1 y2 y3 y4 y5 y6 y7
      go_wp2_with fail
      refine bodyPost_ret (v := .tuple #[zeroC.val, .int .i64 (lo : Int), .bool false]) (by simp [results, Try.results7, go_sem, y0, y1, y2, y3, y4, y5, y6, y7, zeroC, Cel.val]; rfl) rfl ?_
      have hbut := put8_but w2 w.heap.size 0 zeroC
      exact ⟨lo, true, HT.out, (fun h => by cases h), fun _ => ⟨rfl, B3.out.trans (hbut.below (Nat.le_refl _) B3.out.size)⟩⟩
  · have hi : ¬ (n : Int) ≤ (m : Int) := by omega
    have mn1 := Int.min_def (n : Int) (m : Int)
    have hi2 : (m : Int) ≤ (n : Int) := by omega
    have hi3 : (m : Int) ≤ (cap : Int) := by omega
    have hi4 : (0 : Int) ≤ (m : Int) := by omega
    go_enter Try.func7, Try.ntmps7
    go_wp2_with fail
    have HZ0 := B1.out.size
    have c0 := lit_blk w [.int .i64 0, .bool false, .bool false, .slice none 0 0, .int .i64 0, .string ByteArray.empty, .slice none 0 0, .slice none 0 0] 31 #[.int .i64 0, .bool false, .bool false, .slice none 0 0, .int .i64 0, .string ByteArray.empty, .slice none 0 0, .slice none 0 0] rfl
    have HC0 := Lib.hid c0; clear c0
    refine (KS.out _ B1.out).mono ?_
    rintro r w1 ⟨g, rfl, hg, hk, hw⟩
    have B2 := Lib.hid (below_on B1.out hw)
    have HK := Lib.hid hk
    have HC1 := Lib.hid (HC0.out.below hw (by simp))
    clear hg hk hw HC0
    go_wp2_with fail
    refine (KA.out _ B2.out g HK.out).mono ?_
    rintro r w2 ⟨lo, f, q, rfl, hL, rfl⟩
    have HT := Lib.hid (hL.twc sto_bytes)
    have B3 := Lib.hid (below_drewN B2.out q)
    have HC2 := Lib.hid (HC1.out.drewN q)
    have HK2 := Lib.hid (HK.out.drewN q)
    clear hL HK HC1
    generalize World.drewN _ q = w2 at B3 HC2 HK2 ⊢
    cases f
    · go_wp2_with fail
      refine (KP.out _ B3.out g HK2.out).mono ?_
      rintro r w3 ⟨g1, rfl, hg1, hk1, hb1⟩
      have B4 := Lib.hid (below_on B3.out hb1)
      have HG1 := Lib.hid (show w.heap.size < g1 by have := HC2.out.lt; omega)
      have HC3 := Lib.hid (HC2.out.below hb1 HC2.out.lt)
      have HK3 := Lib.hid (HK2.out.below hb1 HK2.out.lt)
      have HP := Lib.hid hk1
      clear hg1 hk1 hb1
      go_wp2_with fail
      refine (KT.out _ B4.out g HK3.out).mono ?_
      rintro r w4 ⟨g2, rfl, hg2, hk2, hb2⟩
      have B5 := Lib.hid (below_on B4.out hb2)
      have HG2 := Lib.hid (show w.heap.size < g2 by have := HC3.out.lt; omega)
      have HC4 := Lib.hid (HC3.out.below hb2 HC3.out.lt)
      have HP2 := Lib.hid (HP.out.below hb2 HP.out.lt)
      have HQ := Lib.hid hk2
      clear hg2 hk2 hb2
      have y0 := HC4.out.cell 0; have y1 := HC4.out.cell 1; have y2 := HC4.out.cell 2; have y3 := HC4.out.cell 3
      have y4 := HC4.out.cell 4; have y5 := HC4.out.cell 5; have y6 := HC4.out.cell 6; have y7 := HC4.out.cell 7
      have f0 := HC4.out.free 0; have f1 := HC4.out.free 1; have f2 := HC4.out.free 2; have f3 := HC4.out.free 3
      have f4 := HC4.out.free 4; have f5 := HC4.out.free 5; have f6 := HC4.out.free 6; have f7 := HC4.out.free 7
      simp only [List.getElem?_cons_zero, List.getElem?_cons_succ] at y0 y1 y2 y3 y4 y5 y6 y7
      go_wp2_with fail
      refine bodyPost_ret (v := .tuple #[(objC g1 g2 m).val, .int .i64 0, .bool true]) (by simp [results, Try.results7, go_sem, y0, y1, y2, y3, y4, y5, y6, y7, objC, Cel.val]; rfl) rfl ?_
      have hbut := put8_but w4 w.heap.size 0 (objC g1 g2 m)
      exact ⟨lo, false, HT.out, fun _ => ⟨g1, g2, rfl, Nat.le_of_lt HG1.out, Nat.le_of_lt HG2.out, hbut.blk HP2.out (by have := HG1.out; omega), hbut.blk HQ.out (by have := HG2.out; omega), B5.out.trans (hbut.below (Nat.le_refl _) B5.out.size)⟩, fun h => by cases h⟩
    · have HC4 := HC2
      have y0 := HC4.out.cell 0; have y1 := HC4.out.cell 1; have y2 := HC4.out.cell 2; have y3 := HC4.out.cell 3
      have y4 := HC4.out.cell 4; have y5 := HC4.out.cell 5; have y6 := HC4.out.cell 6; have y7 := HC4.out.cell 7
      have f0 := HC4.out.free 0; have f1 := HC4.out.free 1; have f2 := HC4.out.free 2; have f3 := HC4.out.free 3
      have f4 := HC4.out.free 4; have f5 := HC4.out.free 5; have f6 := HC4.out.free 6; have f7 := HC4.out.free 7
      simp only [List.getElem?_cons_zero, List.getElem?_cons_succ] at y0 y1 y2 y3 y4 y5 y6 y7
      go_wp2_with fail
      refine bodyPost_ret (v := .tuple #[zeroC.val, .int .i64 (lo : Int), .bool false]) (by simp [results, Try.results7, go_sem, y0, y1, y2, y3, y4, y5, y6, y7, zeroC, Cel.val]; rfl) rfl ?_
      have hbut := put8_but w2 w.heap.size 0 zeroC
      exact ⟨lo, true, HT.out, (fun h => by cases h), fun _ => ⟨rfl, B3.out.trans (hbut.below (Nat.le_refl _) B3.out.size)⟩⟩
end Go.Proofs.Ytndjdmgncjiggaa
/- Members in any order make one object: plain lists, no program. -/
namespace Go.Proofs.Ytndjdmgncjiggaa
set_option linter.unusedVariables false
set_option linter.unusedSimpArgs false

theorem keyB_get (l : List ByteArray) (i : Nat) (hi : i < l.length) : keyB l i = l[i].toList := by unfold keyB; simp [List.getD, hi]
theorem toList_inj {a b : ByteArray} (h : a.toList = b.toList) : a = b := by
  rw [ByteArray.toList_eq, ByteArray.toList_eq] at h
  exact WideShapes.bytes_inj h
/-- No key stands twice just where the texts are all unlike. -/
theorem twc_nodup {l : List ByteArray} {n lo : Nat} {f : Bool} (hn : l.length = n) (h : Twc (keyB l) n lo f) : f = false ↔ l.Nodup := by
  constructor
  · intro hf
    rw [List.nodup_iff_pairwise_ne, List.pairwise_iff_getElem]
    intro i j hi hj hij e
    have := (h.1 hf).2 j (by omega) i hij
    rw [keyB_get l i hi, keyB_get l j hj, e] at this
    exact this rfl
  · intro hd
    cases f
    · rfl
    · obtain ⟨h1, ⟨i, h2, h3⟩, _⟩ := h.2 rfl
      rw [keyB_get l i (by omega), keyB_get l lo (by omega)] at h3
      have := (List.getElem_inj hd).1 (toList_inj h3)
      omega
theorem pickB_len (l : List ByteArray) (S : List Nat) : (pickB l S).length = S.length := by simp [pickB]
theorem pickB_perm {l : List ByteArray} {n : Nat} (hn : l.length = n) : (pickB l (srt Op.bytesLess (keyB l) 0 n)).Perm l := by
  have h := (srt_perm Op.bytesLess (keyB l) 0 n).map fun p => l.getD p ByteArray.empty
  refine h.trans ?_
  have : (List.range' 0 n).map (fun p => l.getD p ByteArray.empty) = l := by
    apply List.ext_getElem
    · simp [hn]
    · intro i h1 h2
      simp [List.getD, h2]
  rw [this]
theorem pickB_get (l : List ByteArray) (S : List Nat) (i : Nat) (hi : i < S.length) : (pickB l S).getD i ByteArray.empty = l.getD (S.getD i 0) ByteArray.empty := by
  simp [pickB, List.getD, hi]
/-- The names rise. -/
theorem pickB_rise {l : List ByteArray} {n lo : Nat} (hn : l.length = n) (h : Twc (keyB l) n lo false) (i : Nat) (hi : i + 1 < n) :
    Op.bytesLess ((pickB l (srt Op.bytesLess (keyB l) 0 n)).getD i ByteArray.empty).toList ((pickB l (srt Op.bytesLess (keyB l) 0 n)).getD (i + 1) ByteArray.empty).toList = true := by
  have hl := srt_len Op.bytesLess (keyB l) 0 n
  have h1 := srt_next sto_bytes (keyB l) n i hi
  rw [pickB_get _ _ _ (by omega), pickB_get _ _ _ (by omega), keyB_def, keyB_def]
  rcases bytesLess_tot (keyB l ((srt Op.bytesLess (keyB l) 0 n).getD i 0)) (keyB l ((srt Op.bytesLess (keyB l) 0 n).getD (i + 1) 0)) with h2 | h2 | h2
  · exact h2
  · exact absurd h2 ((h.1 rfl).2 _ (srt_lt _ _ _ _ hi) _ (h1.2 h2))
  · rw [h1.1] at h2; cases h2
theorem pickB_sorted {l : List ByteArray} {n : Nat} (hn : l.length = n) : (pickB l (srt Op.bytesLess (keyB l) 0 n)).Pairwise fun a b => Op.bytesLess a.toList b.toList = true ∨ a = b := by
  unfold pickB
  rw [List.pairwise_map]
  refine (srt_sorted sto_bytes (keyB l) 0 n).imp ?_
  intro a b h
  rw [leI_iff] at h
  rcases h with h | ⟨h, _⟩
  · exact .inl h
  · exact .inr (toList_inj h)
/-- Turned about they are the same. -/
theorem pickB_turn {l m : List ByteArray} {n : Nat} (hn : l.length = n) (hp : m.Perm l) : pickB m (srt Op.bytesLess (keyB m) 0 n) = pickB l (srt Op.bytesLess (keyB l) 0 n) := by
  have hm : m.length = n := by rw [hp.length_eq, hn]
  refine List.Perm.eq_of_pairwise (le := fun a b => Op.bytesLess a.toList b.toList = true ∨ a = b) ?_ (pickB_sorted hm) (pickB_sorted hn) ((pickB_perm hm).trans (hp.trans (pickB_perm hn).symm))
  intro a b _ _ h1 h2
  rcases h1 with h1 | h1
  · rcases h2 with h2 | h2
    · have := bytesLess_tr _ _ _ h1 h2; rw [bytesLess_irr] at this; cases this
    · exact h2.symm
  · exact h1
theorem turn_perm (l : List ByteArray) (k : Nat) : (l.drop k ++ l.take k).Perm l := by
  refine List.perm_append_comm.trans ?_
  rw [List.take_append_drop]
/-- Texts as values. -/
def textC (s : ByteArray) : Cel := ⟨4, false, false, none, 0, 0, 0, s, none, 0, 0, none, 0, 0⟩
theorem pick_text (l : List ByteArray) (S : List Nat) (h : ∀ p ∈ S, p < l.length) : pickC (l.map textC) S = (pickB l S).map textC := by
  unfold pickC pickB
  rw [List.map_map]
  apply List.map_congr_left
  intro p hp
  simp [List.getD, h p hp]
theorem flat_appG (a b : List Cel) : flat (a ++ b) = flat a ++ flat b := by simp [flat]
theorem flat_one (c : Cel) : flat [c] = c.cells := by simp [flat]
theorem cells_lenG (c : Cel) : c.cells.length = 8 := rfl
theorem flat_dropG (l : List Cel) (k : Nat) : flat (l.drop k) = (flat l).drop (k * 8) := by
  induction l generalizing k with
  | nil => simp [flat]
  | cons c l ih =>
    cases k with
    | zero => simp
    | succ k =>
      rw [List.drop_succ_cons, ih]
      simp only [flat, List.flatMap_cons]
      rw [show (k + 1) * 8 = c.cells.length + k * 8 by rw [cells_lenG]; omega, List.drop_length_add_append]
theorem flat_takeG (l : List Cel) (k : Nat) : flat (l.take k) = (flat l).take (k * 8) := by
  induction l generalizing k with
  | nil => simp [flat]
  | cons c l ih =>
    cases k with
    | zero => simp [flat]
    | succ k =>
      rw [List.take_succ_cons]
      have := ih k
      simp only [flat, List.flatMap_cons] at this ⊢
      rw [this, show (k + 1) * 8 = c.cells.length + k * 8 by rw [cells_lenG]; omega, List.take_length_add_append]
theorem flat_one' (l : List Cel) : ∀ u ∈ flat l, u.oneCell' = true := by
  intro u hu
  simp only [flat, List.mem_flatMap] at hu
  obtain ⟨c, _, hc⟩ := hu
  simp only [Cel.cells, List.mem_cons, List.not_mem_nil, or_false] at hc
  rcases hc with rfl | rfl | rfl | rfl | rfl | rfl | rfl | rfl <;> rfl
end Go.Proofs.Ytndjdmgncjiggaa
