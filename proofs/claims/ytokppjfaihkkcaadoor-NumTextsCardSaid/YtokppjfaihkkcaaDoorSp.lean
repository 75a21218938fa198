/- The walk of the reference's Parse of numbers (package erratumref02): the reading. -/
import Derived.Test.YtokppjfaihkkcaaDoorSm
import Derived.Test.YtokppjfaihkkcaaDoorRv
import Derived.Test.YtokppjfaihkkcaaDoorC7
namespace Go.Proofs.YtokppjfaihkkcaaDoor
open Go.RowKit Go.Sort
set_option linter.unusedVariables false
set_option linter.unusedSimpArgs false

theorem takes_drop {l : List Nat} {a : Nat} (h : a < l.length) (c : Nat) : takes (l.drop a) c = decide (l.getD a 0 = c) := by
  rw [List.drop_eq_getElem_cons h, takes_cons]
  simp [List.getD, h]
theorem takes_out {l : List Nat} {a : Nat} (h : ¬ a < l.length) (c : Nat) : takes (l.drop a) c = false := by
  rw [List.drop_eq_nil_of_le (by omega)]; rfl
/-- The world of the reference's Parse while it reads: the answer's box. -/
def boxW (w : World) : World := w.alloc (.cells #[.bool false, .slice none 0 0, .int .i64 0] 25)
def startN (l : List Nat) : Nat := if takes l 45 = true then 1 else 0
theorem start_drop (l : List Nat) : l.drop (startN l) = rest l 45 := by
  unfold startN rest
  split
  · rw [List.drop_one]
  · rfl
theorem start_le (l : List Nat) : startN l ≤ l.length := by
  unfold startN; split
  · rename_i h; obtain ⟨l', rfl⟩ := takes_true h; simp
  · omega
theorem drop_more {l : List Nat} {a : Nat} {t : List Nat} (h : l.drop a = t) (k : Nat) : l.drop (a + k) = t.drop k := by rw [← h, List.drop_drop]
theorem undigs_drop {l : List Nat} {a : Nat} {t : List Nat} (h : l.drop a = t) : l.drop (a + (digs t).length) = undigs t := by rw [drop_more h, (digs_split t).2]

theorem digs_sum (l : List Nat) : (digs l).length + (undigs l).length = l.length := by
  have h := congrArg List.length (List.takeWhile_append_dropWhile (p := isd) (l := l))
  rw [List.length_append] at h
  exact h
theorem box_cells (w : World) : (boxW w).cell? ⟨w.heap.size, 0, none⟩ = some (.bool false) ∧ (boxW w).cell? ⟨w.heap.size, 1, none⟩ = some (.slice none 0 0) ∧ (boxW w).cell? ⟨w.heap.size, 2, none⟩ = some (.int .i64 0) ∧
    (boxW w).frozen? ⟨w.heap.size, 0, none⟩ = false ∧ (boxW w).frozen? ⟨w.heap.size, 1, none⟩ = false ∧ (boxW w).frozen? ⟨w.heap.size, 2, none⟩ = false := by
  unfold boxW; simp
theorem box_below (w : World) : Below w.heap.size w (boxW w) := (Below.refl _ _).alloc (Nat.le_refl _) _
def badW (w : World) : World := (((boxW w).setCell ⟨w.heap.size, 0, none⟩ (.bool false)).setCell ⟨w.heap.size, 1, none⟩ (.slice none 0 0)).setCell ⟨w.heap.size, 2, none⟩ (.int .i64 0)
theorem bad_ctx {w0 w : World} {l0 : List Ent} (h : Ctx w0 w l0) : Ctx w0 (badW w) l0 := by
  obtain ⟨c0, c1, c2, _⟩ := box_cells w
  exact (h.step (box_below w)).box3 h.below.size c0 c1 c2 _ _ _
def FrCut (l l2 : List Nat) (W : World) (a f : Value) (wx : World) : Prop :=
  ∃ (f' l3 : List Nat) (a2 : Nat), fracL l2 = some (f', l3) ∧ a = .int .i64 ((a2 : Nat) : Int) ∧ l.drop a2 = l3 ∧ a2 ≤ l.length ∧ f = .string (txt f') ∧ Okd f' ∧ f'.length ≤ l2.length ∧ wx = W

def ExCut (l l3 : List Nat) (W : World) (a x d : Value) (wx : World) : Prop :=
  ∃ (d' : Bool) (x' l4 : List Nat) (a3 : Nat), expL l3 = some (d', x', l4) ∧ a = .int .i64 ((a3 : Nat) : Int) ∧ l.drop a3 = l4 ∧ a3 ≤ l.length ∧ x = .string (txt x') ∧ d = .bool d' ∧ Okd x' ∧ x'.length ≤ l3.length ∧ wx = W
def SgCut (l t : List Nat) (W : World) (a d : Value) (wx : World) : Prop :=
  ∃ a4 : Nat, a = .int .i64 ((a4 : Nat) : Int) ∧ l.drop a4 = signL t ∧ a4 ≤ l.length ∧ d = .bool (takes t 45) ∧ wx = W
theorem takes_lt {l : List Nat} {a : Nat} {c : Nat} (h : takes (l.drop a) c = true) : a < l.length := by
  rcases Nat.lt_or_ge a l.length with h1 | h1
  · exact h1
  · rw [List.drop_eq_nil_of_le h1] at h; cases h
theorem drop_tail {l t : List Nat} {a : Nat} (h : l.drop a = t) : l.drop (a + 1) = t.tail := by rw [drop_more h, List.drop_one]

theorem numberL_zero {p : Pt} (h : hval (p.whole ++ p.frac) = 0) : numberL p = some (false, 0, 0) := by unfold numberL; rw [if_pos h]
theorem numberL_wide {p : Pt} (h : hval (p.whole ++ p.frac) ≠ 0) (h6 : ¬ (expN p).length ≤ 6) : numberL p = none := by unfold numberL; rw [if_neg h, if_pos (by omega)]
theorem numberL_room {p : Pt} (h : hval (p.whole ++ p.frac) ≠ 0) (h6 : (expN p).length ≤ 6) (hr : Room (hval (p.whole ++ p.frac)) (expV p - (p.frac.length : Int))) :
    numberL p = some (p.neg, trimM (hval (p.whole ++ p.frac)), expV p - (p.frac.length : Int) + (trimK (hval (p.whole ++ p.frac)) : Int)) := by
  unfold numberL; rw [if_neg h, if_neg (by omega)]; exact if_pos hr
theorem numberL_noroom {p : Pt} (h : hval (p.whole ++ p.frac) ≠ 0) (h6 : (expN p).length ≤ 6) (hr : ¬ Room (hval (p.whole ++ p.frac)) (expV p - (p.frac.length : Int))) : numberL p = none := by
  unfold numberL; rw [if_neg h, if_neg (by omega)]; exact if_neg hr
theorem Ctx.drop2 {w0 w : World} {a b : Ent} {l : List Ent} (h : Ctx w0 w (a :: b :: l)) : Ctx w0 w (a :: l) :=
  ⟨h.below, fun y hy => h.all y (by rcases List.mem_cons.1 hy with rfl | h1 <;> simp [*])⟩
theorem parseN_some {l : List Nat} {p : Pt} (hl : ¬ 2000 < l.length) (h : readL l = some p) : parseN l = match numberL p with | none => .inr 4 | some r => .inl r := by
  unfold parseN; rw [if_neg hl, h]; rfl

set_option maxHeartbeats 16000000 in
set_option maxRecDepth 100000 in
theorem refParse2_any {w0 w : World} {l0 : List Ent} (h : Ctx w0 w l0) (l : List Nat) (ho : Okb l) (hl : l.length ≤ 2000) :
    Calls Tryd.prog 9 #[.string (txt l)] w (ParsedPost w0 l0 (parseN l)) := by
  have hsz : (txt l).size = l.length := txt_size l
  have HAT := Lib.hid (txt_at l ho)
  have HOB := Lib.hid ho; clear ho
  have HH := Lib.hid h; clear h
  have H2000 : Hid (¬ 2000 < l.length) := by show ¬ _; omega
  have hl2 : ¬ (2000 : Int) < (l.length : Int) := by omega
  have KR := Lib.hid (fun a (ha : a ≤ l.length) W => refRun_any l a W HOB.out (by omega) ha)
  have HST := Lib.hid (start_drop l)
  have HSL := start_le l
  have R1 := Lib.hid (fun h => @readL_bad l h)
  have R2 := Lib.hid (fun h h2 => @readL_frac l h h2)
  have R3 := Lib.hid (fun f l3 h h2 h3 => @readL_exp l f l3 h h2 h3)
  have R4 := Lib.hid (fun f l3 d x l4 h h2 h3 h4 => @readL_left l f l3 d x l4 h h2 h3 h4)
  have R5 := Lib.hid (fun f l3 d x h h2 h3 => @readL_ok l f l3 d x h h2 h3)
  have BAD : Hid (readL l = none → ParsedPost w0 l0 (parseN l) (.returned (.tuple #[.agg #[.bool false, .slice none 0 0, .int .i64 0], .int .i64 2])) (badW w)) := fun hr => by
    have e : parseN l = .inr 2 := by unfold parseN; rw [if_neg H2000.out, hr]
    rw [e]
    exact ⟨rfl, bad_ctx HH.out⟩
  have PN := Lib.hid (fun p (h : readL l = some p) => parseN_some H2000.out h)
  generalize hL : l.length = n at *
  have HLL := Lib.hid hL; clear hL
  go_enter Tryd.func9, Tryd.ntmps9
  go_upto_region 3 with fail
  go_cut [4] (fun s wx => s = .bool (takes l 45) ∧ wx = boxW w)
  case first =>
    by_cases h0 : 0 < n
    · have h0z : (0 : Int) < (n : Int) := by omega
      have h0s : 0 < (txt l).size := by rw [hsz]; exact h0
      have hat := HAT.out 0 h0s
      have HT := Lib.hid (takes_drop (l := l) (a := 0) (by rw [HLL.out]; exact h0) 45)
      have hb := HOB.out.getD 0
      generalize hs : txt l = s at *
      have HSS := Lib.hid hs; clear hs
      generalize l.getD 0 0 = x at *
      go_wp2_with fail
      go_meet
      exact ⟨by rw [← List.drop_zero (l := l), HT.out]; first | rfl | (congr 1; rw [Bool.eq_iff_iff]; simp; omega), rfl⟩
    · have h0z : ¬ (0 : Int) < (n : Int) := by omega
      have HT := Lib.hid (takes_out (l := l) (a := 0) (by rw [HLL.out]; exact h0) 45)
      generalize hs : txt l = s at *
      have HSS := Lib.hid hs; clear hs
      go_wp2_with fail
      go_meet
      exact ⟨by rw [← List.drop_zero (l := l), HT.out], rfl⟩
  case rest =>
    obtain ⟨rfl, rfl⟩ := hcut
    go_upto_if 28 with fail
    go_cut [4, 5] (fun s a wx => s = .bool (takes l 45) ∧ a = .int .i64 ((startN l : Nat) : Int) ∧ wx = boxW w)
    case first =>
      by_cases hp : takes l 45 = true
      · have HS : Hid (startN l = 1) := by show _ = _; unfold startN; rw [if_pos hp]
        have HP := Lib.hid hp
        rw [hp]
        go_wp2_with fail
        go_meet
        exact ⟨by rw [HP.out], by rw [HS.out]; rfl, rfl⟩
      · have hp' : takes l 45 = false := by simpa using hp
        have HS : Hid (startN l = 0) := by show _ = _; unfold startN; rw [if_neg hp]
        have HP := Lib.hid hp'
        rw [hp']
        go_wp2_with fail
        go_meet
        exact ⟨by rw [HP.out], by rw [HS.out]; rfl, rfl⟩
    case rest =>
      obtain ⟨rfl, rfl, rfl⟩ := hcut
      have K1 := Lib.hid (KR.out (startN l) HSL)
      go_wp2_with fail
      refine (K1.out _).mono ?_
      rintro r w' ⟨rfl, rfl⟩
      rw [HST.out]
      generalize takes l 45 = ng at *
      generalize rest l 45 = l1 at *
      generalize startN l = a0 at *
      have hod := digs_ok l1
      have hl1 : l1.length = n - a0 := by rw [← HST.out, List.length_drop, HLL.out]
      have hDn : a0 + (digs l1).length ≤ n := by have := digs_len l1; omega
      have hu2 := undigs_len l1
      have HSM := Lib.hid (digs_sum l1)
      have HD2 := Lib.hid (undigs_drop HST.out)
      obtain ⟨c0, c1, c2, f0, f1, f2⟩ := box_cells w
      generalize undigs l1 = l2 at *
      generalize hD : digs l1 = D at *
      have HDD := Lib.hid hD; clear hD
      generalize hA : a0 + D.length = a1 at *
      have HA := Lib.hid hA; clear hA
      have hsD : (txt D).size = D.length := txt_size D
      have HOD := Lib.hid hod; clear hod
      rcases D with _ | ⟨y, t⟩
      · have HB := Lib.hid (BAD.out (R1.out (.inl rfl)))
        rw [txt_nil]
        go_wp2_with fail
        exact bodyPost_ret (v := .tuple #[.agg #[.bool false, .slice none 0 0, .int .i64 0], .int .i64 2]) (by simp [results, Tryd.results9, go_sem, c0, c1, c2]) rfl HB.out
      · have hne := txt_cons_ne y t
        have hemp := txt_cons_emp y t
        have hDp : 0 < (y :: t).length := by simp
        have hy : 48 ≤ y ∧ y ≤ 57 := HOD.out y (by simp)
        have hps : 0 < (txt (y :: t)).size := by rw [hsD]; exact hDp
        have hat := txt_at (y :: t) HOD.out.b 0 hps
        rw [show (y :: t).getD 0 0 = y from rfl] at hat
        have HWB : Hid (wholeBad (y :: t) ↔ 1 < (y :: t).length ∧ y = 48) := by
          show _ ↔ _
          unfold wholeBad; simp
        generalize y :: t = D at *
        have HAT0 := Lib.hid hat
        by_cases hbad : 1 < D.length ∧ y = 48
        · obtain ⟨b1, b2⟩ := hbad
          have HB := Lib.hid (BAD.out (R1.out (HWB.out.2 ⟨b1, b2⟩)))
          have b1z : (1 : Int) < (D.length : Int) := by omega
          subst b2
          generalize hs : txt D = sD at *
          have HSD := Lib.hid hs; clear hs
          go_wp2_with fail
          exact bodyPost_ret (v := .tuple #[.agg #[.bool false, .slice none 0 0, .int .i64 0], .int .i64 2]) (by simp [results, Tryd.results9, go_sem, c0, c1, c2]) rfl HB.out
        · have HG := Lib.hid (fun hw => hbad (HWB.out.1 hw))
          go_upto_region 8 with fail
          go_cut [46] (fun s wx => s = .bool false ∧ wx = boxW w)
          case first =>
            generalize hs : txt D = sD at *
            have HSD := Lib.hid hs; clear hs
            by_cases b1 : 1 < D.length
            · have b1z : (1 : Int) < (D.length : Int) := by omega
              have b2z : ((y : Int) == 48) = false := by rw [beq_eq_false_iff_ne]; omega
              go_wp2_with fail
              go_meet
              exact ⟨rfl, rfl⟩
            · have b1z : ¬ (1 : Int) < (D.length : Int) := by omega
              go_wp2_with fail
              go_meet
              exact ⟨rfl, rfl⟩
          case rest =>
            obtain ⟨rfl, rfl⟩ := hcut
            go_upto_region 11 with fail
            go_cut [57] (fun s wx => s = .bool (takes l2 46) ∧ wx = boxW w)
            case first =>
              by_cases h1 : a1 < n
              · have h1z : (a1 : Int) < (n : Int) := by omega
                have h1s : a1 < (txt l).size := by rw [hsz]; exact h1
                have hatx := HAT.out a1 h1s
                have HT := Lib.hid (takes_drop (l := l) (a := a1) (by rw [HLL.out]; exact h1) 46)
                rw [HD2.out] at HT
                have hb := HOB.out.getD a1
                generalize hs : txt l = s at *
                have HSS := Lib.hid hs; clear hs
                generalize l.getD a1 0 = x at *
                go_wp2_with fail
                go_meet
                exact ⟨by rw [HT.out]; first | rfl | (congr 1; rw [Bool.eq_iff_iff]; simp; omega), rfl⟩
              · have h1z : ¬ (a1 : Int) < (n : Int) := by omega
                have HT := Lib.hid (takes_out (l := l) (a := a1) (by rw [HLL.out]; exact h1) 46)
                rw [HD2.out] at HT
                generalize hs : txt l = s at *
                have HSS := Lib.hid hs; clear hs
                go_wp2_with fail
                go_meet
                exact ⟨by rw [HT.out], rfl⟩
            case rest =>
              obtain ⟨rfl, rfl⟩ := hcut
              go_upto_if 57 with fail
              go_cut [5, 7] (fun a f wx => FrCut l l2 (boxW w) a f wx)
              case first =>
                by_cases hp : takes l2 46 = true
                · have hlt : a1 < n := by have := takes_lt (l := l) (a := a1) (c := 46) (by rw [HD2.out]; exact hp); rw [HLL.out] at this; exact this
                  have HF : Hid (fracL l2 = if digs l2.tail = [] then none else some (digs l2.tail, undigs l2.tail)) := by show _ = _; unfold fracL; rw [if_pos hp]
                  have HD3 := Lib.hid (drop_tail HD2.out)
                  have hcast : ((a1 + 1 : Nat) : Int) = (a1 : Int) + 1 := by omega
                  have K2 := Lib.hid (fun W => KR.out (a1 + 1) (by omega) W)
                  rw [hcast] at K2
                  have hod3 := digs_ok l2.tail
                  have hdl3 := digs_len l2.tail
                  have htl : l2.tail.length = n - (a1 + 1) := by rw [← HD3.out, List.length_drop, HLL.out]
                  have htl2 : l2.tail.length ≤ l2.length := by simp
                  have HD4 := Lib.hid (undigs_drop HD3.out)
                  rw [hp]
                  go_wp2_with fail
                  refine (K2.out _).mono ?_
                  rintro r w' ⟨rfl, rfl⟩
                  rw [HD3.out]
                  generalize l2.tail = l3 at *
                  rcases hdd : digs l3 with _ | ⟨z, u⟩
                  · have HB := Lib.hid (BAD.out (R2.out HG.out (by rw [HF.out, if_pos hdd])))
                    rw [txt_nil]
                    clear hdd
                    go_wp2_with fail
                    exact bodyPost_ret (v := .tuple #[.agg #[.bool false, .slice none 0 0, .int .i64 0], .int .i64 2]) (by simp [results, Tryd.results9, go_sem, c0, c1, c2]) rfl HB.out
                  · have HFF := Lib.hid (HF.out.trans (if_neg (by rw [hdd]; simp)))
                    have hne3 := txt_cons_ne z u
                    have hemp3 := txt_cons_emp z u
                    rw [← hdd] at hne3 hemp3 ⊢
                    have hA2 : Hid (((a1 + 1 + (digs l3).length : Nat) : Int) ≤ (n : Int)) := by show _ ≤ _; omega
                    clear hdd
                    generalize digs l3 = f' at *
                    generalize undigs l3 = l4 at *
                    go_wp2_with fail
                    go_meet
                    exact ⟨f', l4, a1 + 1 + f'.length, HFF.out, rfl, HD4.out, by rw [HLL.out]; have := hA2.out; omega, rfl, hod3, by omega, rfl⟩
                · have hp' : takes l2 46 = false := by simpa using hp
                  have HF : Hid (fracL l2 = some ([], l2)) := by show _ = _; unfold fracL; rw [if_neg hp]
                  rw [hp']
                  go_wp2_with fail
                  go_meet
                  exact ⟨[], l2, a1, HF.out, rfl, HD2.out, by rw [HLL.out]; exact hDn, rfl, Okd.nil, by simp, rfl⟩
              case rest =>
                obtain ⟨f, l3, a2, hfr, rfl, hd3, ha2, rfl, hof, hlf, rfl⟩ := hcut
                rw [HLL.out] at ha2
                have HFR := Lib.hid hfr; clear hfr
                have HD3 := Lib.hid hd3; clear hd3
                have HOF := Lib.hid hof; clear hof
                go_upto_region 16 with fail
                go_cut [83] (fun s wx => s = .bool (hasE l3) ∧ wx = boxW w)
                case first =>
                  by_cases h1 : a2 < n
                  · have h1z : (a2 : Int) < (n : Int) := by omega
                    have h1s : a2 < (txt l).size := by rw [hsz]; exact h1
                    have hatx := HAT.out a2 h1s
                    have HT1 := Lib.hid (takes_drop (l := l) (a := a2) (by rw [HLL.out]; exact h1) 101)
                    have HT2 := Lib.hid (takes_drop (l := l) (a := a2) (by rw [HLL.out]; exact h1) 69)
                    rw [HD3.out] at HT1 HT2
                    have HE : Hid (hasE l3 = (takes l3 101 || takes l3 69)) := rfl
                    have hb := HOB.out.getD a2
                    generalize hs : txt l = s at *
                    have HSS := Lib.hid hs; clear hs
                    generalize l.getD a2 0 = x at *
                    by_cases e1 : x = 101
                    · subst e1
                      go_wp2_with fail
                      go_meet
                      exact ⟨by rw [HE.out, HT1.out]; simp, rfl⟩
                    · have e1z : ((x : Int) == 101) = false := by rw [beq_eq_false_iff_ne]; omega
                      have E1 := Lib.hid e1; clear e1
                      go_wp2_with fail
                      go_meet
                      exact ⟨by rw [HE.out, HT1.out, HT2.out, decide_eq_false E1.out, Bool.false_or]; first | rfl | (congr 1; rw [Bool.eq_iff_iff]; simp; omega), rfl⟩
                  · have h1z : ¬ (a2 : Int) < (n : Int) := by omega
                    have HT1 := Lib.hid (takes_out (l := l) (a := a2) (by rw [HLL.out]; exact h1) 101)
                    have HT2 := Lib.hid (takes_out (l := l) (a := a2) (by rw [HLL.out]; exact h1) 69)
                    rw [HD3.out] at HT1 HT2
                    have HE : Hid (hasE l3 = (takes l3 101 || takes l3 69)) := rfl
                    generalize hs : txt l = s at *
                    have HSS := Lib.hid hs; clear hs
                    go_wp2_with fail
                    go_meet
                    exact ⟨by rw [HE.out, HT1.out, HT2.out]; rfl, rfl⟩
                case rest =>
                  obtain ⟨rfl, rfl⟩ := hcut
                  go_upto_if 83 with fail
                  go_cut [5, 8, 9] (fun a x d wx => ExCut l l3 (boxW w) a x d wx)
                  case first =>
                    by_cases hE : hasE l3 = true
                    · have HX : Hid (expL l3 = if digs (signL l3.tail) = [] then none else some (takes l3.tail 45, digs (signL l3.tail), undigs (signL l3.tail))) := expL_yes hE
                      have hlt : a2 < n := by
                        have h2 := (hasE_iff l3).2 hE
                        rw [← HD3.out] at h2
                        rw [← HLL.out]
                        rcases h2 with h2 | h2 <;> exact takes_lt h2
                      have HDT := Lib.hid (drop_tail HD3.out)
                      have htl : l3.tail.length = n - (a2 + 1) := by rw [← HDT.out, List.length_drop, HLL.out]
                      have htl2 : l3.tail.length ≤ l3.length := by simp
                      rw [hE]
                      generalize l3.tail = t at *
                      go_upto_region 18 with fail
                      have hcast : (a2 : Int) + 1 = ((a2 + 1 : Nat) : Int) := by omega
                      rw [hcast]
                      have hb1 : a2 + 1 ≤ n := hlt
                      generalize a2 + 1 = b at *
                      clear hcast
                      go_cut [101] (fun s wx => s = .bool (takes t 43 || takes t 45) ∧ wx = boxW w)
                      case first =>
                        by_cases h1 : b < n
                        · have h1z : (b : Int) < (n : Int) := by omega
                          have h1s : b < (txt l).size := by rw [hsz]; exact h1
                          have hatx := HAT.out b h1s
                          have HT1 := Lib.hid (takes_drop (l := l) (a := b) (by rw [HLL.out]; exact h1) 43)
                          have HT2 := Lib.hid (takes_drop (l := l) (a := b) (by rw [HLL.out]; exact h1) 45)
                          rw [HDT.out] at HT1 HT2
                          have hb := HOB.out.getD b
                          generalize hs : txt l = s at *
                          have HSS := Lib.hid hs; clear hs
                          generalize l.getD b 0 = x at *
                          by_cases e1 : x = 43
                          · subst e1
                            go_wp2_with fail
                            go_meet
                            exact ⟨by rw [HT1.out]; simp, rfl⟩
                          · have e1z : ((x : Int) == 43) = false := by rw [beq_eq_false_iff_ne]; omega
                            have E1 := Lib.hid e1; clear e1
                            go_wp2_with fail
                            go_meet
                            exact ⟨by rw [HT1.out, HT2.out, decide_eq_false E1.out, Bool.false_or]; first | rfl | (congr 1; rw [Bool.eq_iff_iff]; simp; omega), rfl⟩
                        · have h1z : ¬ (b : Int) < (n : Int) := by omega
                          have HT1 := Lib.hid (takes_out (l := l) (a := b) (by rw [HLL.out]; exact h1) 43)
                          have HT2 := Lib.hid (takes_out (l := l) (a := b) (by rw [HLL.out]; exact h1) 45)
                          rw [HDT.out] at HT1 HT2
                          generalize hs : txt l = s at *
                          have HSS := Lib.hid hs; clear hs
                          go_wp2_with fail
                          go_meet
                          exact ⟨by rw [HT1.out, HT2.out]; rfl, rfl⟩
                      case rest =>
                        obtain ⟨rfl, rfl⟩ := hcut
                        go_upto_if 101 with fail
                        go_cut [5, 9] (fun a d wx => SgCut l t (boxW w) a d wx)
                        case first =>
                          by_cases hs : (takes t 43 || takes t 45) = true
                          · have hlt : b < n := by
                              have h2 : takes t 43 = true ∨ takes t 45 = true := by simpa using hs
                              rw [← HDT.out] at h2
                              rw [← HLL.out]
                              rcases h2 with h2 | h2 <;> exact takes_lt h2
                            have hbz : (b : Int) < (n : Int) := by omega
                            have h1s : b < (txt l).size := by rw [hsz]; exact hlt
                            have hatx := HAT.out b h1s
                            have HT2 := Lib.hid (takes_drop (l := l) (a := b) (by rw [HLL.out]; exact hlt) 45)
                            rw [HDT.out] at HT2
                            have HD5 := Lib.hid (drop_tail HDT.out)
                            have HSG : Hid (signL t = t.tail) := by
                              show _ = _
                              unfold signL rest
                              by_cases h45 : takes t 45 = true
                              · rw [if_pos h45]
                              · rw [if_neg h45]
                                have h45' : takes t 45 = false := by simpa using h45
                                rw [h45', Bool.or_false] at hs
                                rw [if_pos hs]
                            have hb := HOB.out.getD b
                            have hbn : ((b + 1 : Nat) : Int) ≤ (n : Int) := by omega
                            rw [hs]
                            clear hs
                            generalize hss : txt l = s at *
                            have HSS := Lib.hid hss; clear hss
                            generalize l.getD b 0 = x at *
                            go_wp2_with fail
                            go_meet
                            exact ⟨b + 1, rfl, by rw [HSG.out]; exact HD5.out, by rw [HLL.out]; omega, by rw [HT2.out]; first | rfl | (congr 1; rw [Bool.eq_iff_iff]; simp; omega), rfl⟩
                          · have hs' : (takes t 43 || takes t 45) = false := by simpa using hs
                            have h43 : takes t 43 = false := by simp at hs'; exact hs'.1
                            have h45 : takes t 45 = false := by simp at hs'; exact hs'.2
                            have HSG : Hid (signL t = t) := by
                              show _ = _
                              unfold signL rest
                              rw [h43, h45]; rfl
                            have H45 := Lib.hid h45
                            rw [hs']
                            clear hs hs' h43 h45
                            go_wp2_with fail
                            go_meet
                            exact ⟨b, rfl, by rw [HSG.out]; exact HDT.out, by rw [HLL.out]; exact hb1, by rw [H45.out], rfl⟩
                        case rest =>
                          obtain ⟨a4, rfl, hd4, ha4, rfl, rfl⟩ := hcut
                          rw [HLL.out] at ha4
                          have HD5 := Lib.hid hd4; clear hd4
                          have K3 := Lib.hid (fun W => KR.out a4 ha4 W)
                          have hsl : (signL t).length ≤ t.length := sign_len t
                          generalize signL t = sg at *
                          have hod4 := digs_ok sg
                          have hdl4 := digs_len sg
                          have hsg : sg.length = n - a4 := by rw [← HD5.out, List.length_drop, HLL.out]
                          have HD6 := Lib.hid (undigs_drop HD5.out)
                          go_wp2_with fail
                          refine (K3.out _).mono ?_
                          rintro r w' ⟨rfl, rfl⟩
                          rw [HD5.out]
                          rcases hdd : digs sg with _ | ⟨z, u⟩
                          · have HB := Lib.hid (BAD.out (R3.out f l3 HG.out HFR.out (by rw [HX.out, if_pos hdd])))
                            rw [txt_nil]
                            clear hdd
                            go_wp2_with fail
                            exact bodyPost_ret (v := .tuple #[.agg #[.bool false, .slice none 0 0, .int .i64 0], .int .i64 2]) (by simp [results, Tryd.results9, go_sem, c0, c1, c2]) rfl HB.out
                          · have HXX := Lib.hid (HX.out.trans (if_neg (by rw [hdd]; simp)))
                            have hne4 := txt_cons_ne z u
                            have hemp4 := txt_cons_emp z u
                            rw [← hdd] at hne4 hemp4 ⊢
                            have hA4 : Hid (((a4 + (digs sg).length : Nat) : Int) ≤ (n : Int)) := by show _ ≤ _; omega
                            clear hdd
                            generalize digs sg = x' at *
                            generalize undigs sg = l5 at *
                            go_wp2_with fail
                            go_meet
                            exact ⟨takes t 45, x', l5, a4 + x'.length, HXX.out, rfl, HD6.out, by rw [HLL.out]; have := hA4.out; omega, rfl, rfl, hod4, by omega, rfl⟩
                    · have hE' : hasE l3 = false := by simpa using hE
                      have HX : Hid (expL l3 = some (false, [], l3)) := expL_no hE'
                      rw [hE']
                      go_wp2_with fail
                      go_meet
                      exact ⟨false, [], l3, a2, HX.out, rfl, HD3.out, by rw [HLL.out]; exact ha2, rfl, rfl, Okd.nil, by simp, rfl⟩
                  case rest =>
                    obtain ⟨d, x, l4, a3, hex, rfl, hd4, ha3, rfl, rfl, hox, hlx, rfl⟩ := hcut
                    rw [HLL.out] at ha3
                    have HEX := Lib.hid hex; clear hex
                    have HD4 := Lib.hid hd4
                    have hl4 : l4.length = n - a3 := by rw [← hd4, List.length_drop, HLL.out]
                    clear hd4
                    by_cases hend : a3 < n
                    · have hendz : (a3 : Int) < (n : Int) := by omega
                      have HB := Lib.hid (BAD.out (R4.out f l3 d x l4 HG.out HFR.out HEX.out (fun h0 => by rw [h0] at hl4; simp at hl4; omega)))
                      go_wp2_with fail
                      exact bodyPost_ret (v := .tuple #[.agg #[.bool false, .slice none 0 0, .int .i64 0], .int .i64 2]) (by simp [results, Tryd.results9, go_sem, c0, c1, c2]) rfl HB.out
                    · have hendz : ¬ (a3 : Int) < (n : Int) := by omega
                      have h40 : l4 = [] := List.eq_nil_of_length_eq_zero (by omega)
                      subst h40
                      have HOK := Lib.hid (R5.out f l3 d x HG.out HFR.out HEX.out)
                      have hDf : (D ++ f).length ≤ 2000 := by rw [List.length_append]; have := HSM.out; have := H2000.out; omega
                      have hodf : Okd (D ++ f) := Okd.append HOD.out HOF.out
                      have hpo : paOk (D ++ f) = true := paOk_iff.2 ⟨by rw [List.length_append]; omega, hDf, hodf⟩
                      have hpx : paX (D ++ f) = limbs (hval (D ++ f)) := by unfold paX; rw [if_pos hpo]
                      have HPA := Lib.hid (fun W (hc : Ctx (boxW w) W l0) => (show Calls Tryd.prog 35 #[.string (txt D ++ txt f)] W (fun e w' => ∃ v, e = .returned (.tuple #[v, .bool true]) ∧ Ctx (boxW w) w' (⟨v, 2000, hval (D ++ f), limbs (hval (D ++ f))⟩ :: l0)) from by
                        rw [txt_append]
                        refine (refParse_any (txt (D ++ f)) W (by rw [txt_size]; unfold maxLen; omega)).mono (fun e w' hp => ?_)
                        rw [nums_txt hodf] at hp
                        have := parse_ctx hc (D ++ f) e w' hp
                        rw [hpo, hpx, val_limbs] at this
                        exact this))
                      have hC1 := HH.out.step (box_below w)
                      have HC0 := Lib.hid hC1.again
                      have HBW := Lib.hid hC1.below
                      have HW0 := Lib.hid HH.out.below.size
                      have hz0 : w.heap.size < (boxW w).heap.size := by unfold boxW; simp
                      have HP0 := Lib.hid (PN.out _ HOK.out)
                      have hfl : f.length ≤ n := by have := HSM.out; omega
                      have hsf : (txt f).size = f.length := txt_size f
                      have hl3 : l3.length = n - a2 := by rw [← HD3.out, List.length_drop, HLL.out]
                      have hxl : x.length ≤ 100000 := by have := H2000.out; omega
                      have hsD2 : (txt D).size ≤ 2000 := by have := HSM.out; have := H2000.out; omega
                      have hsf2 : (txt f).size ≤ 2000 := by have := H2000.out; omega
                      have KE := Lib.hid (fun W => refExp_any x d W hox hxl)
                      have HN1 := Lib.hid (fun (h : hval (D ++ f) = 0) => numberL_zero (p := ⟨ng, D, f, d, x⟩) h)
                      have HN2 := Lib.hid (fun (h : hval (D ++ f) ≠ 0) h6 => numberL_wide (p := ⟨ng, D, f, d, x⟩) h h6)
                      have HN3 := Lib.hid (fun (h : hval (D ++ f) ≠ 0) h6 hr => numberL_room (p := ⟨ng, D, f, d, x⟩) h h6 hr)
                      have HN4 := Lib.hid (fun (h : hval (D ++ f) ≠ 0) h6 hr => numberL_noroom (p := ⟨ng, D, f, d, x⟩) h h6 hr)
                      have hEV : expV ⟨ng, D, f, d, x⟩ = if d = true then -(hval (x.dropWhile (· == 48)) : Int) else (hval (x.dropWhile (· == 48)) : Int) := rfl
                      have HEB := Lib.hid (fun h6 => expV_bd (p := ⟨ng, D, f, d, x⟩) h6 hox)
                      rw [hEV] at HN3 HN4 HEB
                      rw [show expN ⟨ng, D, f, d, x⟩ = x.dropWhile (· == 48) from rfl] at HN2 HN3 HN4 HEB
                      simp only at HN1 HN2 HN3 HN4 HEB
                      generalize numberL ⟨ng, D, f, d, x⟩ = NL at *
                      clear hEV
                      generalize x.dropWhile (· == 48) = T at *
                      generalize hval (D ++ f) = N at *
                      clear hDf hodf hpo hpx hC1 hox hxl hlx hlf ha3 hl4 hDp hps hat HAT0 HG HFR HEX HOK HD4 BAD R1 R2 R3 R4 R5 KR
                      go_upto_region 26 with fail
                      go_wp2_with fail
                      refine (HPA.out _ HC0.out).mono ?_
                      rintro r w1 ⟨v, rfl, h1⟩
                      obtain ⟨ad, cap, rfl, _⟩ := h1.get 0 rfl
                      obtain ⟨hc, hf⟩ := bcell h1.below
                      have e0 := (hc w.heap.size 0 hz0).trans c0
                      have g0 := (hf w.heap.size 0 hz0).trans f0
                      have e1 := (hc w.heap.size 1 hz0).trans c1
                      have g1 := (hf w.heap.size 1 hz0).trans f1
                      have e2 := (hc w.heap.size 2 hz0).trans c2
                      have g2 := (hf w.heap.size 2 hz0).trans f2
                      have hz1 : w.heap.size < w1.heap.size := Nat.lt_of_lt_of_le hz0 h1.below.size
                      have HC1 := Lib.hid h1
                      clear hc hf c0 c1 c2 f0 f1 f2 h1 HPA HC0 hz0
                      by_cases h0 : N = 0
                      · have hln : (limbs N).length = 0 := by rw [h0, limbs_zero]; rfl
                        have HNL := Lib.hid (HN1.out h0)
                        rw [hln]
                        clear hln h0
                        go_wp2_with fail
                        refine bodyPost_ret (v := .tuple #[.agg #[.bool false, .slice none 0 0, .int .i64 0], .int .i64 0]) (by simp [results, Tryd.results9, go_sem, e0, e1, e2]) rfl ?_
                        rw [HP0.out, HNL.out]
                        exact ⟨_, rfl, (((Ctx.back HBW.out HC1.out).box3 HW0.out e0 e1 e2 (.bool false) (.slice none 0 0) (.int .i64 0)).drop1).push (ent_nil _ _)⟩
                      · have hlb : (((limbs N).length : Int) == 0) = false := by
                          rw [beq_eq_false_iff_ne]; intro h; exact h0 ((limbs_nil_iff N).1 (List.eq_nil_of_length_eq_zero (by omega)))
                        have H0 := Lib.hid h0
                        clear h0
                        generalize (limbs N).length = k at *
                        go_wp2_with fail
                        refine (KE.out _).mono ?_
                        rintro r w2 ⟨rfl, rfl⟩
                        by_cases h6 : T.length ≤ 6
                        · rw [if_pos h6]
                          have hbd := HEB.out h6
                          have HN3' := Lib.hid (fun hr => HN3.out H0.out h6 hr)
                          have HN4' := Lib.hid (fun hr => HN4.out H0.out h6 hr)
                          clear h6 HN3 HN4 HN1 HN2 HEB KE
                          generalize (if d = true then -(hval T : Int) else (hval T : Int)) = E at *
                          have hsub : IntKind.i64.wrap (E - (f.length : Int)) = E - (f.length : Int) := IntWalk.i64_in _ (by omega)
                          by_cases hr : Room N (E - (f.length : Int))
                          · have KM := Lib.hid (refMake_room HC1.out.again 0 rfl (by decide) ng (E - (f.length : Int)) H0.out hr)
                            have HNL := Lib.hid (HN3'.out hr)
                            clear hr HN3' HN4'
                            go_wp2_with fail
                            refine KM.out.mono ?_
                            rintro r w3 ⟨v3, rfl, h3⟩
                            obtain ⟨ad3, cap3, rfl, _⟩ := h3.get 0 rfl
                            obtain ⟨hc, hf⟩ := bcell h3.below
                            have hz3 : w.heap.size < w3.heap.size := Nat.lt_of_lt_of_le hz1 h3.below.size
                            generalize hk3 : (limbs (trimM N)).length = k3 at *
                            clear hk3
                            have hbx := below_box w3 #[.bool ng, .slice ad3 k3 cap3, .int .i64 (E - (f.length : Int) + (trimK N : Int))] 25
                            have HF := Lib.hid (((Ctx.back (Ctx.back HBW.out HC1.out).below h3).drop2).step hbx)
                            obtain ⟨hc2, hf2⟩ := bcell hbx
                            have a0 := (hc2 w.heap.size 0 hz3).trans ((hc w.heap.size 0 hz1).trans e0)
                            have b0 := (hf2 w.heap.size 0 hz3).trans ((hf w.heap.size 0 hz1).trans g0)
                            have a1 := (hc2 w.heap.size 1 hz3).trans ((hc w.heap.size 1 hz1).trans e1)
                            have b1 := (hf2 w.heap.size 1 hz3).trans ((hf w.heap.size 1 hz1).trans g1)
                            have a2 := (hc2 w.heap.size 2 hz3).trans ((hc w.heap.size 2 hz1).trans e2)
                            have b2 := (hf2 w.heap.size 2 hz3).trans ((hf w.heap.size 2 hz1).trans g2)
                            obtain ⟨y1, y2, y3, y4⟩ := bx_new w3 ng (.slice ad3 k3 cap3) (E - (f.length : Int) + (trimK N : Int))
                            clear hc hf hc2 hf2 hbx h3 e0 e1 e2 g0 g1 g2 hz3 hz1 KM
                            go_wp2_with fail
                            refine bodyPost_ret (v := .tuple #[.agg #[.bool ng, .slice ad3 k3 cap3, .int .i64 (E - (f.length : Int) + (trimK N : Int))], .int .i64 0]) (by simp [results, Tryd.results9, go_sem, a0, a1, a2]) rfl ?_
                            rw [HP0.out, HNL.out]
                            exact ⟨_, rfl, HF.out.box3 HW0.out a0 a1 a2 _ _ _⟩
                          · have KM := Lib.hid (refMake_noroom HC1.out.again 0 rfl (by decide) ng (E - (f.length : Int)) H0.out hr (by omega) (by omega))
                            have HNL := Lib.hid (HN4'.out hr)
                            clear hr HN3' HN4'
                            go_wp2_with fail
                            refine KM.out.mono ?_
                            rintro r w3 ⟨v3, rfl, h3⟩
                            obtain ⟨ad3, cap3, rfl, _⟩ := h3.get 0 rfl
                            obtain ⟨hc, hf⟩ := bcell h3.below
                            have hz3 : w.heap.size < w3.heap.size := Nat.lt_of_lt_of_le hz1 h3.below.size
                            generalize hk3 : (limbs (0)).length = k3 at *
                            clear hk3
                            have hbx := below_box w3 #[.bool false, .slice ad3 k3 cap3, .int .i64 (0)] 25
                            have HF := Lib.hid (((Ctx.back (Ctx.back HBW.out HC1.out).below h3).drop2).step hbx)
                            obtain ⟨hc2, hf2⟩ := bcell hbx
                            have a0 := (hc2 w.heap.size 0 hz3).trans ((hc w.heap.size 0 hz1).trans e0)
                            have b0 := (hf2 w.heap.size 0 hz3).trans ((hf w.heap.size 0 hz1).trans g0)
                            have a1 := (hc2 w.heap.size 1 hz3).trans ((hc w.heap.size 1 hz1).trans e1)
                            have b1 := (hf2 w.heap.size 1 hz3).trans ((hf w.heap.size 1 hz1).trans g1)
                            have a2 := (hc2 w.heap.size 2 hz3).trans ((hc w.heap.size 2 hz1).trans e2)
                            have b2 := (hf2 w.heap.size 2 hz3).trans ((hf w.heap.size 2 hz1).trans g2)
                            obtain ⟨y1, y2, y3, y4⟩ := bx_new w3 false (.slice ad3 k3 cap3) (0)
                            clear hc hf hc2 hf2 hbx h3 e0 e1 e2 g0 g1 g2 hz3 hz1 KM
                            go_wp2_with fail
                            refine bodyPost_ret (v := .tuple #[.agg #[.bool false, .slice none 0 0, .int .i64 0], .int .i64 4]) (by simp [results, Tryd.results9, go_sem, a0, a1, a2]) rfl ?_
                            rw [HP0.out, HNL.out]
                            exact ⟨rfl, (HF.out.drop1).box3 HW0.out a0 a1 a2 _ _ _⟩
                        · rw [if_neg h6]
                          have HNL := Lib.hid (HN2.out H0.out h6)
                          clear h6 HN3 HN4 HN1 HN2 HEB KE
                          have hsub : IntKind.i64.wrap (0 - (f.length : Int)) = 0 - (f.length : Int) := IntWalk.i64_in _ (by omega)
                          have hsub2 : (0 : Int) - (f.length : Int) = -(f.length : Int) := by omega
                          by_cases hr : Room N (-(f.length : Int))
                          · have KM := Lib.hid (refMake_room HC1.out.again 0 rfl (by decide) ng (-(f.length : Int)) H0.out hr)
                            clear hr
                            go_wp2_with fail
                            refine KM.out.mono ?_
                            rintro r w3 ⟨v3, rfl, h3⟩
                            obtain ⟨ad3, cap3, rfl, _⟩ := h3.get 0 rfl
                            obtain ⟨hc, hf⟩ := bcell h3.below
                            have hz3 : w.heap.size < w3.heap.size := Nat.lt_of_lt_of_le hz1 h3.below.size
                            generalize hk3 : (limbs (trimM N)).length = k3 at *
                            clear hk3
                            have hbx := below_box w3 #[.bool ng, .slice ad3 k3 cap3, .int .i64 (-(f.length : Int) + (trimK N : Int))] 25
                            have HF := Lib.hid (((Ctx.back (Ctx.back HBW.out HC1.out).below h3).drop2).step hbx)
                            obtain ⟨hc2, hf2⟩ := bcell hbx
                            have a0 := (hc2 w.heap.size 0 hz3).trans ((hc w.heap.size 0 hz1).trans e0)
                            have b0 := (hf2 w.heap.size 0 hz3).trans ((hf w.heap.size 0 hz1).trans g0)
                            have a1 := (hc2 w.heap.size 1 hz3).trans ((hc w.heap.size 1 hz1).trans e1)
                            have b1 := (hf2 w.heap.size 1 hz3).trans ((hf w.heap.size 1 hz1).trans g1)
                            have a2 := (hc2 w.heap.size 2 hz3).trans ((hc w.heap.size 2 hz1).trans e2)
                            have b2 := (hf2 w.heap.size 2 hz3).trans ((hf w.heap.size 2 hz1).trans g2)
                            obtain ⟨y1, y2, y3, y4⟩ := bx_new w3 ng (.slice ad3 k3 cap3) (-(f.length : Int) + (trimK N : Int))
                            clear hc hf hc2 hf2 hbx h3 e0 e1 e2 g0 g1 g2 hz3 hz1 KM
                            go_wp2_with fail
                            refine bodyPost_ret (v := .tuple #[.agg #[.bool false, .slice none 0 0, .int .i64 0], .int .i64 4]) (by simp [results, Tryd.results9, go_sem, a0, a1, a2]) rfl ?_
                            rw [HP0.out, HNL.out]
                            exact ⟨rfl, (HF.out.drop1).box3 HW0.out a0 a1 a2 _ _ _⟩
                          · have KM := Lib.hid (refMake_noroom HC1.out.again 0 rfl (by decide) ng (-(f.length : Int)) H0.out hr (by omega) (by omega))
                            clear hr
                            go_wp2_with fail
                            refine KM.out.mono ?_
                            rintro r w3 ⟨v3, rfl, h3⟩
                            obtain ⟨ad3, cap3, rfl, _⟩ := h3.get 0 rfl
                            obtain ⟨hc, hf⟩ := bcell h3.below
                            have hz3 : w.heap.size < w3.heap.size := Nat.lt_of_lt_of_le hz1 h3.below.size
                            generalize hk3 : (limbs (0)).length = k3 at *
                            clear hk3
                            have hbx := below_box w3 #[.bool false, .slice ad3 k3 cap3, .int .i64 (0)] 25
                            have HF := Lib.hid (((Ctx.back (Ctx.back HBW.out HC1.out).below h3).drop2).step hbx)
                            obtain ⟨hc2, hf2⟩ := bcell hbx
                            have a0 := (hc2 w.heap.size 0 hz3).trans ((hc w.heap.size 0 hz1).trans e0)
                            have b0 := (hf2 w.heap.size 0 hz3).trans ((hf w.heap.size 0 hz1).trans g0)
                            have a1 := (hc2 w.heap.size 1 hz3).trans ((hc w.heap.size 1 hz1).trans e1)
                            have b1 := (hf2 w.heap.size 1 hz3).trans ((hf w.heap.size 1 hz1).trans g1)
                            have a2 := (hc2 w.heap.size 2 hz3).trans ((hc w.heap.size 2 hz1).trans e2)
                            have b2 := (hf2 w.heap.size 2 hz3).trans ((hf w.heap.size 2 hz1).trans g2)
                            obtain ⟨y1, y2, y3, y4⟩ := bx_new w3 false (.slice ad3 k3 cap3) (0)
                            clear hc hf hc2 hf2 hbx h3 e0 e1 e2 g0 g1 g2 hz3 hz1 KM
                            go_wp2_with fail
                            refine bodyPost_ret (v := .tuple #[.agg #[.bool false, .slice none 0 0, .int .i64 0], .int .i64 4]) (by simp [results, Tryd.results9, go_sem, a0, a1, a2]) rfl ?_
                            rw [HP0.out, HNL.out]
                            exact ⟨rfl, (HF.out.drop1).box3 HW0.out a0 a1 a2 _ _ _⟩
set_option maxHeartbeats 4000000 in
set_option maxRecDepth 100000 in
theorem refParse2_long {w0 w : World} {l0 : List Ent} (h : Ctx w0 w l0) (l : List Nat) (hl : 2000 < l.length) :
    Calls Tryd.prog 9 #[.string (txt l)] w (ParsedPost w0 l0 (.inr 4)) := by
  have hsz : (txt l).size = l.length := txt_size l
  have hl' : (2000 : Int) < (l.length : Int) := by omega
  have HB := Lib.hid (h.step (box_below w))
  unfold boxW at HB
  clear h
  generalize txt l = s at *
  go_enter Tryd.func9, Tryd.ntmps9
  go_wp2_with fail
  exact bodyPost_ret (v := .tuple #[.agg #[.bool false, .slice none 0 0, .int .i64 0], .int .i64 4]) (by simp [results, Tryd.results9, go_sem]) rfl ⟨rfl, HB.out⟩
theorem refParse2_all {w0 w : World} {l0 : List Ent} (h : Ctx w0 w l0) (l : List Nat) (ho : Okb l) : Calls Tryd.prog 9 #[.string (txt l)] w (ParsedPost w0 l0 (parseN l)) := by
  by_cases hl : 2000 < l.length
  · have e : parseN l = .inr 4 := by unfold parseN; rw [if_pos hl]
    rw [e]; exact refParse2_long h l hl
  · exact refParse2_any h l ho (by omega)
end Go.Proofs.YtokppjfaihkkcaaDoor
