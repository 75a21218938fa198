/- The walk of the law OrderSorts. -/
import Derived.Test.YtbaekknbnognmaaO8
namespace Go.Proofs.Ytbaekknbnognmaa
open Go.RowKit
set_option linter.unusedVariables false
set_option linter.unusedSimpArgs false

/-- Which places were met among the first. -/
def marks (S : List Nat) (k : Nat) : List Value := (List.range 60).map fun j => .bool (decide (j ∈ S.take k))
theorem marks_zero (S : List Nat) : marks S 0 = List.replicate 60 (.bool false) := by
  unfold marks
  simp only [List.take_zero, List.not_mem_nil, decide_false]
  rfl
theorem marks_len (S : List Nat) (k : Nat) : (marks S k).length = 60 := by simp [marks]
theorem marks_get (S : List Nat) (k j : Nat) (hj : j < 60) : (marks S k)[j]? = some (.bool (decide (j ∈ S.take k))) := by
  unfold marks; simp [hj]
theorem marks_set {S : List Nat} {k : Nat} (hk : k < S.length) : (marks S k).set (S.getD k 0) (.bool true) = marks S (k + 1) := by
  have hx : S.getD k 0 = S[k] := by simp [List.getD, hk]
  apply List.ext_getElem?
  intro i
  rw [List.getElem?_set, marks_len]
  by_cases hi : i < 60
  · rw [marks_get _ _ _ hi, marks_get _ _ _ hi, List.take_succ_eq_append_getElem hk]
    by_cases e : S.getD k 0 = i
    · rw [if_pos e, if_pos (by omega)]
      rw [hx] at e
      simp [e]
    · rw [if_neg e]
      rw [hx] at e
      congr 2
      simp only [List.mem_append, List.mem_singleton, decide_eq_decide]
      constructor
      · exact .inl
      · rintro (h | h)
        · exact h
        · exact absurd h.symm e
  · rw [List.getElem?_eq_none (by rw [marks_len]; omega)]
    rw [List.getElem?_eq_none (by rw [marks_len]; omega)]
    by_cases e : S.getD k 0 = i
    · rw [if_pos e, if_neg (by omega)]
    · rw [if_neg e]

/-- What holds from round to round. -/
def LS (SA SB : List Nat) (n X : Nat) (w2 : World) (i : Value) (wr : World) : Prop :=
  ∃ k : Nat, k ≤ n ∧ i = .int .i64 (k : Int) ∧ BlkV wr X 44 (marks SA k) ∧ BlkV wr (X + 1) 44 (marks SB k) ∧ Below X w2 wr
set_option maxHeartbeats 4000000 in
set_option maxRecDepth 100000 in
theorem orderSorts_main (ad : Option Addr) (n cap : Nat) (l : List ByteArray) (w : World) (hn : l.length = n) (hcap : n ≤ cap) (hm : n ≤ maxLen) (hz : ∀ s ∈ l, s.size ≤ maxLen) (hr : RdV w ad (sv l)) (hf : fewB l = true) :
    Calls Try.prog 4 #[.slice ad n cap] w (BoolBelow true w) := by
  obtain ⟨hl60, hz300⟩ := fewB_true hf
  have KF := Lib.hid (few_any ad n cap l w hn hcap hm hz hr)
  rw [hf] at KF
  have KA := Lib.hid (fun W => awake_any W)
  have KS := Lib.hid (fun W (h : Below w.heap.size w W) => sort_any ad n cap l W hn hcap (by omega) (hr.on h))
  have KC := Lib.hid (fun W (h : Below w.heap.size w W) => cbor_any ad n cap l W hn hcap (by omega) (fun s hs => by have := hz300 s hs; omega) (hr.on h))
  have HN := Lib.hid hn; have HR := Lib.hid hr; have HZ := Lib.hid hz300
  have hn60 : n ≤ 60 := by omega
  clear hn hr hz hz300 hf hm hl60
  go_enter Try.func4, Try.ntmps4
  go_wp2_with fail
  refine KF.out.mono ?_
  rintro r w0 ⟨rfl, rfl⟩
  go_wp2_with fail
  refine (KS.out _ (Below.refl _ _)).mono ?_
  rintro r w1 ⟨ga, rfl, hga, hka, hw1⟩
  have B1 := Lib.hid hw1
  have HKA := Lib.hid hka
  clear hka hw1
  go_wp2_with fail
  refine (KC.out _ B1.out).mono ?_
  rintro r w2 ⟨gb, rfl, hgb, hkb, hw2⟩
  have B2 := Lib.hid (below_on B1.out hw2)
  have HKA2 := Lib.hid (HKA.out.below hw2 HKA.out.lt)
  have HKB := Lib.hid hkb
  clear hkb hw2 HKA B1
  go_upto_region 7 with fail
  generalize hV : World.alloc w2 _ = V
  have hzV : V.heap.size = w2.heap.size + 1 := by rw [← hV]; simp
  have hbV : Below w2.heap.size w2 V := by rw [← hV]; exact (Below.refl _ _).alloc (Nat.le_refl _) _
  have hxV : BlkV V w2.heap.size 44 (marks (srt Op.bytesLess (keyB l) 0 n) 0) := by
    rw [marks_zero, ← hV]
    exact lit_blk w2 (List.replicate 60 (.bool false)) 44 _ rfl
  clear hV
  generalize hW3 : World.alloc V _ = W3
  have hb3 : Below w2.heap.size w2 W3 := by rw [← hW3]; exact hbV.alloc (by omega) _
  have hx0 : BlkV W3 w2.heap.size 44 (marks (srt Op.bytesLess (keyB l) 0 n) 0) := by
    rw [← hW3]; exact hxV.below (B := V.heap.size) ((Below.refl _ _).alloc (Nat.le_refl _) _) (by omega)
  have hy0 : BlkV W3 (w2.heap.size + 1) 44 (marks (srt shortL (keyB l) 0 n) 0) := by
    rw [marks_zero, ← hW3, ← hzV]
    exact lit_blk V (List.replicate 60 (.bool false)) 44 _ rfl
  clear hW3 hxV hbV hzV
  have HST := Lib.hid (show LS (srt Op.bytesLess (keyB l) 0 n) (srt shortL (keyB l) 0 n) n w2.heap.size w2 (.int .i64 0) W3 from ⟨0, Nat.zero_le _, rfl, hx0, hy0, hb3⟩)
  clear hx0 hy0 hb3
  have HGA := Lib.hid HKA2.out.lt
  have HGB := Lib.hid HKB.out.lt
  have HB2S := Lib.hid B2.out.size
  generalize hBX : w2.heap.size = X at *
  have HBX := Lib.hid hBX; clear hBX
  clear hga hgb
  have P1 := Lib.hid (fun i (hi : i < n) => srt_lt Op.bytesLess (keyB l) n i hi)
  have P2 := Lib.hid (fun i (hi : i < n) => srt_lt shortL (keyB l) n i hi)
  have Q1 := Lib.hid (fun i (hi : i + 1 < n) => srt_next sto_bytes (keyB l) n i hi)
  have Q2 := Lib.hid (fun i (hi : i + 1 < n) => srt_next sto_short (keyB l) n i hi)
  have R1 := Lib.hid (fun i j (hi : i < n) (hj : j < n) => srt_nodup Op.bytesLess (keyB l) n i j hi hj)
  have R2 := Lib.hid (fun i j (hi : i < n) (hj : j < n) => srt_nodup shortL (keyB l) n i j hi hj)
  have L1 := Lib.hid (srt_len Op.bytesLess (keyB l) 0 n)
  have L2 := Lib.hid (srt_len shortL (keyB l) 0 n)
  generalize srt Op.bytesLess (keyB l) 0 n = SA at *
  generalize srt shortL (keyB l) 0 n = SB at *
  go_wp2
  go_loopw [7] (fun i wr => LS SA SB n X w2 i wr) (fun i _ => n - (intOf i).toNat)
  case atStart => exact HST.out
  case round =>
    obtain ⟨k, hk, rfl, hx, hy, hbl⟩ := hrel
    have HX := Lib.hid hx; have HY := Lib.hid hy; have HBL := Lib.hid hbl
    clear hx hy hbl
    have HW := Lib.hid (B2.out.trans (HBL.out.mono HB2S.out))
    by_cases hlt : k < n
    · have h1 : (k : Int) < (n : Int) := by omega
      have h2 : (0 : Int) ≤ (k : Int) := by omega
      have ca : wr.cell? ⟨ga, k, none⟩ = some (.int .i64 ((SA.getD k 0 : Nat) : Int)) := ((HBL.out.cell (p := ⟨ga, k, none⟩) HGA.out).trans (HKA2.out.cell k)).trans (iv_get _ _ (by rw [L1.out]; exact hlt))
      have cb : wr.cell? ⟨gb, k, none⟩ = some (.int .i64 ((SB.getD k 0 : Nat) : Int)) := ((HBL.out.cell (p := ⟨gb, k, none⟩) HGB.out).trans (HKB.out.cell k)).trans (iv_get _ _ (by rw [L2.out]; exact hlt))
      have pa := P1.out k hlt
      have pb := P2.out k hlt
      have xa : wr.cell? ⟨X, SA.getD k 0, none⟩ = some (.bool false) := by
        rw [HX.out.cell, marks_get _ _ _ (by omega)]
        congr 2
        rw [decide_eq_false_iff_not, List.mem_take_iff_getElem]
        rintro ⟨j, hj, e⟩
        have := R1.out j k (by have := L1.out; omega) hlt (by rw [← e]; simp [List.getD, show j < SA.length by have := L1.out; omega])
        omega
      have xb : wr.cell? ⟨X + 1, SB.getD k 0, none⟩ = some (.bool false) := by
        rw [HY.out.cell, marks_get _ _ _ (by omega)]
        congr 2
        rw [decide_eq_false_iff_not, List.mem_take_iff_getElem]
        rintro ⟨j, hj, e⟩
        have := R2.out j k (by have := L2.out; omega) hlt (by rw [← e]; simp [List.getD, show j < SB.length by have := L2.out; omega])
        omega
      have fa := HX.out.free (SA.getD k 0)
      have fb := HY.out.free (SB.getD k 0)
      have HMX := Lib.hid (HX.out.set (SA.getD k 0) (.bool true))
      rw [marks_set (by rw [L1.out]; exact hlt)] at HMX
      have HMY := Lib.hid (HY.out.set (SB.getD k 0) (.bool true))
      rw [marks_set (by rw [L2.out]; exact hlt)] at HMY
      generalize hva : SA.getD k 0 = va at *
      generalize hvb : SB.getD k 0 = vb at *
      have HVA := Lib.hid hva; have HVB := Lib.hid hvb
      clear hva hvb
      have pa1 : ¬ (va : Int) < 0 := by omega
      have pb1 : ¬ (vb : Int) < 0 := by omega
      have pa2 : ¬ (n : Int) ≤ (va : Int) := by omega
      have pb2 : ¬ (n : Int) ≤ (vb : Int) := by omega
      have hgx : ¬ ga = X := by have := HGA.out; omega
      have hgy : ¬ gb = X := by have := HGB.out; omega
      have hgx' : ¬ ga = X + 1 := by have := HGA.out; omega
      have hgy' : ¬ gb = X + 1 := by have := HGB.out; omega
      have va60 : va < 60 := by omega
      have vb60 : vb < 60 := by omega
      go_wp2
      have HWX := Lib.hid (show BlkV (((wr.setCell ⟨X, va, none⟩ (.bool true)).setCell ⟨X + 1, vb, none⟩ (.bool true)).drew) X 44 (marks SA (k + 1)) from ((But.refl (X + 1) _).setCell vb (.bool true)).blk HMX.out (by omega))
      have HWY := Lib.hid (show BlkV (((wr.setCell ⟨X, va, none⟩ (.bool true)).setCell ⟨X + 1, vb, none⟩ (.bool true)).drew) (X + 1) 44 (marks SB (k + 1)) from by
        have h := (((But.refl X wr).setCell va (.bool true)).blk HY.out (by omega)).set vb (.bool true)
        rw [← HVB.out, marks_set (by rw [L2.out]; exact hlt), HVB.out] at h
        exact h)
      have HWB := Lib.hid (((HBL.out.setCell (p := ⟨X, va, none⟩) (Nat.le_refl _) (.bool true)).setCell (p := ⟨X + 1, vb, none⟩) (Nat.le_succ _) (.bool true)).drew)
      go_region
      generalize World.drew (World.setCell (World.setCell wr _ _) _ _) = W at HWX HWY HWB ⊢
      clear xa xb fa fb HMX HMY HX HY HBL ca cb hgx hgy hgx' hgy' va60 vb60
      have ca : W.cell? ⟨ga, k, none⟩ = some (.int .i64 (va : Int)) := by rw [← HVA.out]; exact ((HWB.out.cell (p := ⟨ga, k, none⟩) HGA.out).trans (HKA2.out.cell k)).trans (iv_get _ _ (by rw [L1.out]; exact hlt))
      have cb : W.cell? ⟨gb, k, none⟩ = some (.int .i64 (vb : Int)) := by rw [← HVB.out]; exact ((HWB.out.cell (p := ⟨gb, k, none⟩) HGB.out).trans (HKB.out.cell k)).trans (iv_get _ _ (by rw [L2.out]; exact hlt))
      by_cases hk0 : k = 0
      · have hk0' : ((k : Int) == 0) = true := by simp [hk0]
        clear hk0
        go_wp2
        go_roundw
        case rel => exact ⟨k + 1, by omega, by go_num, HWX.out, HWY.out, HWB.out⟩
        case measure => simp [intOf]; omega
      · have hk0' : ((k : Int) == 0) = false := by simp [hk0]
        obtain ⟨j, hj⟩ : ∃ j, k = j + 1 := ⟨k - 1, by omega⟩
        have hj1 : ((k : Int) - 1).toNat = j := by omega
        have hj2 : (0 : Int) ≤ (k : Int) - 1 := by omega
        have hj3 : (k : Int) - 1 < (n : Int) := by omega
        have hj4 : (1 : Int) ≤ (k : Int) := by omega
        have ca' : W.cell? ⟨ga, j, none⟩ = some (.int .i64 ((SA.getD j 0 : Nat) : Int)) := ((HWB.out.cell (p := ⟨ga, j, none⟩) HGA.out).trans (HKA2.out.cell j)).trans (iv_get _ _ (by rw [L1.out]; omega))
        have cb' : W.cell? ⟨gb, j, none⟩ = some (.int .i64 ((SB.getD j 0 : Nat) : Int)) := ((HWB.out.cell (p := ⟨gb, j, none⟩) HGB.out).trans (HKB.out.cell j)).trans (iv_get _ _ (by rw [L2.out]; omega))
        have ua := P1.out j (by omega)
        have ub := P2.out j (by omega)
        have q1 := Q1.out j (by omega)
        have q2 := Q2.out j (by omega)
        rw [← hj, HVA.out] at q1
        rw [← hj, HVB.out] at q2
        generalize SA.getD j 0 = wa at *
        generalize SB.getD j 0 = wb at *
        have HRW := HR.out.below (w' := W) (B := w.heap.size) (B2.out.trans (HWB.out.mono HB2S.out)) (fun a e hp => HR.out.lt a e hp)
        obtain ⟨b, o, rfl, _, sp⟩ := HRW wa (by rw [sv_len, HN.out]; exact ua)
        have sq := HRW.at va (by rw [sv_len, HN.out]; exact pa)
        have sr := HRW.at wb (by rw [sv_len, HN.out]; exact ub)
        have ss := HRW.at vb (by rw [sv_len, HN.out]; exact pb)
        rw [sv_get _ _ (by rw [HN.out]; assumption)] at sp sq sr ss
        have zr := HZ.out (l.getD wb ByteArray.empty) (by simp [List.getD, HN.out, ub])
        have zs := HZ.out (l.getD vb ByteArray.empty) (by simp [List.getD, HN.out, pb])
        rw [← keyB_def, ← keyB_def] at q1 q2
        generalize l.getD wa ByteArray.empty = tp at *
        generalize l.getD va ByteArray.empty = tq at *
        generalize l.getD wb ByteArray.empty = tr at *
        generalize l.getD vb ByteArray.empty = ts at *
        clear hj HRW HW
        have ua0 : (0 : Int) ≤ (wa : Int) := by omega
        have ub0 : (0 : Int) ≤ (wb : Int) := by omega
        have va0 : (0 : Int) ≤ (va : Int) := by omega
        have vb0 : (0 : Int) ≤ (vb : Int) := by omega
        have ua1 : (wa : Int) < (n : Int) := by omega
        have ub1 : (wb : Int) < (n : Int) := by omega
        have va1 : (va : Int) < (n : Int) := by omega
        have vb1 : (vb : Int) < (n : Int) := by omega
        obtain ⟨q1a, q1b⟩ := q1
        obtain ⟨q2a, q2b⟩ := q2
        by_cases hp : tp.toList = tq.toList
        · have g1 : Op.bytesLess tp.toList tq.toList = false := by rw [hp]; exact bytesLess_irr _
          have g2 : (tp.toList == tq.toList) = true := by rw [beq_iff_eq]; exact hp
          have g0 : decide ((va : Int) < (wa : Int)) = false := by have := q1b hp; rw [decide_eq_false_iff_not]; omega
          have g0n : decide (va < wa) = false := by have := q1b hp; rw [decide_eq_false_iff_not]; omega
          clear q1a q1b hp
          rcases Nat.lt_trichotomy tr.size ts.size with hs | hs | hs
          · have g3 : decide ((ts.size : Int) < (tr.size : Int)) = false := by rw [decide_eq_false_iff_not]; omega
            have g3n : decide (ts.size < tr.size) = false := by rw [decide_eq_false_iff_not]; omega
            have g4 : ((tr.size : Int) == (ts.size : Int)) = false := by rw [beq_eq_false_iff_ne]; omega
            have g4n : (tr.size == ts.size) = false := by rw [beq_eq_false_iff_ne]; omega
            have g5 : (tr.toList == ts.toList) = false := by
              rw [beq_eq_false_iff_ne]; intro e
              have := congrArg List.length e
              rw [toList_len, toList_len] at this; omega
            clear q2a q2b hs
            go_wp2
            go_quiet (fail)
            go_wp2
            go_quiet (fail)
            go_wp2
            have w1 : IntKind.i64.wrap ((k : Int) - 1) = (k : Int) - 1 := IntWalk.i64_in _ (by omega)
            go_quiet (fail)
            go_wp2
            go_roundw
            case rel => exact ⟨k + 1, by omega, by go_num, HWX.out, HWY.out, below_drewN HWB.out _⟩
            case measure => simp [intOf]; omega
          · have g3 : decide ((ts.size : Int) < (tr.size : Int)) = false := by rw [decide_eq_false_iff_not]; omega
            have g3n : decide (ts.size < tr.size) = false := by rw [decide_eq_false_iff_not]; omega
            have g4 : ((tr.size : Int) == (ts.size : Int)) = true := by rw [beq_iff_eq]; omega
            have g4n : (tr.size == ts.size) = true := by rw [beq_iff_eq]; omega
            have q2c : Op.bytesLess ts.toList tr.toList = false := by
              cases hh : Op.bytesLess ts.toList tr.toList
              · rfl
              · have : shortL ts.toList tr.toList = true := by
                  rw [shortL_iff, toList_len, toList_len]; exact .inr ⟨hs.symm, hh⟩
                rw [q2a] at this; cases this
            by_cases he : tr.toList = ts.toList
            · have g5 : (tr.toList == ts.toList) = true := by rw [beq_iff_eq]; exact he
              have g6 : Op.bytesLess tr.toList ts.toList = false := by rw [he]; exact bytesLess_irr _
              have g7 : decide ((vb : Int) < (wb : Int)) = false := by have := q2b he; rw [decide_eq_false_iff_not]; omega
              have g7n : decide (vb < wb) = false := by have := q2b he; rw [decide_eq_false_iff_not]; omega
              clear q2a q2b hs he q2c
              go_wp2
              go_quiet (fail)
              go_wp2
              go_quiet (fail)
              go_wp2
              have w1 : IntKind.i64.wrap ((k : Int) - 1) = (k : Int) - 1 := IntWalk.i64_in _ (by omega)
              go_quiet (fail)
              go_wp2
              go_roundw
              case rel => exact ⟨k + 1, by omega, by go_num, HWX.out, HWY.out, below_drewN HWB.out _⟩
              case measure => simp [intOf]; omega
            · have g5 : (tr.toList == ts.toList) = false := by rw [beq_eq_false_iff_ne]; exact he
              have g6 : Op.bytesLess tr.toList ts.toList = true := by
                rcases bytesLess_tot tr.toList ts.toList with h | h | h
                · exact h
                · exact absurd h he
                · rw [q2c] at h; cases h
              clear q2a q2b hs he q2c
              go_wp2
              go_quiet (fail)
              go_wp2
              go_quiet (fail)
              go_wp2
              have w1 : IntKind.i64.wrap ((k : Int) - 1) = (k : Int) - 1 := IntWalk.i64_in _ (by omega)
              go_quiet (fail)
              go_wp2
              go_roundw
              case rel => exact ⟨k + 1, by omega, by go_num, HWX.out, HWY.out, below_drewN HWB.out _⟩
              case measure => simp [intOf]; omega
          · exfalso
            have : shortL ts.toList tr.toList = true := by
              rw [shortL_iff, toList_len, toList_len]; exact .inl hs
            rw [q2a] at this; cases this
        · have g1 : Op.bytesLess tp.toList tq.toList = true := by
            rcases bytesLess_tot tp.toList tq.toList with h | h | h
            · exact h
            · exact absurd h hp
            · rw [q1a] at h; cases h
          have g2 : (tp.toList == tq.toList) = false := by rw [beq_eq_false_iff_ne]; exact hp
          clear q1a q1b hp
          rcases Nat.lt_trichotomy tr.size ts.size with hs | hs | hs
          · have g3 : decide ((ts.size : Int) < (tr.size : Int)) = false := by rw [decide_eq_false_iff_not]; omega
            have g3n : decide (ts.size < tr.size) = false := by rw [decide_eq_false_iff_not]; omega
            have g4 : ((tr.size : Int) == (ts.size : Int)) = false := by rw [beq_eq_false_iff_ne]; omega
            have g4n : (tr.size == ts.size) = false := by rw [beq_eq_false_iff_ne]; omega
            have g5 : (tr.toList == ts.toList) = false := by
              rw [beq_eq_false_iff_ne]; intro e
              have := congrArg List.length e
              rw [toList_len, toList_len] at this; omega
            clear q2a q2b hs
            go_wp2
            go_quiet (fail)
            go_wp2
            go_quiet (fail)
            go_wp2
            have w1 : IntKind.i64.wrap ((k : Int) - 1) = (k : Int) - 1 := IntWalk.i64_in _ (by omega)
            go_quiet (fail)
            go_wp2
            go_roundw
            case rel => exact ⟨k + 1, by omega, by go_num, HWX.out, HWY.out, below_drewN HWB.out _⟩
            case measure => simp [intOf]; omega
          · have g3 : decide ((ts.size : Int) < (tr.size : Int)) = false := by rw [decide_eq_false_iff_not]; omega
            have g3n : decide (ts.size < tr.size) = false := by rw [decide_eq_false_iff_not]; omega
            have g4 : ((tr.size : Int) == (ts.size : Int)) = true := by rw [beq_iff_eq]; omega
            have g4n : (tr.size == ts.size) = true := by rw [beq_iff_eq]; omega
            have q2c : Op.bytesLess ts.toList tr.toList = false := by
              cases hh : Op.bytesLess ts.toList tr.toList
              · rfl
              · have : shortL ts.toList tr.toList = true := by
                  rw [shortL_iff, toList_len, toList_len]; exact .inr ⟨hs.symm, hh⟩
                rw [q2a] at this; cases this
            by_cases he : tr.toList = ts.toList
            · have g5 : (tr.toList == ts.toList) = true := by rw [beq_iff_eq]; exact he
              have g6 : Op.bytesLess tr.toList ts.toList = false := by rw [he]; exact bytesLess_irr _
              have g7 : decide ((vb : Int) < (wb : Int)) = false := by have := q2b he; rw [decide_eq_false_iff_not]; omega
              have g7n : decide (vb < wb) = false := by have := q2b he; rw [decide_eq_false_iff_not]; omega
              clear q2a q2b hs he q2c
              go_wp2
              go_quiet (fail)
              go_wp2
              go_quiet (fail)
              go_wp2
              have w1 : IntKind.i64.wrap ((k : Int) - 1) = (k : Int) - 1 := IntWalk.i64_in _ (by omega)
              go_quiet (fail)
              go_wp2
              go_roundw
              case rel => exact ⟨k + 1, by omega, by go_num, HWX.out, HWY.out, below_drewN HWB.out _⟩
              case measure => simp [intOf]; omega
            · have g5 : (tr.toList == ts.toList) = false := by rw [beq_eq_false_iff_ne]; exact he
              have g6 : Op.bytesLess tr.toList ts.toList = true := by
                rcases bytesLess_tot tr.toList ts.toList with h | h | h
                · exact h
                · exact absurd h he
                · rw [q2c] at h; cases h
              clear q2a q2b hs he q2c
              go_wp2
              go_quiet (fail)
              go_wp2
              go_quiet (fail)
              go_wp2
              have w1 : IntKind.i64.wrap ((k : Int) - 1) = (k : Int) - 1 := IntWalk.i64_in _ (by omega)
              go_quiet (fail)
              go_wp2
              go_roundw
              case rel => exact ⟨k + 1, by omega, by go_num, HWX.out, HWY.out, below_drewN HWB.out _⟩
              case measure => simp [intOf]; omega
          · exfalso
            have : shortL ts.toList tr.toList = true := by
              rw [shortL_iff, toList_len, toList_len]; exact .inl hs
            rw [q2a] at this; cases this
    · obtain rfl : k = n := by omega
      have h1 : ¬ (k : Int) < (k : Int) := by omega
      have KAW := Lib.hid (KA.out wr)
      go_wp2_with fail
      refine KAW.out.mono ?_
      rintro r w9 ⟨rfl, hb9⟩
      have B9 := Lib.hid (below_on HW.out hb9)
      clear hb9
      go_wp2
      go_ret
      exact BoolBelow.mk rfl B9.out

set_option maxHeartbeats 4000000 in
set_option maxRecDepth 100000 in
theorem orderSorts_walk (ad : Option Addr) (n cap : Nat) (l : List ByteArray) (w : World) (hn : l.length = n) (hcap : n ≤ cap) (hm : n ≤ maxLen) (hz : ∀ s ∈ l, s.size ≤ maxLen) (hr : RdV w ad (sv l)) :
    Calls Try.prog 4 #[.slice ad n cap] w (BoolBelow true w) := by
  cases hf : fewB l
  · have KF := Lib.hid (few_any ad n cap l w hn hcap hm hz hr)
    rw [hf] at KF
    have KA := Lib.hid (awake_any w)
    unfold maxLen at hm
    clear hn hr hz hf
    go_enter Try.func4, Try.ntmps4
    go_wp2_with fail
    refine KF.out.mono ?_
    rintro r w0 ⟨rfl, rfl⟩
    go_wp2_with fail
    refine KA.out.mono ?_
    rintro r w9 ⟨rfl, hb9⟩
    have B9 := Lib.hid hb9
    clear hb9
    go_wp2
    go_ret
    exact BoolBelow.mk rfl B9.out
  · exact orderSorts_main ad n cap l w hn hcap hm hz hr hf
end Go.Proofs.Ytbaekknbnognmaa
