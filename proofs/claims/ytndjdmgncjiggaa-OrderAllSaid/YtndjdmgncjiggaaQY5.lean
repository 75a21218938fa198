/- The reference's places in an order. -/
import Derived.Test.YtndjdmgncjiggaaQm
import Derived.Test.YtndjdmgncjiggaaQo
import Derived.Test.YtndjdmgncjiggaaQp
import Derived.Deep.CutRange
import Derived.Deep.DeepCutAuto
namespace Go.Proofs.Ytndjdmgncjiggaa
open Go.RowKit Go.Shelf Go.Sort
set_option linter.unusedVariables false
set_option linter.unusedSimpArgs false
theorem shortS_any (a b : ByteArray) (w : World) (ha : a.size ≤ 1000000000) (hb : b.size ≤ 1000000000) :
    Calls Try.prog 34 #[.string a, .string b] w fun e w' => e = .returned (.bool (shortL a.toList b.toList)) ∧ w' = w := by
  have hs : shortL a.toList b.toList = (decide (a.size < b.size) || (decide (a.size = b.size) && Op.bytesLess a.toList b.toList)) := by
    unfold shortL; rw [toList_len, toList_len]
  rw [hs]
  clear hs
  generalize hr : Op.bytesLess a.toList b.toList = r
  by_cases he : a.size = b.size
  · have h1 : ((a.size : Int) == (b.size : Int)) = true := by simp [he]
    have h2 : (decide (a.size < b.size) || (decide (a.size = b.size) && r)) = r := by simp [he]
    have h3 : ¬ a.size < b.size := by omega
    rw [h2]
    clear h2 he
    go_enter Try.func34, Try.ntmps34
    go_wp2
    go_ret
    exact ⟨rfl, rfl⟩
  · have h1 : ((a.size : Int) == (b.size : Int)) = false := by rw [beq_eq_false_iff_ne]; omega
    have h2 : (decide (a.size < b.size) || (decide (a.size = b.size) && r)) = decide (a.size < b.size) := by simp [he]
    rw [h2]
    clear h2 hr
    by_cases h3 : a.size < b.size
    · go_enter Try.func34, Try.ntmps34
      go_wp2
      go_ret
      exact ⟨by simp [h3], rfl⟩
    · go_enter Try.func34, Try.ntmps34
      go_wp2
      go_ret
      exact ⟨by simp [h3], rfl⟩
theorem shortS_ht {X Y : ByteArray} {r : Bool} (h : shortL X.toList Y.toList = r) (ha : X.size ≤ 1000000000) (hb : Y.size ≤ 1000000000) (w : World) :
    Calls Try.prog 34 #[.string X, .string Y] w fun e w' => e = .returned (.bool r) ∧ w' = w := by
  have := shortS_any X Y w ha hb
  rw [h] at this; exact this
theorem getD_memB {l : List ByteArray} {i : Nat} (h : i < l.length) : l.getD i ByteArray.empty ∈ l := by simp [List.getD, h]
theorem own_base {w : World} {B B' : Nat} {e : TypeId} {size : Nat} {v : Value} {n : Nat} {xs : List Value} (h : w.ownsRow B e size v n xs) (hB : B' ≤ B) : w.ownsRow B' e size v n xs := by
  refine ⟨h.1, ?_⟩
  rcases h.2 with h2 | ⟨g, cap, cur, rfl, hg, rest⟩
  · exact .inl h2
  · exact .inr ⟨g, cap, cur, rfl, by omega, rest⟩
theorem own_shape {w : World} {B : Nat} {e : TypeId} {v : Value} {n : Nat} {xs : List Value} (h : w.ownsRow B e 1 v n xs) (hn : 0 < n) : ∃ g cap, v = .slice (some ⟨g, 0, none⟩) n cap ∧ n ≤ cap ∧ RdV w (some ⟨g, 0, none⟩) xs ∧ B ≤ g ∧ g < w.heap.size := by
  obtain ⟨ad, cap, rfl, hc, hr, hl, hb, _⟩ := own_viewN h
  rcases h.2 with ⟨e, h0⟩ | ⟨g, cap', cur, e, _⟩
  · omega
  · cases e
    exact ⟨g, cap, rfl, hc, hr, (hb _ rfl).1, (hb _ rfl).2⟩
theorem iv_one (l : List Nat) : ∀ u ∈ l.map iv, u.oneCell' = true := by
  intro u hu; simp only [List.mem_map] at hu; obtain ⟨x, _, rfl⟩ := hu; rfl
theorem srt_at (lt : List UInt8 → List UInt8 → Bool) (key : Nat → List UInt8) (n i : Nat) (hi : i < n) : ((srt lt key 0 n).map iv)[i]? = some (.int .i64 (((srt lt key 0 n).getD i 0 : Nat) : Int)) := iv_get _ _ (by rw [srt_len]; exact hi)
theorem rdv_from {w : World} {a : Option Addr} {vs : List Value} {n c j : Nat} (h : RdV w a vs) (hl : vs.length = n) (hj : j ≤ n) (hc : n ≤ c) : RdV w (if c = j then a else Option.map (fun x => x.add j) a) (vs.drop j) := by
  rcases Nat.eq_zero_or_pos (n - j) with h0 | h0
  · rw [List.drop_of_length_le (by omega)]; exact RdV.nil _ _
  · rw [if_neg (by omega)]
    obtain ⟨b, o, rfl, _⟩ := h.shape (by omega)
    have hadd : (⟨b, o, none⟩ : Addr).add j = ⟨b, o + j, none⟩ := by unfold Addr.add; split <;> simp_all
    simp only [Option.map_some, hadd]
    exact h.drop j
/-- What the reference's places are. -/
def PlaceP (lt : List UInt8 → List UInt8 → Bool) (key : Nat → List UInt8) (n : Nat) (w : World) (e : Ending) (w' : World) : Prop :=
  ∃ ad cap, e = .returned (.slice ad n cap) ∧ n ≤ cap ∧ RdV w' ad ((srt lt key 0 n).map iv) ∧ (∀ a, ad = some a → w.heap.size ≤ a.block) ∧ Below w.heap.size w w'
/-- The outer loop. -/
def PO (lt : List UInt8 → List UInt8 → Bool) (key : Nat → List UInt8) (n : Nat) (w : World) (g : Nat) (v iV : Value) (wr : World) : Prop :=
  ∃ i : Nat, i ≤ n ∧ n - i ≤ g ∧ iV = .int .i64 (i : Int) ∧ wr.ownsRow w.heap.size 3 1 v i ((srt lt key 0 i).map iv) ∧ Below w.heap.size w wr
/-- The inner one. -/
def PI (lt : List UInt8 → List UInt8 → Bool) (key : Nat → List UInt8) (i : Nat) (w : World) (g : Nat) (kV : Value) (wr : World) : Prop :=
  ∃ k : Nat, k ≤ i ∧ k ≤ g ∧ kV = .int .i64 (k : Int) ∧ (∀ x ∈ (srt lt key 0 i).drop k, lt (key i) (key x) = true) ∧ Below w.heap.size w wr
theorem PI.step {lt : List UInt8 → List UInt8 → Bool} {key : Nat → List UInt8} {i k g : Nat} {w wr W : World} (hk : k + 1 ≤ i) (hg : k + 1 ≤ g + 1) (hd : ∀ x ∈ (srt lt key 0 i).drop (k + 1), lt (key i) (key x) = true) (hb : Below w.heap.size w wr) (ht : lt (key i) (key ((srt lt key 0 i).getD k 0)) = true) (h : Below wr.heap.size wr W) : PI lt key i w g (.int .i64 (k : Int)) W := by
  refine ⟨k, by omega, by omega, rfl, fun x hx => ?_, hb.trans (h.mono hb.size)⟩
  have hkl : k < (srt lt key 0 i).length := by rw [srt_len]; omega
  rw [List.drop_eq_getElem_cons hkl] at hx
  rcases List.mem_cons.1 hx with rfl | hx
  · rwa [show (srt lt key 0 i).getD k 0 = (srt lt key 0 i)[k] by simp [List.getD, hkl]] at ht
  · exact hd x hx

set_option maxHeartbeats 8000000 in
set_option maxRecDepth 100000 in
theorem place_less (ad : Option Addr) (n cap : Nat) (l : List ByteArray) (w : World) (hn : l.length = n) (hm : n ≤ 1000000) (hr : RdV w ad (sv l)) :
    Calls Try.prog 27 #[.slice ad n cap, .bool false] w (PlaceP Op.bytesLess (keyB l) n w) := by
  have HR := Lib.hid (fun W (h : Below w.heap.size w W) => hr.on h)
  have HN := Lib.hid hn
  have HS0 := Lib.hid (show PO Op.bytesLess (keyB l) n w n (.slice none 0 0) (.int .i64 0) w from ⟨0, Nat.zero_le _, by omega, rfl, by rw [srt_zero]; exact World.ownsRow_nil _ _ _ _, Below.refl _ _⟩)
  have HEND := Lib.hid (fun (v : Value) (W : World) (ho : W.ownsRow w.heap.size 3 1 v n ((srt Op.bytesLess (keyB l) 0 n).map iv)) (hb : Below w.heap.size w W) => show PlaceP Op.bytesLess (keyB l) n w (.returned v) W from by
    obtain ⟨a, c, rfl, hc, hrd, _, hab, _⟩ := own_viewN ho
    exact ⟨a, c, rfl, hc, hrd, fun x hx => (hab x hx).1, hb⟩)
  clear hr hn
  generalize hTP : PlaceP Op.bytesLess (keyB l) n w = TP at *
  go_enter Try.func27, Try.ntmps27
  go_wp2_with fail
  clear hTP
  go_loopg [5, 6] n (fun g v i wr => PO Op.bytesLess (keyB l) n w g v i wr)
  case atStart => exact HS0.out
  case round =>
    obtain ⟨i, hin, hig, rfl, ho, hb⟩ := hrel
    obtain ⟨wo, hwo⟩ : ∃ x, x = wr := ⟨_, rfl⟩
    subst hwo
    have HO := Lib.hid ho; have HB := Lib.hid hb
    clear ho hb
    by_cases hlt : i < n
    · obtain ⟨g, rfl⟩ : ∃ k, gk = k + 1 := ⟨gk - 1, by omega⟩
      have hjz : (i : Int) < (n : Int) := by omega
      have hi0 : (0 : Int) ≤ (i : Int) := by omega
      obtain ⟨lad, lc, hv, hlc, hlr, _, _, hlz⟩ := own_viewN HO.out
      subst hv
      have HLR := Lib.hid hlr
      clear hlr
      go_wp2_with fail
      go_loopg [7] i (fun g kv W => PI Op.bytesLess (keyB l) i wo g kv W)
      case atStart => exact ⟨i, Nat.le_refl _, Nat.le_refl _, rfl, (fun x hx => by rw [List.drop_of_length_le (by rw [srt_len]; exact Nat.le_refl _)] at hx; cases hx), Below.refl _ _⟩
      case round =>
        obtain ⟨k, hki, hkg, rfl, hd, hbq⟩ := hrel
        have HD := Lib.hid hd; have HBQ := Lib.hid hbq
        clear hd hbq
        have HEX := Lib.hid (fun (W : World) (v : Value) (h1 : ∀ y, 0 < k → (srt Op.bytesLess (keyB l) 0 i)[k - 1]? = some y → Op.bytesLess (keyB l i) (keyB l y) = false) (hb : Below wo.heap.size wo W) (ho : W.ownsRow w.heap.size 3 1 v (k + 1 + (i - k)) (((srt Op.bytesLess (keyB l) 0 i).take k).map iv ++ [.int .i64 (i : Int)] ++ ((srt Op.bytesLess (keyB l) 0 i).drop k).map iv)) => show PO Op.bytesLess (keyB l) n w g v (.int .i64 ((i : Int) + 1)) W from by
          refine ⟨i + 1, by omega, by omega, rfl, ?_, HB.out.trans (hb.mono HB.out.size)⟩
          rw [← srt_insert sto_bytes (keyB l) i k hki HD.out h1]
          rw [show i + 1 = k + 1 + (i - k) by omega]
          simpa [iv] using ho)
        have HFIN := Lib.hid (show True from trivial)
        by_cases hk0 : 0 < k
        · obtain ⟨k, rfl⟩ : ∃ j, k = j + 1 := ⟨k - 1, by omega⟩
          obtain ⟨g2, rfl⟩ : ∃ j, gk = j + 1 := ⟨gk - 1, by omega⟩
          have hkz : (0 : Int) < (k : Int) + 1 := by omega
          have hkz2 : (k : Int) < (i : Int) := by omega
          have hkz3 : (0 : Int) ≤ (k : Int) := by omega
          have hS := srt_lt Op.bytesLess (keyB l) i k (by omega)
          have hlq := HLR.out.on HBQ.out
          obtain ⟨lb, lo, rfl, _, hc1⟩ := hlq k (by rw [List.length_map, srt_len]; omega)
          rw [srt_at _ _ _ _ (by omega)] at hc1
          have hnq := HR.out wr (HB.out.trans (HBQ.out.mono HB.out.size))
          obtain ⟨nb, no, rfl, _, hc2⟩ := hnq i (by rw [sv_len, HN.out]; exact hlt)
          have hc3 := hnq.at ((srt Op.bytesLess (keyB l) 0 i).getD k 0) (by rw [sv_len, HN.out]; omega)
          rw [sv_get _ _ (by rw [HN.out]; exact hlt)] at hc2
          rw [sv_get _ _ (by rw [HN.out]; omega)] at hc3
          have hkey : Op.bytesLess (keyB l i) (keyB l ((srt Op.bytesLess (keyB l) 0 i).getD k 0)) = Op.bytesLess (l.getD i ByteArray.empty).toList (l.getD ((srt Op.bytesLess (keyB l) 0 i).getD k 0) ByteArray.empty).toList := rfl
          have hSn : (((srt Op.bytesLess (keyB l) 0 i).getD k 0 : Nat) : Int) < (n : Int) := by omega
          have hS0 : (0 : Int) ≤ (((srt Op.bytesLess (keyB l) 0 i).getD k 0 : Nat) : Int) := by omega
          have hki2 : k < i := by omega
          have hZn0 : (srt Op.bytesLess (keyB l) 0 i).getD k 0 < n := by omega
          have PSTEP := Lib.hid (fun W ht h => PI.step (W := W) (g := g2) (by omega) hkg HD.out HBQ.out ht h)
          have HGET := Lib.hid (show (srt Op.bytesLess (keyB l) 0 i)[k + 1 - 1]? = some ((srt Op.bytesLess (keyB l) 0 i).getD k 0) by
            have : k < (srt Op.bytesLess (keyB l) 0 i).length := by rw [srt_len]; omega
            simp [List.getD, this])
          have hnb : nb < wr.heap.size := hnq.lt _ rfl (by rw [sv_len, HN.out]; omega)
          have hlb : lb < wr.heap.size := hlq.lt _ rfl (by rw [List.length_map, srt_len]; omega)
          have HZ0 := 0
          generalize hX : l.getD i ByteArray.empty = X at *
          generalize hY : l.getD ((srt Op.bytesLess (keyB l) 0 i).getD k 0) ByteArray.empty = Y at *
          generalize hZZ : (srt Op.bytesLess (keyB l) 0 i).getD k 0 = Z at *
          have hZn : Z < n := hZn0
          have HKEY := Lib.hid hkey
          have HNW := Lib.hid (show (1 : Nat) = 1 from rfl)
          clear hX hY hZZ hlq hnq hkey hZn0 hS hSn hS0
          go_wp2_with fail
          by_cases ht : Op.bytesLess X.toList Y.toList = true
          · have HN2 := Lib.hid (fun W (h : Below wr.heap.size wr W) => PSTEP.out W (by rw [HKEY.out]; exact ht) h)
            refine rg_norm (fun J hJ => ?_)
            have HJ := Lib.hid hJ
            clear hJ
            refine wp_region_held_drew (S := fun W => Below wr.heap.size wr W) (by kernel_rfl) (below_drew (Below.refl _ _)) (fun hH => ?_)
            refine rg_pure 0 _ (.int .i64 ((k : Int) + 1)) (some 17) rfl (by kernel_rfl) (by kernel_rfl) (by kernel_rfl) (by kernel_rfl) (fun _ _ _ h => h) (by kernel_rfl) (fun w => by kernel_rfl) hH ?_
            refine rg_pure 1 _ (.bool true) (some 18) rfl (by kernel_rfl) (by kernel_rfl) (by kernel_rfl) (by kernel_rfl) (fun _ _ _ h => h) (by kernel_rfl) (fun w => rd_gtr w _ _ _ _ _ _ ((k : Int) + 1) 0 true rfl (by kernel_rfl) (by kernel_rfl) (decide_eq_true (by omega))) hH ?_
            refine rg_pure 2 _ (.bool true) (some 19) rfl (by kernel_rfl) (by kernel_rfl) (by kernel_rfl) (by kernel_rfl) (fun _ _ _ h => h) (by kernel_rfl) (fun w => by kernel_rfl) hH ?_
            refine rg_pure 3 _ (.bool false) (some 20) rfl (by kernel_rfl) (by kernel_rfl) (by kernel_rfl) (by kernel_rfl) (fun _ _ _ h => h) (by kernel_rfl) (fun w => by kernel_rfl) hH ?_
            refine rg_pure 4 _ (.bool false) (some 21) rfl (by kernel_rfl) (by kernel_rfl) (by kernel_rfl) (by kernel_rfl) (fun _ _ _ h => h) (by kernel_rfl) (fun w => by kernel_rfl) hH ?_
            refine rg_skip 5 _ (some 22) rfl (by kernel_rfl) (by kernel_rfl) (by kernel_rfl) (by kernel_rfl) (fun _ _ _ h => h) (by kernel_rfl) hH ?_
            refine rg_skip 6 _ (some 23) rfl (by kernel_rfl) (by kernel_rfl) (by kernel_rfl) (by kernel_rfl) (fun _ _ _ h => h) (by kernel_rfl) hH ?_
            refine rg_skip 7 _ (some 24) rfl (by kernel_rfl) (by kernel_rfl) (by kernel_rfl) (by kernel_rfl) (fun _ _ _ h => h) (by kernel_rfl) hH ?_
            refine rg_skip 8 _ (some 25) rfl (by kernel_rfl) (by kernel_rfl) (by kernel_rfl) (by kernel_rfl) (fun _ _ _ h => h) (by kernel_rfl) hH ?_
            refine rg_skip 9 _ (some 26) rfl (by kernel_rfl) (by kernel_rfl) (by kernel_rfl) (by kernel_rfl) (fun _ _ _ h => h) (by kernel_rfl) hH ?_
            refine rg_skip 10 _ (some 27) rfl (by kernel_rfl) (by kernel_rfl) (by kernel_rfl) (by kernel_rfl) (fun _ _ _ h => h) (by kernel_rfl) hH ?_
            refine rg_skip 11 _ (some 28) rfl (by kernel_rfl) (by kernel_rfl) (by kernel_rfl) (by kernel_rfl) (fun _ _ _ h => h) (by kernel_rfl) hH ?_
            refine rg_skip 12 _ (some 29) rfl (by kernel_rfl) (by kernel_rfl) (by kernel_rfl) (by kernel_rfl) (fun _ _ _ h => h) (by kernel_rfl) hH ?_
            refine rg_skip 13 _ (some 30) rfl (by kernel_rfl) (by kernel_rfl) (by kernel_rfl) (by kernel_rfl) (fun _ _ _ h => h) (by kernel_rfl) hH ?_
            refine rg_skip 14 _ (some 31) rfl (by kernel_rfl) (by kernel_rfl) (by kernel_rfl) (by kernel_rfl) (fun _ _ _ h => h) (by kernel_rfl) hH ?_
            refine rg_skip 15 _ (some 32) rfl (by kernel_rfl) (by kernel_rfl) (by kernel_rfl) (by kernel_rfl) (fun _ _ _ h => h) (by kernel_rfl) hH ?_
            refine rg_skip 16 _ (some 33) rfl (by kernel_rfl) (by kernel_rfl) (by kernel_rfl) (by kernel_rfl) (fun _ _ _ h => h) (by kernel_rfl) hH ?_
            refine rg_skip 17 _ (some 34) rfl (by kernel_rfl) (by kernel_rfl) (by kernel_rfl) (by kernel_rfl) (fun _ _ _ h => h) (by kernel_rfl) hH ?_
            refine rg_pure 18 _ (.bool false) (some 35) rfl (by kernel_rfl) (by kernel_rfl) (by kernel_rfl) (by kernel_rfl) (fun _ _ _ h => h) (by kernel_rfl) (fun w => by kernel_rfl) hH ?_
            refine rg_pure 19 _ (.bool false) (some 36) rfl (by kernel_rfl) (by kernel_rfl) (by kernel_rfl) (by kernel_rfl) (fun _ _ _ h => h) (by kernel_rfl) (fun w => by kernel_rfl) hH ?_
            refine rg_pure 20 _ (.bool false) (some 37) rfl (by kernel_rfl) (by kernel_rfl) (by kernel_rfl) (by kernel_rfl) (fun _ _ _ h => h) (by kernel_rfl) (fun w => by kernel_rfl) hH ?_
            refine rg_pure 21 _ (.bool true) (some 38) rfl (by kernel_rfl) (by kernel_rfl) (by kernel_rfl) (by kernel_rfl) (fun _ _ _ h => h) (by kernel_rfl) (fun w => by kernel_rfl) hH ?_
            refine rg_pure 22 _ (.bool true) (some 39) rfl (by kernel_rfl) (by kernel_rfl) (by kernel_rfl) (by kernel_rfl) (fun _ _ _ h => h) (by kernel_rfl) (fun w => by kernel_rfl) hH ?_
            refine rg_pure 23 _ (.slice (some ⟨nb, no, none⟩) n cap) (some 40) rfl (by kernel_rfl) (by kernel_rfl) (by kernel_rfl) (by kernel_rfl) (fun _ _ _ h => h) (by kernel_rfl) (fun w => by kernel_rfl) hH ?_
            refine rg_pure 24 _ (.int .i64 (i : Int)) (some 41) rfl (by kernel_rfl) (by kernel_rfl) (by kernel_rfl) (by kernel_rfl) (fun _ _ _ h => h) (by kernel_rfl) (fun w => by kernel_rfl) hH ?_
            refine rg_pure 25 _ (.pointer (some ⟨nb, no + i, none⟩)) (some 42) rfl (by kernel_rfl) (by kernel_rfl) (by kernel_rfl) (by kernel_rfl) (fun _ _ _ h => h) (by kernel_rfl) (fun w => rl_idx w _ _ _ _ _ 9 nb no n cap i i 1 rfl (by kernel_rfl) (by kernel_rfl) Try.underlying22 (by kernel_rfl) hlt (Nat.mul_one _)) hH ?_
            refine rg_load1 26 _ 9 (.tmp 42) ⟨nb, no + i, none⟩ (.string X) _ (some 43) rfl (by kernel_rfl) (by kernel_rfl) (by kernel_rfl) (by kernel_rfl) (fun _ _ _ h => h) (by kernel_rfl) rfl (by kernel_rfl) Try.underlying9 rfl (fun W hW => (hW.cell (p := ⟨nb, no + i, none⟩) hnb).trans hc2) hH ?_
            refine rg_pure 27 _ (.slice (some ⟨nb, no, none⟩) n cap) (some 44) rfl (by kernel_rfl) (by kernel_rfl) (by kernel_rfl) (by kernel_rfl) (fun _ _ _ h => h) (by kernel_rfl) (fun w => by kernel_rfl) hH ?_
            refine rg_pure 28 _ (.slice (some ⟨lb, lo, none⟩) i lc) (some 45) rfl (by kernel_rfl) (by kernel_rfl) (by kernel_rfl) (by kernel_rfl) (fun _ _ _ h => h) (by kernel_rfl) (fun w => by kernel_rfl) hH ?_
            refine rg_pure 29 _ (.int .i64 ((k : Int) + 1)) (some 46) rfl (by kernel_rfl) (by kernel_rfl) (by kernel_rfl) (by kernel_rfl) (fun _ _ _ h => h) (by kernel_rfl) (fun w => by kernel_rfl) hH ?_
            refine rg_pure 30 _ (.int .i64 (k : Int)) (some 47) rfl (by kernel_rfl) (by kernel_rfl) (by kernel_rfl) (by kernel_rfl) (fun _ _ _ h => h) (by kernel_rfl) (fun w => rd_sub w _ _ _ _ _ _ ((k : Int) + 1) 1 (k : Int) rfl (by kernel_rfl) (by kernel_rfl) (by omega) (by omega) (by omega)) hH ?_
            refine rg_pure 31 _ (.pointer (some ⟨lb, lo + k, none⟩)) (some 48) rfl (by kernel_rfl) (by kernel_rfl) (by kernel_rfl) (by kernel_rfl) (fun _ _ _ h => h) (by kernel_rfl) (fun w => rl_idx w _ _ _ _ _ 3 lb lo i lc k k 1 rfl (by kernel_rfl) (by kernel_rfl) Try.underlying39 (by kernel_rfl) hki2 (Nat.mul_one _)) hH ?_
            refine rg_load1 32 _ 3 (.tmp 48) ⟨lb, lo + k, none⟩ (.int .i64 ((Z : Nat) : Int)) _ (some 49) rfl (by kernel_rfl) (by kernel_rfl) (by kernel_rfl) (by kernel_rfl) (fun _ _ _ h => h) (by kernel_rfl) rfl (by kernel_rfl) Try.underlying3 rfl (fun W hW => (hW.cell (p := ⟨lb, lo + k, none⟩) hlb).trans hc1) hH ?_
            refine rg_pure 33 _ (.pointer (some ⟨nb, no + Z, none⟩)) (some 50) rfl (by kernel_rfl) (by kernel_rfl) (by kernel_rfl) (by kernel_rfl) (fun _ _ _ h => h) (by kernel_rfl) (fun w => rl_idx w _ _ _ _ _ 9 nb no n cap Z Z 1 rfl (by kernel_rfl) (by kernel_rfl) Try.underlying22 (by kernel_rfl) hZn (Nat.mul_one _)) hH ?_
            refine rg_load1 34 _ 9 (.tmp 50) ⟨nb, no + Z, none⟩ (.string Y) _ (some 51) rfl (by kernel_rfl) (by kernel_rfl) (by kernel_rfl) (by kernel_rfl) (fun _ _ _ h => h) (by kernel_rfl) rfl (by kernel_rfl) Try.underlying9 rfl (fun W hW => (hW.cell (p := ⟨nb, no + Z, none⟩) hnb).trans hc3) hH ?_
            refine rg_pure 35 _ (.bool true) (some 52) rfl (by kernel_rfl) (by kernel_rfl) (by kernel_rfl) (by kernel_rfl) (fun _ _ _ h => h) (by kernel_rfl) (fun w => rd_lssS w _ _ _ _ _ _ X Y true rfl (by kernel_rfl) (by kernel_rfl) ht) hH ?_
            refine rg_pure 36 _ (.bool true) (some 53) rfl (by kernel_rfl) (by kernel_rfl) (by kernel_rfl) (by kernel_rfl) (fun _ _ _ h => h) (by kernel_rfl) (fun w => by kernel_rfl) hH ?_
            refine rg_pure 37 _ (.bool true) (some 54) rfl (by kernel_rfl) (by kernel_rfl) (by kernel_rfl) (by kernel_rfl) (fun _ _ _ h => h) (by kernel_rfl) (fun w => by kernel_rfl) hH ?_
            refine rg_pure 38 _ (.bool true) (some 55) rfl (by kernel_rfl) (by kernel_rfl) (by kernel_rfl) (by kernel_rfl) (fun _ _ _ h => h) (by kernel_rfl) (fun w => by kernel_rfl) hH ?_
            refine wpAnyH_done (by kernel_rfl) ?_ _
            refine HJ.out _ _ ?_
            clear HJ
            simp only [Act.put, List.setIfInBounds_toArray, List.set_cons_zero, List.set_cons_succ]
            have HF := Lib.hid (HN2.out _ hH)
            clear hH
            go_wp2_with fail
            go_roundg g2
            case rel => exact HF.out
            case measure => omega
          · have ht : Op.bytesLess X.toList Y.toList = false := by simpa using ht
            have HX0 := Lib.hid (show ∀ y, 0 < k + 1 → (srt Op.bytesLess (keyB l) 0 i)[k + 1 - 1]? = some y → Op.bytesLess (keyB l i) (keyB l y) = false from fun y _ hy => by
              rw [HGET.out] at hy; cases hy; rw [HKEY.out]; exact ht)
            refine rg_norm (fun J hJ => ?_)
            have HJ := Lib.hid hJ
            clear hJ
            refine wp_region_held_drew (S := fun W => Below wr.heap.size wr W) (by kernel_rfl) (below_drew (Below.refl _ _)) (fun hH => ?_)
            refine rg_pure 0 _ (.int .i64 ((k : Int) + 1)) (some 17) rfl (by kernel_rfl) (by kernel_rfl) (by kernel_rfl) (by kernel_rfl) (fun _ _ _ h => h) (by kernel_rfl) (fun w => by kernel_rfl) hH ?_
            refine rg_pure 1 _ (.bool true) (some 18) rfl (by kernel_rfl) (by kernel_rfl) (by kernel_rfl) (by kernel_rfl) (fun _ _ _ h => h) (by kernel_rfl) (fun w => rd_gtr w _ _ _ _ _ _ ((k : Int) + 1) 0 true rfl (by kernel_rfl) (by kernel_rfl) (decide_eq_true (by omega))) hH ?_
            refine rg_pure 2 _ (.bool true) (some 19) rfl (by kernel_rfl) (by kernel_rfl) (by kernel_rfl) (by kernel_rfl) (fun _ _ _ h => h) (by kernel_rfl) (fun w => by kernel_rfl) hH ?_
            refine rg_pure 3 _ (.bool false) (some 20) rfl (by kernel_rfl) (by kernel_rfl) (by kernel_rfl) (by kernel_rfl) (fun _ _ _ h => h) (by kernel_rfl) (fun w => by kernel_rfl) hH ?_
            refine rg_pure 4 _ (.bool false) (some 21) rfl (by kernel_rfl) (by kernel_rfl) (by kernel_rfl) (by kernel_rfl) (fun _ _ _ h => h) (by kernel_rfl) (fun w => by kernel_rfl) hH ?_
            refine rg_skip 5 _ (some 22) rfl (by kernel_rfl) (by kernel_rfl) (by kernel_rfl) (by kernel_rfl) (fun _ _ _ h => h) (by kernel_rfl) hH ?_
            refine rg_skip 6 _ (some 23) rfl (by kernel_rfl) (by kernel_rfl) (by kernel_rfl) (by kernel_rfl) (fun _ _ _ h => h) (by kernel_rfl) hH ?_
            refine rg_skip 7 _ (some 24) rfl (by kernel_rfl) (by kernel_rfl) (by kernel_rfl) (by kernel_rfl) (fun _ _ _ h => h) (by kernel_rfl) hH ?_
            refine rg_skip 8 _ (some 25) rfl (by kernel_rfl) (by kernel_rfl) (by kernel_rfl) (by kernel_rfl) (fun _ _ _ h => h) (by kernel_rfl) hH ?_
            refine rg_skip 9 _ (some 26) rfl (by kernel_rfl) (by kernel_rfl) (by kernel_rfl) (by kernel_rfl) (fun _ _ _ h => h) (by kernel_rfl) hH ?_
            refine rg_skip 10 _ (some 27) rfl (by kernel_rfl) (by kernel_rfl) (by kernel_rfl) (by kernel_rfl) (fun _ _ _ h => h) (by kernel_rfl) hH ?_
            refine rg_skip 11 _ (some 28) rfl (by kernel_rfl) (by kernel_rfl) (by kernel_rfl) (by kernel_rfl) (fun _ _ _ h => h) (by kernel_rfl) hH ?_
            refine rg_skip 12 _ (some 29) rfl (by kernel_rfl) (by kernel_rfl) (by kernel_rfl) (by kernel_rfl) (fun _ _ _ h => h) (by kernel_rfl) hH ?_
            refine rg_skip 13 _ (some 30) rfl (by kernel_rfl) (by kernel_rfl) (by kernel_rfl) (by kernel_rfl) (fun _ _ _ h => h) (by kernel_rfl) hH ?_
            refine rg_skip 14 _ (some 31) rfl (by kernel_rfl) (by kernel_rfl) (by kernel_rfl) (by kernel_rfl) (fun _ _ _ h => h) (by kernel_rfl) hH ?_
            refine rg_skip 15 _ (some 32) rfl (by kernel_rfl) (by kernel_rfl) (by kernel_rfl) (by kernel_rfl) (fun _ _ _ h => h) (by kernel_rfl) hH ?_
            refine rg_skip 16 _ (some 33) rfl (by kernel_rfl) (by kernel_rfl) (by kernel_rfl) (by kernel_rfl) (fun _ _ _ h => h) (by kernel_rfl) hH ?_
            refine rg_skip 17 _ (some 34) rfl (by kernel_rfl) (by kernel_rfl) (by kernel_rfl) (by kernel_rfl) (fun _ _ _ h => h) (by kernel_rfl) hH ?_
            refine rg_pure 18 _ (.bool false) (some 35) rfl (by kernel_rfl) (by kernel_rfl) (by kernel_rfl) (by kernel_rfl) (fun _ _ _ h => h) (by kernel_rfl) (fun w => by kernel_rfl) hH ?_
            refine rg_pure 19 _ (.bool false) (some 36) rfl (by kernel_rfl) (by kernel_rfl) (by kernel_rfl) (by kernel_rfl) (fun _ _ _ h => h) (by kernel_rfl) (fun w => by kernel_rfl) hH ?_
            refine rg_pure 20 _ (.bool false) (some 37) rfl (by kernel_rfl) (by kernel_rfl) (by kernel_rfl) (by kernel_rfl) (fun _ _ _ h => h) (by kernel_rfl) (fun w => by kernel_rfl) hH ?_
            refine rg_pure 21 _ (.bool true) (some 38) rfl (by kernel_rfl) (by kernel_rfl) (by kernel_rfl) (by kernel_rfl) (fun _ _ _ h => h) (by kernel_rfl) (fun w => by kernel_rfl) hH ?_
            refine rg_pure 22 _ (.bool true) (some 39) rfl (by kernel_rfl) (by kernel_rfl) (by kernel_rfl) (by kernel_rfl) (fun _ _ _ h => h) (by kernel_rfl) (fun w => by kernel_rfl) hH ?_
            refine rg_pure 23 _ (.slice (some ⟨nb, no, none⟩) n cap) (some 40) rfl (by kernel_rfl) (by kernel_rfl) (by kernel_rfl) (by kernel_rfl) (fun _ _ _ h => h) (by kernel_rfl) (fun w => by kernel_rfl) hH ?_
            refine rg_pure 24 _ (.int .i64 (i : Int)) (some 41) rfl (by kernel_rfl) (by kernel_rfl) (by kernel_rfl) (by kernel_rfl) (fun _ _ _ h => h) (by kernel_rfl) (fun w => by kernel_rfl) hH ?_
            refine rg_pure 25 _ (.pointer (some ⟨nb, no + i, none⟩)) (some 42) rfl (by kernel_rfl) (by kernel_rfl) (by kernel_rfl) (by kernel_rfl) (fun _ _ _ h => h) (by kernel_rfl) (fun w => rl_idx w _ _ _ _ _ 9 nb no n cap i i 1 rfl (by kernel_rfl) (by kernel_rfl) Try.underlying22 (by kernel_rfl) hlt (Nat.mul_one _)) hH ?_
            refine rg_load1 26 _ 9 (.tmp 42) ⟨nb, no + i, none⟩ (.string X) _ (some 43) rfl (by kernel_rfl) (by kernel_rfl) (by kernel_rfl) (by kernel_rfl) (fun _ _ _ h => h) (by kernel_rfl) rfl (by kernel_rfl) Try.underlying9 rfl (fun W hW => (hW.cell (p := ⟨nb, no + i, none⟩) hnb).trans hc2) hH ?_
            refine rg_pure 27 _ (.slice (some ⟨nb, no, none⟩) n cap) (some 44) rfl (by kernel_rfl) (by kernel_rfl) (by kernel_rfl) (by kernel_rfl) (fun _ _ _ h => h) (by kernel_rfl) (fun w => by kernel_rfl) hH ?_
            refine rg_pure 28 _ (.slice (some ⟨lb, lo, none⟩) i lc) (some 45) rfl (by kernel_rfl) (by kernel_rfl) (by kernel_rfl) (by kernel_rfl) (fun _ _ _ h => h) (by kernel_rfl) (fun w => by kernel_rfl) hH ?_
            refine rg_pure 29 _ (.int .i64 ((k : Int) + 1)) (some 46) rfl (by kernel_rfl) (by kernel_rfl) (by kernel_rfl) (by kernel_rfl) (fun _ _ _ h => h) (by kernel_rfl) (fun w => by kernel_rfl) hH ?_
            refine rg_pure 30 _ (.int .i64 (k : Int)) (some 47) rfl (by kernel_rfl) (by kernel_rfl) (by kernel_rfl) (by kernel_rfl) (fun _ _ _ h => h) (by kernel_rfl) (fun w => rd_sub w _ _ _ _ _ _ ((k : Int) + 1) 1 (k : Int) rfl (by kernel_rfl) (by kernel_rfl) (by omega) (by omega) (by omega)) hH ?_
            refine rg_pure 31 _ (.pointer (some ⟨lb, lo + k, none⟩)) (some 48) rfl (by kernel_rfl) (by kernel_rfl) (by kernel_rfl) (by kernel_rfl) (fun _ _ _ h => h) (by kernel_rfl) (fun w => rl_idx w _ _ _ _ _ 3 lb lo i lc k k 1 rfl (by kernel_rfl) (by kernel_rfl) Try.underlying39 (by kernel_rfl) hki2 (Nat.mul_one _)) hH ?_
            refine rg_load1 32 _ 3 (.tmp 48) ⟨lb, lo + k, none⟩ (.int .i64 ((Z : Nat) : Int)) _ (some 49) rfl (by kernel_rfl) (by kernel_rfl) (by kernel_rfl) (by kernel_rfl) (fun _ _ _ h => h) (by kernel_rfl) rfl (by kernel_rfl) Try.underlying3 rfl (fun W hW => (hW.cell (p := ⟨lb, lo + k, none⟩) hlb).trans hc1) hH ?_
            refine rg_pure 33 _ (.pointer (some ⟨nb, no + Z, none⟩)) (some 50) rfl (by kernel_rfl) (by kernel_rfl) (by kernel_rfl) (by kernel_rfl) (fun _ _ _ h => h) (by kernel_rfl) (fun w => rl_idx w _ _ _ _ _ 9 nb no n cap Z Z 1 rfl (by kernel_rfl) (by kernel_rfl) Try.underlying22 (by kernel_rfl) hZn (Nat.mul_one _)) hH ?_
            refine rg_load1 34 _ 9 (.tmp 50) ⟨nb, no + Z, none⟩ (.string Y) _ (some 51) rfl (by kernel_rfl) (by kernel_rfl) (by kernel_rfl) (by kernel_rfl) (fun _ _ _ h => h) (by kernel_rfl) rfl (by kernel_rfl) Try.underlying9 rfl (fun W hW => (hW.cell (p := ⟨nb, no + Z, none⟩) hnb).trans hc3) hH ?_
            refine rg_pure 35 _ (.bool false) (some 52) rfl (by kernel_rfl) (by kernel_rfl) (by kernel_rfl) (by kernel_rfl) (fun _ _ _ h => h) (by kernel_rfl) (fun w => rd_lssS w _ _ _ _ _ _ X Y false rfl (by kernel_rfl) (by kernel_rfl) ht) hH ?_
            refine rg_pure 36 _ (.bool false) (some 53) rfl (by kernel_rfl) (by kernel_rfl) (by kernel_rfl) (by kernel_rfl) (fun _ _ _ h => h) (by kernel_rfl) (fun w => by kernel_rfl) hH ?_
            refine rg_pure 37 _ (.bool false) (some 54) rfl (by kernel_rfl) (by kernel_rfl) (by kernel_rfl) (by kernel_rfl) (fun _ _ _ h => h) (by kernel_rfl) (fun w => by kernel_rfl) hH ?_
            refine rg_pure 38 _ (.bool false) (some 55) rfl (by kernel_rfl) (by kernel_rfl) (by kernel_rfl) (by kernel_rfl) (fun _ _ _ h => h) (by kernel_rfl) (fun w => by kernel_rfl) hH ?_
            refine wpAnyH_done (by kernel_rfl) ?_ _
            refine HJ.out _ _ ?_
            clear HJ
            simp only [Act.put, List.setIfInBounds_toArray, List.set_cons_zero, List.set_cons_succ]
            have HH := Lib.hid (HBQ.out.trans (hH.mono HBQ.out.size))
            clear hH
            have hlW := HLR.out.on HH.out
            have HTK := Lib.hid (show RdV _ (some ⟨lb, lo, none⟩) (((srt Op.bytesLess (keyB l) 0 i).take (k + 1)).map iv) from by rw [List.map_take]; exact hlW.take (k + 1))
            have HHB := Lib.hid HH.out
            have HX1 := Lib.hid (fun W v hb ho => HEX.out W v HX0.out hb ho)
            clear hlW
            go_wp2_with (at_builtin; refine wpl_clone1 Try.underlying39 info_int rfl (by decide) _ rfl _ _ rfl (some ⟨lb, lo, none⟩) (k + 1) lc (((srt Op.bytesLess (keyB l) 0 i).take (k + 1)).map iv) (iv_one _) rfl rfl (by rw [List.length_map, List.length_take, srt_len]; omega) HTK.out (by omega) ?_)
            intro v8 w8 ho8 hb8
            obtain ⟨mad, mc, hv8, hmc, _⟩ := own_viewN ho8
            subst hv8
            have HM := Lib.hid (show w8.ownsRow wo.heap.size 3 1 (.slice mad (k + 1) mc) (k + 1) (((srt Op.bytesLess (keyB l) 0 i).take (k + 1)).map iv) from by first | exact own_base ho8 HHB.out.size | (rw [List.map_take]; exact own_base ho8 HHB.out.size))
            have HB8 := Lib.hid (below_on HHB.out hb8)
            have hsz8 : wo.heap.size ≤ w8.heap.size := HB8.out.size
            have HDK := Lib.hid (fun W (h : Below wo.heap.size wo W) => show RdV W (if lc = (k + 1) then ((some ⟨lb, lo, none⟩) : Option Addr) else Option.map (fun x : Addr => x.add (k + 1)) (some ⟨lb, lo, none⟩)) (((srt Op.bytesLess (keyB l) 0 i).drop (k + 1)).map iv) from by rw [List.map_drop]; exact rdv_from (HLR.out.on h) (by rw [List.length_map, srt_len]) (by omega) hlc)
            have HNIL := Lib.hid (show (if lc = (k + 1) then ((some ⟨lb, lo, none⟩) : Option Addr) else Option.map (fun x : Addr => x.add (k + 1)) (some ⟨lb, lo, none⟩)) = none → lc - (k + 1) = 0 from fun h => by
              have h0 : ((some ⟨lb, lo, none⟩) : Option Addr) = none := by split at h <;> simp_all
              have := hlz h0; omega)
            obtain ⟨qa, hqa⟩ : ∃ q, (if lc = (k + 1) then ((some ⟨lb, lo, none⟩) : Option Addr) else Option.map (fun x : Addr => x.add (k + 1)) (some ⟨lb, lo, none⟩)) = q := ⟨_, rfl⟩
            have HQ := Lib.hid hqa
            rw [hqa] at HDK HNIL
            clear ho8 hb8 hqa
            go_upto_region 9 with fail
            refine rc_norm (fun J hJ => ?_)
            have HJ := Lib.hid hJ
            clear hJ
            refine rl_start (S := fun _ _ => True) (by kernel_rfl) (trivial) (fun hC hS => ?_)
            refine rl_pure 0 _ (.slice mad (k + 1) mc) (some 62) rfl (by kernel_rfl) (by kernel_rfl) (by kernel_rfl) (by kernel_rfl) (fun _ _ _ h => h) (fun _ _ => Iff.rfl) (by kernel_rfl) (fun w => by kernel_rfl) hC hS (fun hC hS => ?_)
            refine rl_pure 1 _ (.int .i64 (i : Int)) (some 63) rfl (by kernel_rfl) (by kernel_rfl) (by kernel_rfl) (by kernel_rfl) (fun _ _ _ h => h) (fun _ _ => Iff.rfl) (by kernel_rfl) (fun w => by kernel_rfl) hC hS (fun hC hS => ?_)
            refine rl_pure 4 _ (.slice (some ⟨lb, lo, none⟩) i lc) (some 66) rfl (by kernel_rfl) (by kernel_rfl) (by kernel_rfl) (by kernel_rfl) (fun _ _ _ h => h) (fun _ _ => Iff.rfl) (by kernel_rfl) (fun w => by kernel_rfl) hC hS (fun hC hS => ?_)
            refine rl_pure 5 _ (.int .i64 (((k + 1) : Nat) : Int)) (some 67) rfl (by kernel_rfl) (by kernel_rfl) (by kernel_rfl) (by kernel_rfl) (fun _ _ _ h => h) (fun _ _ => Iff.rfl) (by kernel_rfl) (fun w => by kernel_rfl) hC hS (fun hC hS => ?_)
            refine rl_pure 6 _ (.slice qa (i - (k + 1)) (lc - (k + 1))) (some 68) rfl (by kernel_rfl) (by kernel_rfl) (by kernel_rfl) (by kernel_rfl) (fun _ _ _ h => h) (fun _ _ => Iff.rfl) (by kernel_rfl) (fun w => by rw [← HQ.out]; exact rd_slice w _ _ _ 3 _ _ (some ⟨lb, lo, none⟩) i lc (k + 1) rfl (by kernel_rfl) (by kernel_rfl) Try.underlying39 (by kernel_rfl) (by omega) hlc) hC hS (fun hC hS => ?_)
            refine rl_all [2] (by kernel_rfl) (by simp) hC (rl_one _ ?_)
            refine rl_val 2 _ (.slice (some ⟨w8.drew.heap.size, 0, none⟩) 1 1) (w8.drew.alloc (.cells #[.int .i64 (i : Int)] 3)) (some 64) rfl (by kernel_rfl) (by kernel_rfl) (by kernel_rfl) ?_
            refine rl_and (trivial) (fun hS hC => ?_)
            refine rl_all [3] (by kernel_rfl) (by simp) hC (rl_one _ ?_)
            refine rl_law 3 _ (some 65) rfl (by kernel_rfl) (by kernel_rfl) (R := fun v' w' => w'.ownsRow wo.heap.size 3 1 v' ((k + 1) + 1) ((((srt Op.bytesLess (keyB l) 0 i).take (k + 1)).map iv) ++ [.int .i64 (i : Int)]) ∧ (w8.drew.alloc (.cells #[.int .i64 (i : Int)] 3)).grownBy w' (Value.slice mad (k + 1) mc).ownBlock) (fun KK hKK => wp_appV Try.underlying39 info_int rfl (by decide) (by decide) (w8.drew.alloc (.cells #[.int .i64 (i : Int)] 3)) (.tmp 62) (.tmp 64) rfl wo.heap.size (.slice mad (k + 1) mc) (k + 1) (((srt Op.bytesLess (keyB l) 0 i).take (k + 1)).map iv) (by kernel_rfl) (World.ownsRow.alloc (World.ownsRow.drew HM.out) _) (some ⟨w8.drew.heap.size, 0, none⟩) 1 1 [.int .i64 (i : Int)] (by kernel_rfl) rfl (rdv_new _ _ _) (by intro u hu; rw [List.mem_singleton.1 hu]; rfl) nofun (by omega) (by have := hsz8; simp; omega) (fun v' w' h1 h2 => hKK v' w' ⟨h1, h2⟩)) ?_
            rintro v9 W9 ⟨ho9, hg9⟩
            have HB9 := Lib.hid (show Below wo.heap.size wo W9 from ((below_drew HB8.out).alloc hsz8 _).grown hg9 (by simp; omega) (fun g hg => (own_at HM.out hg).1))
            refine rl_and (trivial) (fun hS hC => ?_)
            refine rl_all [7] (by kernel_rfl) (by simp) hC (rl_one _ ?_)
            refine rl_law 7 _ (some 69) rfl (by kernel_rfl) (by kernel_rfl) (R := fun v' w' => w'.ownsRow wo.heap.size 3 1 v' ((k + 1) + 1 + (i - (k + 1))) ((((srt Op.bytesLess (keyB l) 0 i).take (k + 1)).map iv) ++ [.int .i64 (i : Int)] ++ (((srt Op.bytesLess (keyB l) 0 i).drop (k + 1)).map iv)) ∧ W9.grownBy w' v9.ownBlock) (fun KK hKK => wp_appV Try.underlying39 info_int rfl (by decide) (by decide) W9 (.tmp 65) (.tmp 68) rfl wo.heap.size v9 ((k + 1) + 1) ((((srt Op.bytesLess (keyB l) 0 i).take (k + 1)).map iv) ++ [.int .i64 (i : Int)]) (by kernel_rfl) ho9 qa (i - (k + 1)) (lc - (k + 1)) (((srt Op.bytesLess (keyB l) 0 i).drop (k + 1)).map iv) (by kernel_rfl) (by rw [List.length_map, List.length_drop, srt_len]; omega) (HDK.out _ HB9.out) (iv_one _) HNIL.out (by omega) HB9.out.size (fun v' w' h1 h2 => hKK v' w' ⟨h1, h2⟩)) ?_
            rintro va Wa ⟨hoa, hga⟩
            refine rl_and (trivial) (fun hS hC => ?_)
            refine rl_pure 8 _ (va) (some 5) rfl (by kernel_rfl) (by kernel_rfl) (by kernel_rfl) (by kernel_rfl) (fun _ _ _ h => h) (fun _ _ => Iff.rfl) (by kernel_rfl) (fun w => by kernel_rfl) hC hS (fun hC hS => ?_)
            refine rl_done (by kernel_rfl) ?_ _
            have hbW : Below wo.heap.size wo Wa := HB9.out.grown hga HB9.out.size (fun g hg => (own_at ho9 hg).1)
            have HF := Lib.hid (HX1.out Wa va hbW (own_base hoa (B' := w.heap.size) HB.out.size))
            clear hS hC hoa hga ho9 hg9 hbW
            refine HJ.out _ _ ?_
            clear HJ
            simp only [Act.put, List.setIfInBounds_toArray, List.set_cons_zero, List.set_cons_succ]
            go_wp2_with fail
            go_roundg g
            case rel => exact HF.out
            case measure => omega
        · obtain rfl : k = 0 := by omega
          have HX0 := Lib.hid (show ∀ y, 0 < 0 → (srt Op.bytesLess (keyB l) 0 i)[0 - 1]? = some y → Op.bytesLess (keyB l i) (keyB l y) = false from fun y h => absurd h (by decide))
          go_wp2_with fail
          refine rg_norm (fun J hJ => ?_)
          have HJ := Lib.hid hJ
          clear hJ
          refine wp_region_held_drew (S := fun W => Below wr.heap.size wr W) (by kernel_rfl) (below_drew (Below.refl _ _)) (fun hH => ?_)
          refine rg_pure 0 _ (.int .i64 0) (some 17) rfl (by kernel_rfl) (by kernel_rfl) (by kernel_rfl) (by kernel_rfl) (fun _ _ _ h => h) (by kernel_rfl) (fun w => by kernel_rfl) hH ?_
          refine rg_pure 1 _ (.bool false) (some 18) rfl (by kernel_rfl) (by kernel_rfl) (by kernel_rfl) (by kernel_rfl) (fun _ _ _ h => h) (by kernel_rfl) (fun w => rd_gtr w _ _ _ _ _ _ 0 0 false rfl (by kernel_rfl) (by kernel_rfl) (by decide)) hH ?_
          refine rg_pure 2 _ (.bool false) (some 19) rfl (by kernel_rfl) (by kernel_rfl) (by kernel_rfl) (by kernel_rfl) (fun _ _ _ h => h) (by kernel_rfl) (fun w => by kernel_rfl) hH ?_
          refine rg_skip 3 _ (some 20) rfl (by kernel_rfl) (by kernel_rfl) (by kernel_rfl) (by kernel_rfl) (fun _ _ _ h => h) (by kernel_rfl) hH ?_
          refine rg_skip 4 _ (some 21) rfl (by kernel_rfl) (by kernel_rfl) (by kernel_rfl) (by kernel_rfl) (fun _ _ _ h => h) (by kernel_rfl) hH ?_
          refine rg_skip 5 _ (some 22) rfl (by kernel_rfl) (by kernel_rfl) (by kernel_rfl) (by kernel_rfl) (fun _ _ _ h => h) (by kernel_rfl) hH ?_
          refine rg_skip 6 _ (some 23) rfl (by kernel_rfl) (by kernel_rfl) (by kernel_rfl) (by kernel_rfl) (fun _ _ _ h => h) (by kernel_rfl) hH ?_
          refine rg_skip 7 _ (some 24) rfl (by kernel_rfl) (by kernel_rfl) (by kernel_rfl) (by kernel_rfl) (fun _ _ _ h => h) (by kernel_rfl) hH ?_
          refine rg_skip 8 _ (some 25) rfl (by kernel_rfl) (by kernel_rfl) (by kernel_rfl) (by kernel_rfl) (fun _ _ _ h => h) (by kernel_rfl) hH ?_
          refine rg_skip 9 _ (some 26) rfl (by kernel_rfl) (by kernel_rfl) (by kernel_rfl) (by kernel_rfl) (fun _ _ _ h => h) (by kernel_rfl) hH ?_
          refine rg_skip 10 _ (some 27) rfl (by kernel_rfl) (by kernel_rfl) (by kernel_rfl) (by kernel_rfl) (fun _ _ _ h => h) (by kernel_rfl) hH ?_
          refine rg_skip 11 _ (some 28) rfl (by kernel_rfl) (by kernel_rfl) (by kernel_rfl) (by kernel_rfl) (fun _ _ _ h => h) (by kernel_rfl) hH ?_
          refine rg_skip 12 _ (some 29) rfl (by kernel_rfl) (by kernel_rfl) (by kernel_rfl) (by kernel_rfl) (fun _ _ _ h => h) (by kernel_rfl) hH ?_
          refine rg_skip 13 _ (some 30) rfl (by kernel_rfl) (by kernel_rfl) (by kernel_rfl) (by kernel_rfl) (fun _ _ _ h => h) (by kernel_rfl) hH ?_
          refine rg_skip 14 _ (some 31) rfl (by kernel_rfl) (by kernel_rfl) (by kernel_rfl) (by kernel_rfl) (fun _ _ _ h => h) (by kernel_rfl) hH ?_
          refine rg_skip 15 _ (some 32) rfl (by kernel_rfl) (by kernel_rfl) (by kernel_rfl) (by kernel_rfl) (fun _ _ _ h => h) (by kernel_rfl) hH ?_
          refine rg_skip 16 _ (some 33) rfl (by kernel_rfl) (by kernel_rfl) (by kernel_rfl) (by kernel_rfl) (fun _ _ _ h => h) (by kernel_rfl) hH ?_
          refine rg_skip 17 _ (some 34) rfl (by kernel_rfl) (by kernel_rfl) (by kernel_rfl) (by kernel_rfl) (fun _ _ _ h => h) (by kernel_rfl) hH ?_
          refine rg_skip 18 _ (some 35) rfl (by kernel_rfl) (by kernel_rfl) (by kernel_rfl) (by kernel_rfl) (fun _ _ _ h => h) (by kernel_rfl) hH ?_
          refine rg_skip 19 _ (some 36) rfl (by kernel_rfl) (by kernel_rfl) (by kernel_rfl) (by kernel_rfl) (fun _ _ _ h => h) (by kernel_rfl) hH ?_
          refine rg_skip 20 _ (some 37) rfl (by kernel_rfl) (by kernel_rfl) (by kernel_rfl) (by kernel_rfl) (fun _ _ _ h => h) (by kernel_rfl) hH ?_
          refine rg_skip 21 _ (some 38) rfl (by kernel_rfl) (by kernel_rfl) (by kernel_rfl) (by kernel_rfl) (fun _ _ _ h => h) (by kernel_rfl) hH ?_
          refine rg_skip 22 _ (some 39) rfl (by kernel_rfl) (by kernel_rfl) (by kernel_rfl) (by kernel_rfl) (fun _ _ _ h => h) (by kernel_rfl) hH ?_
          refine rg_skip 23 _ (some 40) rfl (by kernel_rfl) (by kernel_rfl) (by kernel_rfl) (by kernel_rfl) (fun _ _ _ h => h) (by kernel_rfl) hH ?_
          refine rg_skip 24 _ (some 41) rfl (by kernel_rfl) (by kernel_rfl) (by kernel_rfl) (by kernel_rfl) (fun _ _ _ h => h) (by kernel_rfl) hH ?_
          refine rg_skip 25 _ (some 42) rfl (by kernel_rfl) (by kernel_rfl) (by kernel_rfl) (by kernel_rfl) (fun _ _ _ h => h) (by kernel_rfl) hH ?_
          refine rg_skip 26 _ (some 43) rfl (by kernel_rfl) (by kernel_rfl) (by kernel_rfl) (by kernel_rfl) (fun _ _ _ h => h) (by kernel_rfl) hH ?_
          refine rg_skip 27 _ (some 44) rfl (by kernel_rfl) (by kernel_rfl) (by kernel_rfl) (by kernel_rfl) (fun _ _ _ h => h) (by kernel_rfl) hH ?_
          refine rg_skip 28 _ (some 45) rfl (by kernel_rfl) (by kernel_rfl) (by kernel_rfl) (by kernel_rfl) (fun _ _ _ h => h) (by kernel_rfl) hH ?_
          refine rg_skip 29 _ (some 46) rfl (by kernel_rfl) (by kernel_rfl) (by kernel_rfl) (by kernel_rfl) (fun _ _ _ h => h) (by kernel_rfl) hH ?_
          refine rg_skip 30 _ (some 47) rfl (by kernel_rfl) (by kernel_rfl) (by kernel_rfl) (by kernel_rfl) (fun _ _ _ h => h) (by kernel_rfl) hH ?_
          refine rg_skip 31 _ (some 48) rfl (by kernel_rfl) (by kernel_rfl) (by kernel_rfl) (by kernel_rfl) (fun _ _ _ h => h) (by kernel_rfl) hH ?_
          refine rg_skip 32 _ (some 49) rfl (by kernel_rfl) (by kernel_rfl) (by kernel_rfl) (by kernel_rfl) (fun _ _ _ h => h) (by kernel_rfl) hH ?_
          refine rg_skip 33 _ (some 50) rfl (by kernel_rfl) (by kernel_rfl) (by kernel_rfl) (by kernel_rfl) (fun _ _ _ h => h) (by kernel_rfl) hH ?_
          refine rg_skip 34 _ (some 51) rfl (by kernel_rfl) (by kernel_rfl) (by kernel_rfl) (by kernel_rfl) (fun _ _ _ h => h) (by kernel_rfl) hH ?_
          refine rg_skip 35 _ (some 52) rfl (by kernel_rfl) (by kernel_rfl) (by kernel_rfl) (by kernel_rfl) (fun _ _ _ h => h) (by kernel_rfl) hH ?_
          refine rg_skip 36 _ (some 53) rfl (by kernel_rfl) (by kernel_rfl) (by kernel_rfl) (by kernel_rfl) (fun _ _ _ h => h) (by kernel_rfl) hH ?_
          refine rg_skip 37 _ (some 54) rfl (by kernel_rfl) (by kernel_rfl) (by kernel_rfl) (by kernel_rfl) (fun _ _ _ h => h) (by kernel_rfl) hH ?_
          refine rg_pure 38 _ (.bool false) (some 55) rfl (by kernel_rfl) (by kernel_rfl) (by kernel_rfl) (by kernel_rfl) (fun _ _ _ h => h) (by kernel_rfl) (fun w => by kernel_rfl) hH ?_
          refine wpAnyH_done (by kernel_rfl) ?_ _
          refine HJ.out _ _ ?_
          clear HJ
          simp only [Act.put, List.setIfInBounds_toArray, List.set_cons_zero, List.set_cons_succ]
          have HH := Lib.hid (HBQ.out.trans (hH.mono HBQ.out.size))
          clear hH
          have hlW := HLR.out.on HH.out
          have HTK := Lib.hid (show RdV _ lad (((srt Op.bytesLess (keyB l) 0 i).take 0).map iv) from by rw [List.map_take]; exact hlW.take 0)
          have HHB := Lib.hid HH.out
          have HX1 := Lib.hid (fun W v hb ho => HEX.out W v HX0.out hb ho)
          clear hlW
          go_wp2_with (at_builtin; refine wpl_clone1 Try.underlying39 info_int rfl (by decide) _ rfl _ _ rfl lad 0 lc (((srt Op.bytesLess (keyB l) 0 i).take 0).map iv) (iv_one _) rfl rfl (by rw [List.length_map, List.length_take, srt_len]; omega) HTK.out (by omega) ?_)
          intro v8 w8 ho8 hb8
          obtain ⟨mad, mc, hv8, hmc, _⟩ := own_viewN ho8
          subst hv8
          have HM := Lib.hid (show w8.ownsRow wo.heap.size 3 1 (.slice mad 0 mc) 0 (((srt Op.bytesLess (keyB l) 0 i).take 0).map iv) from by first | exact own_base ho8 HHB.out.size | (rw [List.map_take]; exact own_base ho8 HHB.out.size))
          have HB8 := Lib.hid (below_on HHB.out hb8)
          have hsz8 : wo.heap.size ≤ w8.heap.size := HB8.out.size
          have HDK := Lib.hid (fun W (h : Below wo.heap.size wo W) => show RdV W (if lc = 0 then (lad : Option Addr) else Option.map (fun x : Addr => x.add 0) lad) (((srt Op.bytesLess (keyB l) 0 i).drop 0).map iv) from by rw [List.map_drop]; exact rdv_from (HLR.out.on h) (by rw [List.length_map, srt_len]) (by omega) hlc)
          have HNIL := Lib.hid (show (if lc = 0 then (lad : Option Addr) else Option.map (fun x : Addr => x.add 0) lad) = none → lc - 0 = 0 from fun h => by
            have h0 : (lad : Option Addr) = none := by split at h <;> simp_all
            have := hlz h0; omega)
          obtain ⟨qa, hqa⟩ : ∃ q, (if lc = 0 then (lad : Option Addr) else Option.map (fun x : Addr => x.add 0) lad) = q := ⟨_, rfl⟩
          have HQ := Lib.hid hqa
          rw [hqa] at HDK HNIL
          clear ho8 hb8 hqa
          go_upto_region 9 with fail
          refine rc_norm (fun J hJ => ?_)
          have HJ := Lib.hid hJ
          clear hJ
          refine rl_start (S := fun _ _ => True) (by kernel_rfl) (trivial) (fun hC hS => ?_)
          refine rl_pure 0 _ (.slice mad 0 mc) (some 62) rfl (by kernel_rfl) (by kernel_rfl) (by kernel_rfl) (by kernel_rfl) (fun _ _ _ h => h) (fun _ _ => Iff.rfl) (by kernel_rfl) (fun w => by kernel_rfl) hC hS (fun hC hS => ?_)
          refine rl_pure 1 _ (.int .i64 (i : Int)) (some 63) rfl (by kernel_rfl) (by kernel_rfl) (by kernel_rfl) (by kernel_rfl) (fun _ _ _ h => h) (fun _ _ => Iff.rfl) (by kernel_rfl) (fun w => by kernel_rfl) hC hS (fun hC hS => ?_)
          refine rl_pure 4 _ (.slice lad i lc) (some 66) rfl (by kernel_rfl) (by kernel_rfl) (by kernel_rfl) (by kernel_rfl) (fun _ _ _ h => h) (fun _ _ => Iff.rfl) (by kernel_rfl) (fun w => by kernel_rfl) hC hS (fun hC hS => ?_)
          refine rl_pure 5 _ (.int .i64 ((0 : Nat) : Int)) (some 67) rfl (by kernel_rfl) (by kernel_rfl) (by kernel_rfl) (by kernel_rfl) (fun _ _ _ h => h) (fun _ _ => Iff.rfl) (by kernel_rfl) (fun w => by kernel_rfl) hC hS (fun hC hS => ?_)
          refine rl_pure 6 _ (.slice qa (i - 0) (lc - 0)) (some 68) rfl (by kernel_rfl) (by kernel_rfl) (by kernel_rfl) (by kernel_rfl) (fun _ _ _ h => h) (fun _ _ => Iff.rfl) (by kernel_rfl) (fun w => by rw [← HQ.out]; exact rd_slice w _ _ _ 3 _ _ lad i lc 0 rfl (by kernel_rfl) (by kernel_rfl) Try.underlying39 (by kernel_rfl) (by omega) hlc) hC hS (fun hC hS => ?_)
          refine rl_all [2] (by kernel_rfl) (by simp) hC (rl_one _ ?_)
          refine rl_val 2 _ (.slice (some ⟨w8.drew.heap.size, 0, none⟩) 1 1) (w8.drew.alloc (.cells #[.int .i64 (i : Int)] 3)) (some 64) rfl (by kernel_rfl) (by kernel_rfl) (by kernel_rfl) ?_
          refine rl_and (trivial) (fun hS hC => ?_)
          refine rl_all [3] (by kernel_rfl) (by simp) hC (rl_one _ ?_)
          refine rl_law 3 _ (some 65) rfl (by kernel_rfl) (by kernel_rfl) (R := fun v' w' => w'.ownsRow wo.heap.size 3 1 v' (0 + 1) ((((srt Op.bytesLess (keyB l) 0 i).take 0).map iv) ++ [.int .i64 (i : Int)]) ∧ (w8.drew.alloc (.cells #[.int .i64 (i : Int)] 3)).grownBy w' (Value.slice mad 0 mc).ownBlock) (fun KK hKK => wp_appV Try.underlying39 info_int rfl (by decide) (by decide) (w8.drew.alloc (.cells #[.int .i64 (i : Int)] 3)) (.tmp 62) (.tmp 64) rfl wo.heap.size (.slice mad 0 mc) 0 (((srt Op.bytesLess (keyB l) 0 i).take 0).map iv) (by kernel_rfl) (World.ownsRow.alloc (World.ownsRow.drew HM.out) _) (some ⟨w8.drew.heap.size, 0, none⟩) 1 1 [.int .i64 (i : Int)] (by kernel_rfl) rfl (rdv_new _ _ _) (by intro u hu; rw [List.mem_singleton.1 hu]; rfl) nofun (by omega) (by have := hsz8; simp; omega) (fun v' w' h1 h2 => hKK v' w' ⟨h1, h2⟩)) ?_
          rintro v9 W9 ⟨ho9, hg9⟩
          have HB9 := Lib.hid (show Below wo.heap.size wo W9 from ((below_drew HB8.out).alloc hsz8 _).grown hg9 (by simp; omega) (fun g hg => (own_at HM.out hg).1))
          refine rl_and (trivial) (fun hS hC => ?_)
          refine rl_all [7] (by kernel_rfl) (by simp) hC (rl_one _ ?_)
          refine rl_law 7 _ (some 69) rfl (by kernel_rfl) (by kernel_rfl) (R := fun v' w' => w'.ownsRow wo.heap.size 3 1 v' (0 + 1 + (i - 0)) ((((srt Op.bytesLess (keyB l) 0 i).take 0).map iv) ++ [.int .i64 (i : Int)] ++ (((srt Op.bytesLess (keyB l) 0 i).drop 0).map iv)) ∧ W9.grownBy w' v9.ownBlock) (fun KK hKK => wp_appV Try.underlying39 info_int rfl (by decide) (by decide) W9 (.tmp 65) (.tmp 68) rfl wo.heap.size v9 (0 + 1) ((((srt Op.bytesLess (keyB l) 0 i).take 0).map iv) ++ [.int .i64 (i : Int)]) (by kernel_rfl) ho9 qa (i - 0) (lc - 0) (((srt Op.bytesLess (keyB l) 0 i).drop 0).map iv) (by kernel_rfl) (by rw [List.length_map, List.length_drop, srt_len]; omega) (HDK.out _ HB9.out) (iv_one _) HNIL.out (by omega) HB9.out.size (fun v' w' h1 h2 => hKK v' w' ⟨h1, h2⟩)) ?_
          rintro va Wa ⟨hoa, hga⟩
          refine rl_and (trivial) (fun hS hC => ?_)
          refine rl_pure 8 _ (va) (some 5) rfl (by kernel_rfl) (by kernel_rfl) (by kernel_rfl) (by kernel_rfl) (fun _ _ _ h => h) (fun _ _ => Iff.rfl) (by kernel_rfl) (fun w => by kernel_rfl) hC hS (fun hC hS => ?_)
          refine rl_done (by kernel_rfl) ?_ _
          have hbW : Below wo.heap.size wo Wa := HB9.out.grown hga HB9.out.size (fun g hg => (own_at ho9 hg).1)
          have HF := Lib.hid (HX1.out Wa va hbW (own_base hoa (B' := w.heap.size) HB.out.size))
          clear hS hC hoa hga ho9 hg9 hbW
          refine HJ.out _ _ ?_
          clear HJ
          simp only [Act.put, List.setIfInBounds_toArray, List.set_cons_zero, List.set_cons_succ]
          go_wp2_with fail
          go_roundg g
          case rel => exact HF.out
          case measure => omega
    · obtain rfl : i = n := by omega
      have hjz : ¬ (i : Int) < (i : Int) := by omega
      have HE := Lib.hid (HEND.out _ _ HO.out HB.out)
      go_wp2_with fail
      exact HE.out
set_option maxHeartbeats 8000000 in
set_option maxRecDepth 100000 in
theorem place_short (ad : Option Addr) (n cap : Nat) (l : List ByteArray) (w : World) (hn : l.length = n) (hm : n ≤ 1000000) (hz : ∀ s ∈ l, s.size ≤ 1000000000) (hr : RdV w ad (sv l)) :
    Calls Try.prog 27 #[.slice ad n cap, .bool true] w (PlaceP shortL (keyB l) n w) := by
  have HR := Lib.hid (fun W (h : Below w.heap.size w W) => hr.on h)
  have HN := Lib.hid hn
  have HS0 := Lib.hid (show PO shortL (keyB l) n w n (.slice none 0 0) (.int .i64 0) w from ⟨0, Nat.zero_le _, by omega, rfl, by rw [srt_zero]; exact World.ownsRow_nil _ _ _ _, Below.refl _ _⟩)
  have HEND := Lib.hid (fun (v : Value) (W : World) (ho : W.ownsRow w.heap.size 3 1 v n ((srt shortL (keyB l) 0 n).map iv)) (hb : Below w.heap.size w W) => show PlaceP shortL (keyB l) n w (.returned v) W from by
    obtain ⟨a, c, rfl, hc, hrd, _, hab, _⟩ := own_viewN ho
    exact ⟨a, c, rfl, hc, hrd, fun x hx => (hab x hx).1, hb⟩)
  clear hr hn
  generalize hTP : PlaceP shortL (keyB l) n w = TP at *
  go_enter Try.func27, Try.ntmps27
  go_wp2_with fail
  clear hTP
  go_loopg [5, 6] n (fun g v i wr => PO shortL (keyB l) n w g v i wr)
  case atStart => exact HS0.out
  case round =>
    obtain ⟨i, hin, hig, rfl, ho, hb⟩ := hrel
    obtain ⟨wo, hwo⟩ : ∃ x, x = wr := ⟨_, rfl⟩
    subst hwo
    have HO := Lib.hid ho; have HB := Lib.hid hb
    clear ho hb
    by_cases hlt : i < n
    · obtain ⟨g, rfl⟩ : ∃ k, gk = k + 1 := ⟨gk - 1, by omega⟩
      have hjz : (i : Int) < (n : Int) := by omega
      have hi0 : (0 : Int) ≤ (i : Int) := by omega
      obtain ⟨lad, lc, hv, hlc, hlr, _, _, hlz⟩ := own_viewN HO.out
      subst hv
      have HLR := Lib.hid hlr
      clear hlr
      go_wp2_with fail
      go_loopg [7] i (fun g kv W => PI shortL (keyB l) i wo g kv W)
      case atStart => exact ⟨i, Nat.le_refl _, Nat.le_refl _, rfl, (fun x hx => by rw [List.drop_of_length_le (by rw [srt_len]; exact Nat.le_refl _)] at hx; cases hx), Below.refl _ _⟩
      case round =>
        obtain ⟨k, hki, hkg, rfl, hd, hbq⟩ := hrel
        have HD := Lib.hid hd; have HBQ := Lib.hid hbq
        clear hd hbq
        have HEX := Lib.hid (fun (W : World) (v : Value) (h1 : ∀ y, 0 < k → (srt shortL (keyB l) 0 i)[k - 1]? = some y → shortL (keyB l i) (keyB l y) = false) (hb : Below wo.heap.size wo W) (ho : W.ownsRow w.heap.size 3 1 v (k + 1 + (i - k)) (((srt shortL (keyB l) 0 i).take k).map iv ++ [.int .i64 (i : Int)] ++ ((srt shortL (keyB l) 0 i).drop k).map iv)) => show PO shortL (keyB l) n w g v (.int .i64 ((i : Int) + 1)) W from by
          refine ⟨i + 1, by omega, by omega, rfl, ?_, HB.out.trans (hb.mono HB.out.size)⟩
          rw [← srt_insert sto_short (keyB l) i k hki HD.out h1]
          rw [show i + 1 = k + 1 + (i - k) by omega]
          simpa [iv] using ho)
        have HFIN := Lib.hid (show True from trivial)
        by_cases hk0 : 0 < k
        · obtain ⟨k, rfl⟩ : ∃ j, k = j + 1 := ⟨k - 1, by omega⟩
          obtain ⟨g2, rfl⟩ : ∃ j, gk = j + 1 := ⟨gk - 1, by omega⟩
          have hkz : (0 : Int) < (k : Int) + 1 := by omega
          have hkz2 : (k : Int) < (i : Int) := by omega
          have hkz3 : (0 : Int) ≤ (k : Int) := by omega
          have hS := srt_lt shortL (keyB l) i k (by omega)
          have hlq := HLR.out.on HBQ.out
          obtain ⟨lb, lo, rfl, _, hc1⟩ := hlq k (by rw [List.length_map, srt_len]; omega)
          rw [srt_at _ _ _ _ (by omega)] at hc1
          have hnq := HR.out wr (HB.out.trans (HBQ.out.mono HB.out.size))
          obtain ⟨nb, no, rfl, _, hc2⟩ := hnq i (by rw [sv_len, HN.out]; exact hlt)
          have hc3 := hnq.at ((srt shortL (keyB l) 0 i).getD k 0) (by rw [sv_len, HN.out]; omega)
          rw [sv_get _ _ (by rw [HN.out]; exact hlt)] at hc2
          rw [sv_get _ _ (by rw [HN.out]; omega)] at hc3
          have hkey : shortL (keyB l i) (keyB l ((srt shortL (keyB l) 0 i).getD k 0)) = shortL (l.getD i ByteArray.empty).toList (l.getD ((srt shortL (keyB l) 0 i).getD k 0) ByteArray.empty).toList := rfl
          have hSn : (((srt shortL (keyB l) 0 i).getD k 0 : Nat) : Int) < (n : Int) := by omega
          have hS0 : (0 : Int) ≤ (((srt shortL (keyB l) 0 i).getD k 0 : Nat) : Int) := by omega
          have hki2 : k < i := by omega
          have hZn0 : (srt shortL (keyB l) 0 i).getD k 0 < n := by omega
          have PSTEP := Lib.hid (fun W ht h => PI.step (W := W) (g := g2) (by omega) hkg HD.out HBQ.out ht h)
          have HGET := Lib.hid (show (srt shortL (keyB l) 0 i)[k + 1 - 1]? = some ((srt shortL (keyB l) 0 i).getD k 0) by
            have : k < (srt shortL (keyB l) 0 i).length := by rw [srt_len]; omega
            simp [List.getD, this])
          have hnb : nb < wr.heap.size := hnq.lt _ rfl (by rw [sv_len, HN.out]; omega)
          have hlb : lb < wr.heap.size := hlq.lt _ rfl (by rw [List.length_map, srt_len]; omega)
          have hzX : (l.getD i ByteArray.empty).size ≤ 1000000000 := hz _ (getD_memB (by rw [HN.out]; exact hlt))
          have hzY : (l.getD ((srt shortL (keyB l) 0 i).getD k 0) ByteArray.empty).size ≤ 1000000000 := hz _ (getD_memB (by rw [HN.out]; omega))
          generalize hX : l.getD i ByteArray.empty = X at *
          generalize hY : l.getD ((srt shortL (keyB l) 0 i).getD k 0) ByteArray.empty = Y at *
          generalize hZZ : (srt shortL (keyB l) 0 i).getD k 0 = Z at *
          have hZn : Z < n := hZn0
          have HKEY := Lib.hid hkey
          have HNW := Lib.hid (show (1 : Nat) = 1 from rfl)
          clear hX hY hZZ hlq hnq hkey hZn0 hS hSn hS0
          go_wp2_with fail
          by_cases ht : shortL X.toList Y.toList = true
          · have HN2 := Lib.hid (fun W (h : Below wr.heap.size wr W) => PSTEP.out W (by rw [HKEY.out]; exact ht) h)
            refine rg_norm (fun J hJ => ?_)
            have HJ := Lib.hid hJ
            clear hJ
            refine wp_region_held_drew (S := fun W => Below wr.heap.size wr W) (by kernel_rfl) (below_drew (Below.refl _ _)) (fun hH => ?_)
            refine rg_pure 0 _ (.int .i64 ((k : Int) + 1)) (some 17) rfl (by kernel_rfl) (by kernel_rfl) (by kernel_rfl) (by kernel_rfl) (fun _ _ _ h => h) (by kernel_rfl) (fun w => by kernel_rfl) hH ?_
            refine rg_pure 1 _ (.bool true) (some 18) rfl (by kernel_rfl) (by kernel_rfl) (by kernel_rfl) (by kernel_rfl) (fun _ _ _ h => h) (by kernel_rfl) (fun w => rd_gtr w _ _ _ _ _ _ ((k : Int) + 1) 0 true rfl (by kernel_rfl) (by kernel_rfl) (decide_eq_true (by omega))) hH ?_
            refine rg_pure 2 _ (.bool true) (some 19) rfl (by kernel_rfl) (by kernel_rfl) (by kernel_rfl) (by kernel_rfl) (fun _ _ _ h => h) (by kernel_rfl) (fun w => by kernel_rfl) hH ?_
            refine rg_pure 3 _ (.bool true) (some 20) rfl (by kernel_rfl) (by kernel_rfl) (by kernel_rfl) (by kernel_rfl) (fun _ _ _ h => h) (by kernel_rfl) (fun w => by kernel_rfl) hH ?_
            refine rg_pure 4 _ (.bool true) (some 21) rfl (by kernel_rfl) (by kernel_rfl) (by kernel_rfl) (by kernel_rfl) (fun _ _ _ h => h) (by kernel_rfl) (fun w => by kernel_rfl) hH ?_
            refine rg_pure 5 _ (.slice (some ⟨nb, no, none⟩) n cap) (some 22) rfl (by kernel_rfl) (by kernel_rfl) (by kernel_rfl) (by kernel_rfl) (fun _ _ _ h => h) (by kernel_rfl) (fun w => by kernel_rfl) hH ?_
            refine rg_pure 6 _ (.int .i64 (i : Int)) (some 23) rfl (by kernel_rfl) (by kernel_rfl) (by kernel_rfl) (by kernel_rfl) (fun _ _ _ h => h) (by kernel_rfl) (fun w => by kernel_rfl) hH ?_
            refine rg_pure 7 _ (.pointer (some ⟨nb, no + i, none⟩)) (some 24) rfl (by kernel_rfl) (by kernel_rfl) (by kernel_rfl) (by kernel_rfl) (fun _ _ _ h => h) (by kernel_rfl) (fun w => rl_idx w _ _ _ _ _ 9 nb no n cap i i 1 rfl (by kernel_rfl) (by kernel_rfl) Try.underlying22 (by kernel_rfl) hlt (Nat.mul_one _)) hH ?_
            refine rg_load1 8 _ 9 (.tmp 24) ⟨nb, no + i, none⟩ (.string X) _ (some 25) rfl (by kernel_rfl) (by kernel_rfl) (by kernel_rfl) (by kernel_rfl) (fun _ _ _ h => h) (by kernel_rfl) rfl (by kernel_rfl) Try.underlying9 rfl (fun W hW => (hW.cell (p := ⟨nb, no + i, none⟩) hnb).trans hc2) hH ?_
            refine rg_pure 9 _ (.slice (some ⟨nb, no, none⟩) n cap) (some 26) rfl (by kernel_rfl) (by kernel_rfl) (by kernel_rfl) (by kernel_rfl) (fun _ _ _ h => h) (by kernel_rfl) (fun w => by kernel_rfl) hH ?_
            refine rg_pure 10 _ (.slice (some ⟨lb, lo, none⟩) i lc) (some 27) rfl (by kernel_rfl) (by kernel_rfl) (by kernel_rfl) (by kernel_rfl) (fun _ _ _ h => h) (by kernel_rfl) (fun w => by kernel_rfl) hH ?_
            refine rg_pure 11 _ (.int .i64 ((k : Int) + 1)) (some 28) rfl (by kernel_rfl) (by kernel_rfl) (by kernel_rfl) (by kernel_rfl) (fun _ _ _ h => h) (by kernel_rfl) (fun w => by kernel_rfl) hH ?_
            refine rg_pure 12 _ (.int .i64 (k : Int)) (some 29) rfl (by kernel_rfl) (by kernel_rfl) (by kernel_rfl) (by kernel_rfl) (fun _ _ _ h => h) (by kernel_rfl) (fun w => rd_sub w _ _ _ _ _ _ ((k : Int) + 1) 1 (k : Int) rfl (by kernel_rfl) (by kernel_rfl) (by omega) (by omega) (by omega)) hH ?_
            refine rg_pure 13 _ (.pointer (some ⟨lb, lo + k, none⟩)) (some 30) rfl (by kernel_rfl) (by kernel_rfl) (by kernel_rfl) (by kernel_rfl) (fun _ _ _ h => h) (by kernel_rfl) (fun w => rl_idx w _ _ _ _ _ 3 lb lo i lc k k 1 rfl (by kernel_rfl) (by kernel_rfl) Try.underlying39 (by kernel_rfl) hki2 (Nat.mul_one _)) hH ?_
            refine rg_load1 14 _ 3 (.tmp 30) ⟨lb, lo + k, none⟩ (.int .i64 ((Z : Nat) : Int)) _ (some 31) rfl (by kernel_rfl) (by kernel_rfl) (by kernel_rfl) (by kernel_rfl) (fun _ _ _ h => h) (by kernel_rfl) rfl (by kernel_rfl) Try.underlying3 rfl (fun W hW => (hW.cell (p := ⟨lb, lo + k, none⟩) hlb).trans hc1) hH ?_
            refine rg_pure 15 _ (.pointer (some ⟨nb, no + Z, none⟩)) (some 32) rfl (by kernel_rfl) (by kernel_rfl) (by kernel_rfl) (by kernel_rfl) (fun _ _ _ h => h) (by kernel_rfl) (fun w => rl_idx w _ _ _ _ _ 9 nb no n cap Z Z 1 rfl (by kernel_rfl) (by kernel_rfl) Try.underlying22 (by kernel_rfl) hZn (Nat.mul_one _)) hH ?_
            refine rg_load1 16 _ 9 (.tmp 32) ⟨nb, no + Z, none⟩ (.string Y) _ (some 33) rfl (by kernel_rfl) (by kernel_rfl) (by kernel_rfl) (by kernel_rfl) (fun _ _ _ h => h) (by kernel_rfl) rfl (by kernel_rfl) Try.underlying9 rfl (fun W hW => (hW.cell (p := ⟨nb, no + Z, none⟩) hnb).trans hc3) hH ?_
            refine rg_call 17 _ 34 _ _ _ _ #[.string X, .string Y] (some 34) rfl (by kernel_rfl) (by kernel_rfl) (by kernel_rfl) rfl (by kernel_rfl) Try.func34 (by kernel_rfl) (by kernel_rfl) (by kernel_rfl) (shortS_ht ht hzX hzY _) ?_
            rintro r' w' ⟨rfl, rfl⟩
            replace hH := hH
            refine ⟨_, rfl, hH, ?_⟩
            refine rg_pure 18 _ (.bool true) (some 35) rfl (by kernel_rfl) (by kernel_rfl) (by kernel_rfl) (by kernel_rfl) (fun _ _ _ h => h) (by kernel_rfl) (fun w => by kernel_rfl) hH ?_
            refine rg_pure 19 _ (.bool true) (some 36) rfl (by kernel_rfl) (by kernel_rfl) (by kernel_rfl) (by kernel_rfl) (fun _ _ _ h => h) (by kernel_rfl) (fun w => by kernel_rfl) hH ?_
            refine rg_skip 20 _ (some 37) rfl (by kernel_rfl) (by kernel_rfl) (by kernel_rfl) (by kernel_rfl) (fun _ _ _ h => h) (by kernel_rfl) hH ?_
            refine rg_skip 21 _ (some 38) rfl (by kernel_rfl) (by kernel_rfl) (by kernel_rfl) (by kernel_rfl) (fun _ _ _ h => h) (by kernel_rfl) hH ?_
            refine rg_skip 22 _ (some 39) rfl (by kernel_rfl) (by kernel_rfl) (by kernel_rfl) (by kernel_rfl) (fun _ _ _ h => h) (by kernel_rfl) hH ?_
            refine rg_skip 23 _ (some 40) rfl (by kernel_rfl) (by kernel_rfl) (by kernel_rfl) (by kernel_rfl) (fun _ _ _ h => h) (by kernel_rfl) hH ?_
            refine rg_skip 24 _ (some 41) rfl (by kernel_rfl) (by kernel_rfl) (by kernel_rfl) (by kernel_rfl) (fun _ _ _ h => h) (by kernel_rfl) hH ?_
            refine rg_skip 25 _ (some 42) rfl (by kernel_rfl) (by kernel_rfl) (by kernel_rfl) (by kernel_rfl) (fun _ _ _ h => h) (by kernel_rfl) hH ?_
            refine rg_skip 26 _ (some 43) rfl (by kernel_rfl) (by kernel_rfl) (by kernel_rfl) (by kernel_rfl) (fun _ _ _ h => h) (by kernel_rfl) hH ?_
            refine rg_skip 27 _ (some 44) rfl (by kernel_rfl) (by kernel_rfl) (by kernel_rfl) (by kernel_rfl) (fun _ _ _ h => h) (by kernel_rfl) hH ?_
            refine rg_skip 28 _ (some 45) rfl (by kernel_rfl) (by kernel_rfl) (by kernel_rfl) (by kernel_rfl) (fun _ _ _ h => h) (by kernel_rfl) hH ?_
            refine rg_skip 29 _ (some 46) rfl (by kernel_rfl) (by kernel_rfl) (by kernel_rfl) (by kernel_rfl) (fun _ _ _ h => h) (by kernel_rfl) hH ?_
            refine rg_skip 30 _ (some 47) rfl (by kernel_rfl) (by kernel_rfl) (by kernel_rfl) (by kernel_rfl) (fun _ _ _ h => h) (by kernel_rfl) hH ?_
            refine rg_skip 31 _ (some 48) rfl (by kernel_rfl) (by kernel_rfl) (by kernel_rfl) (by kernel_rfl) (fun _ _ _ h => h) (by kernel_rfl) hH ?_
            refine rg_skip 32 _ (some 49) rfl (by kernel_rfl) (by kernel_rfl) (by kernel_rfl) (by kernel_rfl) (fun _ _ _ h => h) (by kernel_rfl) hH ?_
            refine rg_skip 33 _ (some 50) rfl (by kernel_rfl) (by kernel_rfl) (by kernel_rfl) (by kernel_rfl) (fun _ _ _ h => h) (by kernel_rfl) hH ?_
            refine rg_skip 34 _ (some 51) rfl (by kernel_rfl) (by kernel_rfl) (by kernel_rfl) (by kernel_rfl) (fun _ _ _ h => h) (by kernel_rfl) hH ?_
            refine rg_skip 35 _ (some 52) rfl (by kernel_rfl) (by kernel_rfl) (by kernel_rfl) (by kernel_rfl) (fun _ _ _ h => h) (by kernel_rfl) hH ?_
            refine rg_skip 36 _ (some 53) rfl (by kernel_rfl) (by kernel_rfl) (by kernel_rfl) (by kernel_rfl) (fun _ _ _ h => h) (by kernel_rfl) hH ?_
            refine rg_pure 37 _ (.bool true) (some 54) rfl (by kernel_rfl) (by kernel_rfl) (by kernel_rfl) (by kernel_rfl) (fun _ _ _ h => h) (by kernel_rfl) (fun w => by kernel_rfl) hH ?_
            refine rg_pure 38 _ (.bool true) (some 55) rfl (by kernel_rfl) (by kernel_rfl) (by kernel_rfl) (by kernel_rfl) (fun _ _ _ h => h) (by kernel_rfl) (fun w => by kernel_rfl) hH ?_
            refine wpAnyH_done (by kernel_rfl) ?_ _
            refine HJ.out _ _ ?_
            clear HJ
            simp only [Act.put, List.setIfInBounds_toArray, List.set_cons_zero, List.set_cons_succ]
            have HF := Lib.hid (HN2.out _ hH)
            clear hH
            go_wp2_with fail
            go_roundg g2
            case rel => exact HF.out
            case measure => omega
          · have ht : shortL X.toList Y.toList = false := by simpa using ht
            have HX0 := Lib.hid (show ∀ y, 0 < k + 1 → (srt shortL (keyB l) 0 i)[k + 1 - 1]? = some y → shortL (keyB l i) (keyB l y) = false from fun y _ hy => by
              rw [HGET.out] at hy; cases hy; rw [HKEY.out]; exact ht)
            refine rg_norm (fun J hJ => ?_)
            have HJ := Lib.hid hJ
            clear hJ
            refine wp_region_held_drew (S := fun W => Below wr.heap.size wr W) (by kernel_rfl) (below_drew (Below.refl _ _)) (fun hH => ?_)
            refine rg_pure 0 _ (.int .i64 ((k : Int) + 1)) (some 17) rfl (by kernel_rfl) (by kernel_rfl) (by kernel_rfl) (by kernel_rfl) (fun _ _ _ h => h) (by kernel_rfl) (fun w => by kernel_rfl) hH ?_
            refine rg_pure 1 _ (.bool true) (some 18) rfl (by kernel_rfl) (by kernel_rfl) (by kernel_rfl) (by kernel_rfl) (fun _ _ _ h => h) (by kernel_rfl) (fun w => rd_gtr w _ _ _ _ _ _ ((k : Int) + 1) 0 true rfl (by kernel_rfl) (by kernel_rfl) (decide_eq_true (by omega))) hH ?_
            refine rg_pure 2 _ (.bool true) (some 19) rfl (by kernel_rfl) (by kernel_rfl) (by kernel_rfl) (by kernel_rfl) (fun _ _ _ h => h) (by kernel_rfl) (fun w => by kernel_rfl) hH ?_
            refine rg_pure 3 _ (.bool true) (some 20) rfl (by kernel_rfl) (by kernel_rfl) (by kernel_rfl) (by kernel_rfl) (fun _ _ _ h => h) (by kernel_rfl) (fun w => by kernel_rfl) hH ?_
            refine rg_pure 4 _ (.bool true) (some 21) rfl (by kernel_rfl) (by kernel_rfl) (by kernel_rfl) (by kernel_rfl) (fun _ _ _ h => h) (by kernel_rfl) (fun w => by kernel_rfl) hH ?_
            refine rg_pure 5 _ (.slice (some ⟨nb, no, none⟩) n cap) (some 22) rfl (by kernel_rfl) (by kernel_rfl) (by kernel_rfl) (by kernel_rfl) (fun _ _ _ h => h) (by kernel_rfl) (fun w => by kernel_rfl) hH ?_
            refine rg_pure 6 _ (.int .i64 (i : Int)) (some 23) rfl (by kernel_rfl) (by kernel_rfl) (by kernel_rfl) (by kernel_rfl) (fun _ _ _ h => h) (by kernel_rfl) (fun w => by kernel_rfl) hH ?_
            refine rg_pure 7 _ (.pointer (some ⟨nb, no + i, none⟩)) (some 24) rfl (by kernel_rfl) (by kernel_rfl) (by kernel_rfl) (by kernel_rfl) (fun _ _ _ h => h) (by kernel_rfl) (fun w => rl_idx w _ _ _ _ _ 9 nb no n cap i i 1 rfl (by kernel_rfl) (by kernel_rfl) Try.underlying22 (by kernel_rfl) hlt (Nat.mul_one _)) hH ?_
            refine rg_load1 8 _ 9 (.tmp 24) ⟨nb, no + i, none⟩ (.string X) _ (some 25) rfl (by kernel_rfl) (by kernel_rfl) (by kernel_rfl) (by kernel_rfl) (fun _ _ _ h => h) (by kernel_rfl) rfl (by kernel_rfl) Try.underlying9 rfl (fun W hW => (hW.cell (p := ⟨nb, no + i, none⟩) hnb).trans hc2) hH ?_
            refine rg_pure 9 _ (.slice (some ⟨nb, no, none⟩) n cap) (some 26) rfl (by kernel_rfl) (by kernel_rfl) (by kernel_rfl) (by kernel_rfl) (fun _ _ _ h => h) (by kernel_rfl) (fun w => by kernel_rfl) hH ?_
            refine rg_pure 10 _ (.slice (some ⟨lb, lo, none⟩) i lc) (some 27) rfl (by kernel_rfl) (by kernel_rfl) (by kernel_rfl) (by kernel_rfl) (fun _ _ _ h => h) (by kernel_rfl) (fun w => by kernel_rfl) hH ?_
            refine rg_pure 11 _ (.int .i64 ((k : Int) + 1)) (some 28) rfl (by kernel_rfl) (by kernel_rfl) (by kernel_rfl) (by kernel_rfl) (fun _ _ _ h => h) (by kernel_rfl) (fun w => by kernel_rfl) hH ?_
            refine rg_pure 12 _ (.int .i64 (k : Int)) (some 29) rfl (by kernel_rfl) (by kernel_rfl) (by kernel_rfl) (by kernel_rfl) (fun _ _ _ h => h) (by kernel_rfl) (fun w => rd_sub w _ _ _ _ _ _ ((k : Int) + 1) 1 (k : Int) rfl (by kernel_rfl) (by kernel_rfl) (by omega) (by omega) (by omega)) hH ?_
            refine rg_pure 13 _ (.pointer (some ⟨lb, lo + k, none⟩)) (some 30) rfl (by kernel_rfl) (by kernel_rfl) (by kernel_rfl) (by kernel_rfl) (fun _ _ _ h => h) (by kernel_rfl) (fun w => rl_idx w _ _ _ _ _ 3 lb lo i lc k k 1 rfl (by kernel_rfl) (by kernel_rfl) Try.underlying39 (by kernel_rfl) hki2 (Nat.mul_one _)) hH ?_
            refine rg_load1 14 _ 3 (.tmp 30) ⟨lb, lo + k, none⟩ (.int .i64 ((Z : Nat) : Int)) _ (some 31) rfl (by kernel_rfl) (by kernel_rfl) (by kernel_rfl) (by kernel_rfl) (fun _ _ _ h => h) (by kernel_rfl) rfl (by kernel_rfl) Try.underlying3 rfl (fun W hW => (hW.cell (p := ⟨lb, lo + k, none⟩) hlb).trans hc1) hH ?_
            refine rg_pure 15 _ (.pointer (some ⟨nb, no + Z, none⟩)) (some 32) rfl (by kernel_rfl) (by kernel_rfl) (by kernel_rfl) (by kernel_rfl) (fun _ _ _ h => h) (by kernel_rfl) (fun w => rl_idx w _ _ _ _ _ 9 nb no n cap Z Z 1 rfl (by kernel_rfl) (by kernel_rfl) Try.underlying22 (by kernel_rfl) hZn (Nat.mul_one _)) hH ?_
            refine rg_load1 16 _ 9 (.tmp 32) ⟨nb, no + Z, none⟩ (.string Y) _ (some 33) rfl (by kernel_rfl) (by kernel_rfl) (by kernel_rfl) (by kernel_rfl) (fun _ _ _ h => h) (by kernel_rfl) rfl (by kernel_rfl) Try.underlying9 rfl (fun W hW => (hW.cell (p := ⟨nb, no + Z, none⟩) hnb).trans hc3) hH ?_
            refine rg_call 17 _ 34 _ _ _ _ #[.string X, .string Y] (some 34) rfl (by kernel_rfl) (by kernel_rfl) (by kernel_rfl) rfl (by kernel_rfl) Try.func34 (by kernel_rfl) (by kernel_rfl) (by kernel_rfl) (shortS_ht ht hzX hzY _) ?_
            rintro r' w' ⟨rfl, rfl⟩
            replace hH := hH
            refine ⟨_, rfl, hH, ?_⟩
            refine rg_pure 18 _ (.bool false) (some 35) rfl (by kernel_rfl) (by kernel_rfl) (by kernel_rfl) (by kernel_rfl) (fun _ _ _ h => h) (by kernel_rfl) (fun w => by kernel_rfl) hH ?_
            refine rg_pure 19 _ (.bool false) (some 36) rfl (by kernel_rfl) (by kernel_rfl) (by kernel_rfl) (by kernel_rfl) (fun _ _ _ h => h) (by kernel_rfl) (fun w => by kernel_rfl) hH ?_
            refine rg_pure 20 _ (.bool true) (some 37) rfl (by kernel_rfl) (by kernel_rfl) (by kernel_rfl) (by kernel_rfl) (fun _ _ _ h => h) (by kernel_rfl) (fun w => by kernel_rfl) hH ?_
            refine rg_pure 21 _ (.bool false) (some 38) rfl (by kernel_rfl) (by kernel_rfl) (by kernel_rfl) (by kernel_rfl) (fun _ _ _ h => h) (by kernel_rfl) (fun w => by kernel_rfl) hH ?_
            refine rg_pure 22 _ (.bool false) (some 39) rfl (by kernel_rfl) (by kernel_rfl) (by kernel_rfl) (by kernel_rfl) (fun _ _ _ h => h) (by kernel_rfl) (fun w => by kernel_rfl) hH ?_
            refine rg_skip 23 _ (some 40) rfl (by kernel_rfl) (by kernel_rfl) (by kernel_rfl) (by kernel_rfl) (fun _ _ _ h => h) (by kernel_rfl) hH ?_
            refine rg_skip 24 _ (some 41) rfl (by kernel_rfl) (by kernel_rfl) (by kernel_rfl) (by kernel_rfl) (fun _ _ _ h => h) (by kernel_rfl) hH ?_
            refine rg_skip 25 _ (some 42) rfl (by kernel_rfl) (by kernel_rfl) (by kernel_rfl) (by kernel_rfl) (fun _ _ _ h => h) (by kernel_rfl) hH ?_
            refine rg_skip 26 _ (some 43) rfl (by kernel_rfl) (by kernel_rfl) (by kernel_rfl) (by kernel_rfl) (fun _ _ _ h => h) (by kernel_rfl) hH ?_
            refine rg_skip 27 _ (some 44) rfl (by kernel_rfl) (by kernel_rfl) (by kernel_rfl) (by kernel_rfl) (fun _ _ _ h => h) (by kernel_rfl) hH ?_
            refine rg_skip 28 _ (some 45) rfl (by kernel_rfl) (by kernel_rfl) (by kernel_rfl) (by kernel_rfl) (fun _ _ _ h => h) (by kernel_rfl) hH ?_
            refine rg_skip 29 _ (some 46) rfl (by kernel_rfl) (by kernel_rfl) (by kernel_rfl) (by kernel_rfl) (fun _ _ _ h => h) (by kernel_rfl) hH ?_
            refine rg_skip 30 _ (some 47) rfl (by kernel_rfl) (by kernel_rfl) (by kernel_rfl) (by kernel_rfl) (fun _ _ _ h => h) (by kernel_rfl) hH ?_
            refine rg_skip 31 _ (some 48) rfl (by kernel_rfl) (by kernel_rfl) (by kernel_rfl) (by kernel_rfl) (fun _ _ _ h => h) (by kernel_rfl) hH ?_
            refine rg_skip 32 _ (some 49) rfl (by kernel_rfl) (by kernel_rfl) (by kernel_rfl) (by kernel_rfl) (fun _ _ _ h => h) (by kernel_rfl) hH ?_
            refine rg_skip 33 _ (some 50) rfl (by kernel_rfl) (by kernel_rfl) (by kernel_rfl) (by kernel_rfl) (fun _ _ _ h => h) (by kernel_rfl) hH ?_
            refine rg_skip 34 _ (some 51) rfl (by kernel_rfl) (by kernel_rfl) (by kernel_rfl) (by kernel_rfl) (fun _ _ _ h => h) (by kernel_rfl) hH ?_
            refine rg_skip 35 _ (some 52) rfl (by kernel_rfl) (by kernel_rfl) (by kernel_rfl) (by kernel_rfl) (fun _ _ _ h => h) (by kernel_rfl) hH ?_
            refine rg_pure 36 _ (.bool false) (some 53) rfl (by kernel_rfl) (by kernel_rfl) (by kernel_rfl) (by kernel_rfl) (fun _ _ _ h => h) (by kernel_rfl) (fun w => by kernel_rfl) hH ?_
            refine rg_pure 37 _ (.bool false) (some 54) rfl (by kernel_rfl) (by kernel_rfl) (by kernel_rfl) (by kernel_rfl) (fun _ _ _ h => h) (by kernel_rfl) (fun w => by kernel_rfl) hH ?_
            refine rg_pure 38 _ (.bool false) (some 55) rfl (by kernel_rfl) (by kernel_rfl) (by kernel_rfl) (by kernel_rfl) (fun _ _ _ h => h) (by kernel_rfl) (fun w => by kernel_rfl) hH ?_
            refine wpAnyH_done (by kernel_rfl) ?_ _
            refine HJ.out _ _ ?_
            clear HJ
            simp only [Act.put, List.setIfInBounds_toArray, List.set_cons_zero, List.set_cons_succ]
            have HH := Lib.hid (HBQ.out.trans (hH.mono HBQ.out.size))
            clear hH
            have hlW := HLR.out.on HH.out
            have HTK := Lib.hid (show RdV _ (some ⟨lb, lo, none⟩) (((srt shortL (keyB l) 0 i).take (k + 1)).map iv) from by rw [List.map_take]; exact hlW.take (k + 1))
            have HHB := Lib.hid HH.out
            have HX1 := Lib.hid (fun W v hb ho => HEX.out W v HX0.out hb ho)
            clear hlW
            go_wp2_with (at_builtin; refine wpl_clone1 Try.underlying39 info_int rfl (by decide) _ rfl _ _ rfl (some ⟨lb, lo, none⟩) (k + 1) lc (((srt shortL (keyB l) 0 i).take (k + 1)).map iv) (iv_one _) rfl rfl (by rw [List.length_map, List.length_take, srt_len]; omega) HTK.out (by omega) ?_)
            intro v8 w8 ho8 hb8
            obtain ⟨mad, mc, hv8, hmc, _⟩ := own_viewN ho8
            subst hv8
            have HM := Lib.hid (show w8.ownsRow wo.heap.size 3 1 (.slice mad (k + 1) mc) (k + 1) (((srt shortL (keyB l) 0 i).take (k + 1)).map iv) from by first | exact own_base ho8 HHB.out.size | (rw [List.map_take]; exact own_base ho8 HHB.out.size))
            have HB8 := Lib.hid (below_on HHB.out hb8)
            have hsz8 : wo.heap.size ≤ w8.heap.size := HB8.out.size
            have HDK := Lib.hid (fun W (h : Below wo.heap.size wo W) => show RdV W (if lc = (k + 1) then ((some ⟨lb, lo, none⟩) : Option Addr) else Option.map (fun x : Addr => x.add (k + 1)) (some ⟨lb, lo, none⟩)) (((srt shortL (keyB l) 0 i).drop (k + 1)).map iv) from by rw [List.map_drop]; exact rdv_from (HLR.out.on h) (by rw [List.length_map, srt_len]) (by omega) hlc)
            have HNIL := Lib.hid (show (if lc = (k + 1) then ((some ⟨lb, lo, none⟩) : Option Addr) else Option.map (fun x : Addr => x.add (k + 1)) (some ⟨lb, lo, none⟩)) = none → lc - (k + 1) = 0 from fun h => by
              have h0 : ((some ⟨lb, lo, none⟩) : Option Addr) = none := by split at h <;> simp_all
              have := hlz h0; omega)
            obtain ⟨qa, hqa⟩ : ∃ q, (if lc = (k + 1) then ((some ⟨lb, lo, none⟩) : Option Addr) else Option.map (fun x : Addr => x.add (k + 1)) (some ⟨lb, lo, none⟩)) = q := ⟨_, rfl⟩
            have HQ := Lib.hid hqa
            rw [hqa] at HDK HNIL
            clear ho8 hb8 hqa
            go_upto_region 9 with fail
            refine rc_norm (fun J hJ => ?_)
            have HJ := Lib.hid hJ
            clear hJ
            refine rl_start (S := fun _ _ => True) (by kernel_rfl) (trivial) (fun hC hS => ?_)
            refine rl_pure 0 _ (.slice mad (k + 1) mc) (some 62) rfl (by kernel_rfl) (by kernel_rfl) (by kernel_rfl) (by kernel_rfl) (fun _ _ _ h => h) (fun _ _ => Iff.rfl) (by kernel_rfl) (fun w => by kernel_rfl) hC hS (fun hC hS => ?_)
            refine rl_pure 1 _ (.int .i64 (i : Int)) (some 63) rfl (by kernel_rfl) (by kernel_rfl) (by kernel_rfl) (by kernel_rfl) (fun _ _ _ h => h) (fun _ _ => Iff.rfl) (by kernel_rfl) (fun w => by kernel_rfl) hC hS (fun hC hS => ?_)
            refine rl_pure 4 _ (.slice (some ⟨lb, lo, none⟩) i lc) (some 66) rfl (by kernel_rfl) (by kernel_rfl) (by kernel_rfl) (by kernel_rfl) (fun _ _ _ h => h) (fun _ _ => Iff.rfl) (by kernel_rfl) (fun w => by kernel_rfl) hC hS (fun hC hS => ?_)
            refine rl_pure 5 _ (.int .i64 (((k + 1) : Nat) : Int)) (some 67) rfl (by kernel_rfl) (by kernel_rfl) (by kernel_rfl) (by kernel_rfl) (fun _ _ _ h => h) (fun _ _ => Iff.rfl) (by kernel_rfl) (fun w => by kernel_rfl) hC hS (fun hC hS => ?_)
            refine rl_pure 6 _ (.slice qa (i - (k + 1)) (lc - (k + 1))) (some 68) rfl (by kernel_rfl) (by kernel_rfl) (by kernel_rfl) (by kernel_rfl) (fun _ _ _ h => h) (fun _ _ => Iff.rfl) (by kernel_rfl) (fun w => by rw [← HQ.out]; exact rd_slice w _ _ _ 3 _ _ (some ⟨lb, lo, none⟩) i lc (k + 1) rfl (by kernel_rfl) (by kernel_rfl) Try.underlying39 (by kernel_rfl) (by omega) hlc) hC hS (fun hC hS => ?_)
            refine rl_all [2] (by kernel_rfl) (by simp) hC (rl_one _ ?_)
            refine rl_val 2 _ (.slice (some ⟨w8.drew.heap.size, 0, none⟩) 1 1) (w8.drew.alloc (.cells #[.int .i64 (i : Int)] 3)) (some 64) rfl (by kernel_rfl) (by kernel_rfl) (by kernel_rfl) ?_
            refine rl_and (trivial) (fun hS hC => ?_)
            refine rl_all [3] (by kernel_rfl) (by simp) hC (rl_one _ ?_)
            refine rl_law 3 _ (some 65) rfl (by kernel_rfl) (by kernel_rfl) (R := fun v' w' => w'.ownsRow wo.heap.size 3 1 v' ((k + 1) + 1) ((((srt shortL (keyB l) 0 i).take (k + 1)).map iv) ++ [.int .i64 (i : Int)]) ∧ (w8.drew.alloc (.cells #[.int .i64 (i : Int)] 3)).grownBy w' (Value.slice mad (k + 1) mc).ownBlock) (fun KK hKK => wp_appV Try.underlying39 info_int rfl (by decide) (by decide) (w8.drew.alloc (.cells #[.int .i64 (i : Int)] 3)) (.tmp 62) (.tmp 64) rfl wo.heap.size (.slice mad (k + 1) mc) (k + 1) (((srt shortL (keyB l) 0 i).take (k + 1)).map iv) (by kernel_rfl) (World.ownsRow.alloc (World.ownsRow.drew HM.out) _) (some ⟨w8.drew.heap.size, 0, none⟩) 1 1 [.int .i64 (i : Int)] (by kernel_rfl) rfl (rdv_new _ _ _) (by intro u hu; rw [List.mem_singleton.1 hu]; rfl) nofun (by omega) (by have := hsz8; simp; omega) (fun v' w' h1 h2 => hKK v' w' ⟨h1, h2⟩)) ?_
            rintro v9 W9 ⟨ho9, hg9⟩
            have HB9 := Lib.hid (show Below wo.heap.size wo W9 from ((below_drew HB8.out).alloc hsz8 _).grown hg9 (by simp; omega) (fun g hg => (own_at HM.out hg).1))
            refine rl_and (trivial) (fun hS hC => ?_)
            refine rl_all [7] (by kernel_rfl) (by simp) hC (rl_one _ ?_)
            refine rl_law 7 _ (some 69) rfl (by kernel_rfl) (by kernel_rfl) (R := fun v' w' => w'.ownsRow wo.heap.size 3 1 v' ((k + 1) + 1 + (i - (k + 1))) ((((srt shortL (keyB l) 0 i).take (k + 1)).map iv) ++ [.int .i64 (i : Int)] ++ (((srt shortL (keyB l) 0 i).drop (k + 1)).map iv)) ∧ W9.grownBy w' v9.ownBlock) (fun KK hKK => wp_appV Try.underlying39 info_int rfl (by decide) (by decide) W9 (.tmp 65) (.tmp 68) rfl wo.heap.size v9 ((k + 1) + 1) ((((srt shortL (keyB l) 0 i).take (k + 1)).map iv) ++ [.int .i64 (i : Int)]) (by kernel_rfl) ho9 qa (i - (k + 1)) (lc - (k + 1)) (((srt shortL (keyB l) 0 i).drop (k + 1)).map iv) (by kernel_rfl) (by rw [List.length_map, List.length_drop, srt_len]; omega) (HDK.out _ HB9.out) (iv_one _) HNIL.out (by omega) HB9.out.size (fun v' w' h1 h2 => hKK v' w' ⟨h1, h2⟩)) ?_
            rintro va Wa ⟨hoa, hga⟩
            refine rl_and (trivial) (fun hS hC => ?_)
            refine rl_pure 8 _ (va) (some 5) rfl (by kernel_rfl) (by kernel_rfl) (by kernel_rfl) (by kernel_rfl) (fun _ _ _ h => h) (fun _ _ => Iff.rfl) (by kernel_rfl) (fun w => by kernel_rfl) hC hS (fun hC hS => ?_)
            refine rl_done (by kernel_rfl) ?_ _
            have hbW : Below wo.heap.size wo Wa := HB9.out.grown hga HB9.out.size (fun g hg => (own_at ho9 hg).1)
            have HF := Lib.hid (HX1.out Wa va hbW (own_base hoa (B' := w.heap.size) HB.out.size))
            clear hS hC hoa hga ho9 hg9 hbW
            refine HJ.out _ _ ?_
            clear HJ
            simp only [Act.put, List.setIfInBounds_toArray, List.set_cons_zero, List.set_cons_succ]
            go_wp2_with fail
            go_roundg g
            case rel => exact HF.out
            case measure => omega
        · obtain rfl : k = 0 := by omega
          have HX0 := Lib.hid (show ∀ y, 0 < 0 → (srt shortL (keyB l) 0 i)[0 - 1]? = some y → shortL (keyB l i) (keyB l y) = false from fun y h => absurd h (by decide))
          go_wp2_with fail
          refine rg_norm (fun J hJ => ?_)
          have HJ := Lib.hid hJ
          clear hJ
          refine wp_region_held_drew (S := fun W => Below wr.heap.size wr W) (by kernel_rfl) (below_drew (Below.refl _ _)) (fun hH => ?_)
          refine rg_pure 0 _ (.int .i64 0) (some 17) rfl (by kernel_rfl) (by kernel_rfl) (by kernel_rfl) (by kernel_rfl) (fun _ _ _ h => h) (by kernel_rfl) (fun w => by kernel_rfl) hH ?_
          refine rg_pure 1 _ (.bool false) (some 18) rfl (by kernel_rfl) (by kernel_rfl) (by kernel_rfl) (by kernel_rfl) (fun _ _ _ h => h) (by kernel_rfl) (fun w => rd_gtr w _ _ _ _ _ _ 0 0 false rfl (by kernel_rfl) (by kernel_rfl) (by decide)) hH ?_
          refine rg_pure 2 _ (.bool false) (some 19) rfl (by kernel_rfl) (by kernel_rfl) (by kernel_rfl) (by kernel_rfl) (fun _ _ _ h => h) (by kernel_rfl) (fun w => by kernel_rfl) hH ?_
          refine rg_skip 3 _ (some 20) rfl (by kernel_rfl) (by kernel_rfl) (by kernel_rfl) (by kernel_rfl) (fun _ _ _ h => h) (by kernel_rfl) hH ?_
          refine rg_skip 4 _ (some 21) rfl (by kernel_rfl) (by kernel_rfl) (by kernel_rfl) (by kernel_rfl) (fun _ _ _ h => h) (by kernel_rfl) hH ?_
          refine rg_skip 5 _ (some 22) rfl (by kernel_rfl) (by kernel_rfl) (by kernel_rfl) (by kernel_rfl) (fun _ _ _ h => h) (by kernel_rfl) hH ?_
          refine rg_skip 6 _ (some 23) rfl (by kernel_rfl) (by kernel_rfl) (by kernel_rfl) (by kernel_rfl) (fun _ _ _ h => h) (by kernel_rfl) hH ?_
          refine rg_skip 7 _ (some 24) rfl (by kernel_rfl) (by kernel_rfl) (by kernel_rfl) (by kernel_rfl) (fun _ _ _ h => h) (by kernel_rfl) hH ?_
          refine rg_skip 8 _ (some 25) rfl (by kernel_rfl) (by kernel_rfl) (by kernel_rfl) (by kernel_rfl) (fun _ _ _ h => h) (by kernel_rfl) hH ?_
          refine rg_skip 9 _ (some 26) rfl (by kernel_rfl) (by kernel_rfl) (by kernel_rfl) (by kernel_rfl) (fun _ _ _ h => h) (by kernel_rfl) hH ?_
          refine rg_skip 10 _ (some 27) rfl (by kernel_rfl) (by kernel_rfl) (by kernel_rfl) (by kernel_rfl) (fun _ _ _ h => h) (by kernel_rfl) hH ?_
          refine rg_skip 11 _ (some 28) rfl (by kernel_rfl) (by kernel_rfl) (by kernel_rfl) (by kernel_rfl) (fun _ _ _ h => h) (by kernel_rfl) hH ?_
          refine rg_skip 12 _ (some 29) rfl (by kernel_rfl) (by kernel_rfl) (by kernel_rfl) (by kernel_rfl) (fun _ _ _ h => h) (by kernel_rfl) hH ?_
          refine rg_skip 13 _ (some 30) rfl (by kernel_rfl) (by kernel_rfl) (by kernel_rfl) (by kernel_rfl) (fun _ _ _ h => h) (by kernel_rfl) hH ?_
          refine rg_skip 14 _ (some 31) rfl (by kernel_rfl) (by kernel_rfl) (by kernel_rfl) (by kernel_rfl) (fun _ _ _ h => h) (by kernel_rfl) hH ?_
          refine rg_skip 15 _ (some 32) rfl (by kernel_rfl) (by kernel_rfl) (by kernel_rfl) (by kernel_rfl) (fun _ _ _ h => h) (by kernel_rfl) hH ?_
          refine rg_skip 16 _ (some 33) rfl (by kernel_rfl) (by kernel_rfl) (by kernel_rfl) (by kernel_rfl) (fun _ _ _ h => h) (by kernel_rfl) hH ?_
          refine rg_skip 17 _ (some 34) rfl (by kernel_rfl) (by kernel_rfl) (by kernel_rfl) (by kernel_rfl) (fun _ _ _ h => h) (by kernel_rfl) hH ?_
          refine rg_skip 18 _ (some 35) rfl (by kernel_rfl) (by kernel_rfl) (by kernel_rfl) (by kernel_rfl) (fun _ _ _ h => h) (by kernel_rfl) hH ?_
          refine rg_skip 19 _ (some 36) rfl (by kernel_rfl) (by kernel_rfl) (by kernel_rfl) (by kernel_rfl) (fun _ _ _ h => h) (by kernel_rfl) hH ?_
          refine rg_skip 20 _ (some 37) rfl (by kernel_rfl) (by kernel_rfl) (by kernel_rfl) (by kernel_rfl) (fun _ _ _ h => h) (by kernel_rfl) hH ?_
          refine rg_skip 21 _ (some 38) rfl (by kernel_rfl) (by kernel_rfl) (by kernel_rfl) (by kernel_rfl) (fun _ _ _ h => h) (by kernel_rfl) hH ?_
          refine rg_skip 22 _ (some 39) rfl (by kernel_rfl) (by kernel_rfl) (by kernel_rfl) (by kernel_rfl) (fun _ _ _ h => h) (by kernel_rfl) hH ?_
          refine rg_skip 23 _ (some 40) rfl (by kernel_rfl) (by kernel_rfl) (by kernel_rfl) (by kernel_rfl) (fun _ _ _ h => h) (by kernel_rfl) hH ?_
          refine rg_skip 24 _ (some 41) rfl (by kernel_rfl) (by kernel_rfl) (by kernel_rfl) (by kernel_rfl) (fun _ _ _ h => h) (by kernel_rfl) hH ?_
          refine rg_skip 25 _ (some 42) rfl (by kernel_rfl) (by kernel_rfl) (by kernel_rfl) (by kernel_rfl) (fun _ _ _ h => h) (by kernel_rfl) hH ?_
          refine rg_skip 26 _ (some 43) rfl (by kernel_rfl) (by kernel_rfl) (by kernel_rfl) (by kernel_rfl) (fun _ _ _ h => h) (by kernel_rfl) hH ?_
          refine rg_skip 27 _ (some 44) rfl (by kernel_rfl) (by kernel_rfl) (by kernel_rfl) (by kernel_rfl) (fun _ _ _ h => h) (by kernel_rfl) hH ?_
          refine rg_skip 28 _ (some 45) rfl (by kernel_rfl) (by kernel_rfl) (by kernel_rfl) (by kernel_rfl) (fun _ _ _ h => h) (by kernel_rfl) hH ?_
          refine rg_skip 29 _ (some 46) rfl (by kernel_rfl) (by kernel_rfl) (by kernel_rfl) (by kernel_rfl) (fun _ _ _ h => h) (by kernel_rfl) hH ?_
          refine rg_skip 30 _ (some 47) rfl (by kernel_rfl) (by kernel_rfl) (by kernel_rfl) (by kernel_rfl) (fun _ _ _ h => h) (by kernel_rfl) hH ?_
          refine rg_skip 31 _ (some 48) rfl (by kernel_rfl) (by kernel_rfl) (by kernel_rfl) (by kernel_rfl) (fun _ _ _ h => h) (by kernel_rfl) hH ?_
          refine rg_skip 32 _ (some 49) rfl (by kernel_rfl) (by kernel_rfl) (by kernel_rfl) (by kernel_rfl) (fun _ _ _ h => h) (by kernel_rfl) hH ?_
          refine rg_skip 33 _ (some 50) rfl (by kernel_rfl) (by kernel_rfl) (by kernel_rfl) (by kernel_rfl) (fun _ _ _ h => h) (by kernel_rfl) hH ?_
          refine rg_skip 34 _ (some 51) rfl (by kernel_rfl) (by kernel_rfl) (by kernel_rfl) (by kernel_rfl) (fun _ _ _ h => h) (by kernel_rfl) hH ?_
          refine rg_skip 35 _ (some 52) rfl (by kernel_rfl) (by kernel_rfl) (by kernel_rfl) (by kernel_rfl) (fun _ _ _ h => h) (by kernel_rfl) hH ?_
          refine rg_skip 36 _ (some 53) rfl (by kernel_rfl) (by kernel_rfl) (by kernel_rfl) (by kernel_rfl) (fun _ _ _ h => h) (by kernel_rfl) hH ?_
          refine rg_skip 37 _ (some 54) rfl (by kernel_rfl) (by kernel_rfl) (by kernel_rfl) (by kernel_rfl) (fun _ _ _ h => h) (by kernel_rfl) hH ?_
          refine rg_pure 38 _ (.bool false) (some 55) rfl (by kernel_rfl) (by kernel_rfl) (by kernel_rfl) (by kernel_rfl) (fun _ _ _ h => h) (by kernel_rfl) (fun w => by kernel_rfl) hH ?_
          refine wpAnyH_done (by kernel_rfl) ?_ _
          refine HJ.out _ _ ?_
          clear HJ
          simp only [Act.put, List.setIfInBounds_toArray, List.set_cons_zero, List.set_cons_succ]
          have HH := Lib.hid (HBQ.out.trans (hH.mono HBQ.out.size))
          clear hH
          have hlW := HLR.out.on HH.out
          have HTK := Lib.hid (show RdV _ lad (((srt shortL (keyB l) 0 i).take 0).map iv) from by rw [List.map_take]; exact hlW.take 0)
          have HHB := Lib.hid HH.out
          have HX1 := Lib.hid (fun W v hb ho => HEX.out W v HX0.out hb ho)
          clear hlW
          go_wp2_with (at_builtin; refine wpl_clone1 Try.underlying39 info_int rfl (by decide) _ rfl _ _ rfl lad 0 lc (((srt shortL (keyB l) 0 i).take 0).map iv) (iv_one _) rfl rfl (by rw [List.length_map, List.length_take, srt_len]; omega) HTK.out (by omega) ?_)
          intro v8 w8 ho8 hb8
          obtain ⟨mad, mc, hv8, hmc, _⟩ := own_viewN ho8
          subst hv8
          have HM := Lib.hid (show w8.ownsRow wo.heap.size 3 1 (.slice mad 0 mc) 0 (((srt shortL (keyB l) 0 i).take 0).map iv) from by first | exact own_base ho8 HHB.out.size | (rw [List.map_take]; exact own_base ho8 HHB.out.size))
          have HB8 := Lib.hid (below_on HHB.out hb8)
          have hsz8 : wo.heap.size ≤ w8.heap.size := HB8.out.size
          have HDK := Lib.hid (fun W (h : Below wo.heap.size wo W) => show RdV W (if lc = 0 then (lad : Option Addr) else Option.map (fun x : Addr => x.add 0) lad) (((srt shortL (keyB l) 0 i).drop 0).map iv) from by rw [List.map_drop]; exact rdv_from (HLR.out.on h) (by rw [List.length_map, srt_len]) (by omega) hlc)
          have HNIL := Lib.hid (show (if lc = 0 then (lad : Option Addr) else Option.map (fun x : Addr => x.add 0) lad) = none → lc - 0 = 0 from fun h => by
            have h0 : (lad : Option Addr) = none := by split at h <;> simp_all
            have := hlz h0; omega)
          obtain ⟨qa, hqa⟩ : ∃ q, (if lc = 0 then (lad : Option Addr) else Option.map (fun x : Addr => x.add 0) lad) = q := ⟨_, rfl⟩
          have HQ := Lib.hid hqa
          rw [hqa] at HDK HNIL
          clear ho8 hb8 hqa
          go_upto_region 9 with fail
          refine rc_norm (fun J hJ => ?_)
          have HJ := Lib.hid hJ
          clear hJ
          refine rl_start (S := fun _ _ => True) (by kernel_rfl) (trivial) (fun hC hS => ?_)
          refine rl_pure 0 _ (.slice mad 0 mc) (some 62) rfl (by kernel_rfl) (by kernel_rfl) (by kernel_rfl) (by kernel_rfl) (fun _ _ _ h => h) (fun _ _ => Iff.rfl) (by kernel_rfl) (fun w => by kernel_rfl) hC hS (fun hC hS => ?_)
          refine rl_pure 1 _ (.int .i64 (i : Int)) (some 63) rfl (by kernel_rfl) (by kernel_rfl) (by kernel_rfl) (by kernel_rfl) (fun _ _ _ h => h) (fun _ _ => Iff.rfl) (by kernel_rfl) (fun w => by kernel_rfl) hC hS (fun hC hS => ?_)
          refine rl_pure 4 _ (.slice lad i lc) (some 66) rfl (by kernel_rfl) (by kernel_rfl) (by kernel_rfl) (by kernel_rfl) (fun _ _ _ h => h) (fun _ _ => Iff.rfl) (by kernel_rfl) (fun w => by kernel_rfl) hC hS (fun hC hS => ?_)
          refine rl_pure 5 _ (.int .i64 ((0 : Nat) : Int)) (some 67) rfl (by kernel_rfl) (by kernel_rfl) (by kernel_rfl) (by kernel_rfl) (fun _ _ _ h => h) (fun _ _ => Iff.rfl) (by kernel_rfl) (fun w => by kernel_rfl) hC hS (fun hC hS => ?_)
          refine rl_pure 6 _ (.slice qa (i - 0) (lc - 0)) (some 68) rfl (by kernel_rfl) (by kernel_rfl) (by kernel_rfl) (by kernel_rfl) (fun _ _ _ h => h) (fun _ _ => Iff.rfl) (by kernel_rfl) (fun w => by rw [← HQ.out]; exact rd_slice w _ _ _ 3 _ _ lad i lc 0 rfl (by kernel_rfl) (by kernel_rfl) Try.underlying39 (by kernel_rfl) (by omega) hlc) hC hS (fun hC hS => ?_)
          refine rl_all [2] (by kernel_rfl) (by simp) hC (rl_one _ ?_)
          refine rl_val 2 _ (.slice (some ⟨w8.drew.heap.size, 0, none⟩) 1 1) (w8.drew.alloc (.cells #[.int .i64 (i : Int)] 3)) (some 64) rfl (by kernel_rfl) (by kernel_rfl) (by kernel_rfl) ?_
          refine rl_and (trivial) (fun hS hC => ?_)
          refine rl_all [3] (by kernel_rfl) (by simp) hC (rl_one _ ?_)
          refine rl_law 3 _ (some 65) rfl (by kernel_rfl) (by kernel_rfl) (R := fun v' w' => w'.ownsRow wo.heap.size 3 1 v' (0 + 1) ((((srt shortL (keyB l) 0 i).take 0).map iv) ++ [.int .i64 (i : Int)]) ∧ (w8.drew.alloc (.cells #[.int .i64 (i : Int)] 3)).grownBy w' (Value.slice mad 0 mc).ownBlock) (fun KK hKK => wp_appV Try.underlying39 info_int rfl (by decide) (by decide) (w8.drew.alloc (.cells #[.int .i64 (i : Int)] 3)) (.tmp 62) (.tmp 64) rfl wo.heap.size (.slice mad 0 mc) 0 (((srt shortL (keyB l) 0 i).take 0).map iv) (by kernel_rfl) (World.ownsRow.alloc (World.ownsRow.drew HM.out) _) (some ⟨w8.drew.heap.size, 0, none⟩) 1 1 [.int .i64 (i : Int)] (by kernel_rfl) rfl (rdv_new _ _ _) (by intro u hu; rw [List.mem_singleton.1 hu]; rfl) nofun (by omega) (by have := hsz8; simp; omega) (fun v' w' h1 h2 => hKK v' w' ⟨h1, h2⟩)) ?_
          rintro v9 W9 ⟨ho9, hg9⟩
          have HB9 := Lib.hid (show Below wo.heap.size wo W9 from ((below_drew HB8.out).alloc hsz8 _).grown hg9 (by simp; omega) (fun g hg => (own_at HM.out hg).1))
          refine rl_and (trivial) (fun hS hC => ?_)
          refine rl_all [7] (by kernel_rfl) (by simp) hC (rl_one _ ?_)
          refine rl_law 7 _ (some 69) rfl (by kernel_rfl) (by kernel_rfl) (R := fun v' w' => w'.ownsRow wo.heap.size 3 1 v' (0 + 1 + (i - 0)) ((((srt shortL (keyB l) 0 i).take 0).map iv) ++ [.int .i64 (i : Int)] ++ (((srt shortL (keyB l) 0 i).drop 0).map iv)) ∧ W9.grownBy w' v9.ownBlock) (fun KK hKK => wp_appV Try.underlying39 info_int rfl (by decide) (by decide) W9 (.tmp 65) (.tmp 68) rfl wo.heap.size v9 (0 + 1) ((((srt shortL (keyB l) 0 i).take 0).map iv) ++ [.int .i64 (i : Int)]) (by kernel_rfl) ho9 qa (i - 0) (lc - 0) (((srt shortL (keyB l) 0 i).drop 0).map iv) (by kernel_rfl) (by rw [List.length_map, List.length_drop, srt_len]; omega) (HDK.out _ HB9.out) (iv_one _) HNIL.out (by omega) HB9.out.size (fun v' w' h1 h2 => hKK v' w' ⟨h1, h2⟩)) ?_
          rintro va Wa ⟨hoa, hga⟩
          refine rl_and (trivial) (fun hS hC => ?_)
          refine rl_pure 8 _ (va) (some 5) rfl (by kernel_rfl) (by kernel_rfl) (by kernel_rfl) (by kernel_rfl) (fun _ _ _ h => h) (fun _ _ => Iff.rfl) (by kernel_rfl) (fun w => by kernel_rfl) hC hS (fun hC hS => ?_)
          refine rl_done (by kernel_rfl) ?_ _
          have hbW : Below wo.heap.size wo Wa := HB9.out.grown hga HB9.out.size (fun g hg => (own_at ho9 hg).1)
          have HF := Lib.hid (HX1.out Wa va hbW (own_base hoa (B' := w.heap.size) HB.out.size))
          clear hS hC hoa hga ho9 hg9 hbW
          refine HJ.out _ _ ?_
          clear HJ
          simp only [Act.put, List.setIfInBounds_toArray, List.set_cons_zero, List.set_cons_succ]
          go_wp2_with fail
          go_roundg g
          case rel => exact HF.out
          case measure => omega
    · obtain rfl : i = n := by omega
      have hjz : ¬ (i : Int) < (i : Int) := by omega
      have HE := Lib.hid (HEND.out _ _ HO.out HB.out)
      go_wp2_with fail
      exact HE.out
theorem refSort_any (ad : Option Addr) (n cap : Nat) (l : List ByteArray) (w : World) (hn : l.length = n) (hm : n ≤ 1000000) (hr : RdV w ad (sv l)) :
    Calls Try.prog 15 #[.slice ad n cap] w (PlaceP Op.bytesLess (keyB l) n w) := by
  have K := Lib.hid (place_less ad n cap l w hn hm hr)
  clear hn hr
  unfold PlaceP at *
  go_enter Try.func15, Try.ntmps15
  go_wp2_with fail
  refine K.out.mono ?_
  rintro r w1 ⟨a, c, rfl, h1, h2, h4, h3⟩
  have H := Lib.hid (And.intro h1 (And.intro h2 (And.intro h4 h3)))
  clear h1 h2 h3 h4
  go_wp2
  go_ret
  exact ⟨a, c, rfl, H.out.1, H.out.2.1, H.out.2.2.1, H.out.2.2.2⟩
theorem refCBOR_any (ad : Option Addr) (n cap : Nat) (l : List ByteArray) (w : World) (hn : l.length = n) (hm : n ≤ 1000000) (hz : ∀ s ∈ l, s.size ≤ 1000000000) (hr : RdV w ad (sv l)) :
    Calls Try.prog 17 #[.slice ad n cap] w (PlaceP shortL (keyB l) n w) := by
  have K := Lib.hid (place_short ad n cap l w hn hm hz hr)
  clear hn hr hz
  unfold PlaceP at *
  go_enter Try.func17, Try.ntmps17
  go_wp2_with fail
  refine K.out.mono ?_
  rintro r w1 ⟨a, c, rfl, h1, h2, h4, h3⟩
  have H := Lib.hid (And.intro h1 (And.intro h2 (And.intro h4 h3)))
  clear h1 h2 h3 h4
  go_wp2
  go_ret
  exact ⟨a, c, rfl, H.out.1, H.out.2.1, H.out.2.2.1, H.out.2.2.2⟩
end Go.Proofs.Ytndjdmgncjiggaa
