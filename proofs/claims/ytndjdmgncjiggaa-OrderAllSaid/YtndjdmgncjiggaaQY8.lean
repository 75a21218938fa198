/- The reference's Object, walked. -/
import Derived.Test.YtndjdmgncjiggaaQq
import Derived.Test.YtndjdmgncjiggaaQp
namespace Go.Proofs.Ytndjdmgncjiggaa
open Go.RowKit Go.Shelf Go.Sort
set_option linter.unusedVariables false
set_option linter.unusedSimpArgs false
/-- What is picked of trees. -/
def pickM (v : List MT) (S : List Nat) : List MT := S.map fun p => v.getD p (leafT 0 false ⟨#[]⟩)
/-- What the reference's Object leaves. -/
def ROP (l : List ByteArray) (v : List MT) (m : Nat) (w : World) (e : Ending) (w' : World) : Prop :=
  ∃ lo f, Twc (keyB l) m lo f ∧
    (f = false → ∃ ka kc va vc, e = .returned (.tuple #[(objK ka m kc va m vc).val, .int .i64 0, .bool true]) ∧ m ≤ kc ∧ m ≤ vc ∧ RdV w' ka (sv (pickB l (srt Op.bytesLess (keyB l) 0 m))) ∧ RdV w' va (flat ((pickM v (srt Op.bytesLess (keyB l) 0 m)).map MT.c)) ∧ Below w.heap.size w w') ∧
    (f = true → e = .returned (.tuple #[zeroC.val, .int .i64 (lo : Int), .bool false]) ∧ Below w.heap.size w w')
/-- What holds from round to round. -/
def OBL (W2 : World) (bu : Nat) (K : List ByteArray) (V : List MT) (m g : Nat) (iv : Value) (wr : World) : Prop :=
  ∃ i : Nat, i ≤ m ∧ m - i ≤ g ∧ iv = .int .i64 (i : Int) ∧ PCut W2 bu (K.take i) (V.take i) wr
set_option maxHeartbeats 8000000 in
set_option maxRecDepth 100000 in
theorem refObject_any (ad : Option Addr) (n cap m : Nat) (l : List ByteArray) (ad' : Option Addr) (n' cap' : Nat) (v : List MT) (w : World) (hcap : n ≤ cap) (hm : n ≤ 1000) (hl : l.length = m) (hr : RdV w ad (sv l)) (hS : v.length = n') (hcap' : n' ≤ cap') (hm' : n' ≤ 1000) (hr' : RdV w ad' (flat (v.map MT.c))) (hmin : n ≤ n' ∧ m = n ∨ n' < n ∧ m = n') :
    Calls Try.prog 10 #[.slice ad n cap, .slice ad' n' cap'] w (ROP l v m w) := by
  have hmn : m ≤ n := by omega
  have hmn' : m ≤ n' := by omega
  have KT := Lib.hid (fun W (h : Below w.heap.size w W) => refTwice_any ad m cap l W hl (by omega) (hr.on h))
  have KS := Lib.hid (fun W (h : Below w.heap.size w W) => refSort_any ad m cap l W hl (by omega) (hr.on h))
  have HR := Lib.hid (fun W (h : Below w.heap.size w W) => hr.on h)
  have HR2 := Lib.hid (fun W (h : Below w.heap.size w W) => hr'.on h)
  have HL := Lib.hid hl; have HV := Lib.hid hS
  have HADB := Lib.hid (fun a e (hp : 0 < (sv l).length) => hr.lt a e hp)
  have HADT := Lib.hid (fun a e (hp : 0 < (flat (v.map MT.c)).length) => hr'.lt a e hp)
  have hmi : min (n : Int) (n' : Int) = (m : Int) := by rcases hmin with ⟨h1, h2⟩ | ⟨h1, h2⟩ <;> omega
  have B1 := Lib.hid ((Below.refl w.heap.size w).alloc (Nat.le_refl _) (.cells #[.int .i64 0, .bool false, .bool false, .slice none 0 0, .int .i64 0, .string ByteArray.empty, .slice none 0 0, .slice none 0 0] 31))
  have hmc : m ≤ cap := by omega
  clear hr hr' hS hl hmin
  go_enter Try.func10, Try.ntmps10
  go_wp2_with fail
  have c0 := lit_blk w [.int .i64 0, .bool false, .bool false, .slice none 0 0, .int .i64 0, .string ByteArray.empty, .slice none 0 0, .slice none 0 0] 31 #[.int .i64 0, .bool false, .bool false, .slice none 0 0, .int .i64 0, .string ByteArray.empty, .slice none 0 0, .slice none 0 0] rfl
  have HC0 := Lib.hid c0; clear c0
  refine (KT.out _ B1.out).mono ?_
  rintro r w1 ⟨lo, f, rfl, hT, hb1⟩
  have HT0 := Lib.hid hT
  have B2 := Lib.hid (below_on B1.out hb1)
  have HC1 := Lib.hid (HC0.out.below hb1 (by simp))
  clear hT hb1 HC0 KT
  cases f
  · go_upto_region 6 with fail
    obtain ⟨Wx, hWx⟩ : ∃ x, w1.alloc (.cells #[.int .i64 7, .bool false, .bool false, .slice none 0 0, .int .i64 0, .string ⟨#[]⟩, .slice none 0 0, .slice none 0 0] 31) = x := ⟨_, rfl⟩
    rw [hWx]
    have hbx : Below w1.heap.size w1 Wx := by rw [← hWx]; exact (Below.refl _ _).alloc (Nat.le_refl _) _
    have hbo : BoxT Wx w1.heap.size (objK none 0 0 none 0 0) := by unfold BoxT; rw [← hWx]; exact heap_alloc_new w1 _
    have hwb : w.heap.size < w1.heap.size := HC1.out.lt
    have HBO := Lib.hid hbo
    have B3 := Lib.hid (below_on B2.out hbx)
    have HC2 := Lib.hid (HC1.out.below hbx HC1.out.lt)
    clear hWx hbx hbo HC1
    generalize w1.heap.size = bu at *
    go_wp2_with fail
    refine (KS.out _ B3.out).mono ?_
    rintro r W2 ⟨sad, sc, rfl, hsc, hsr, hsb, hb3⟩
    have B4 := Lib.hid (below_on B3.out hb3)
    have HC3 := Lib.hid (HC2.out.below hb3 HC2.out.lt)
    have hbu : bu < W2.heap.size := Nat.lt_of_lt_of_le HBO.out.lt hb3.size
    have HS0 := Lib.hid (show Grw W2 bu (objK none 0 0 none 0 0) (.slice none 0 0) 0 [] (.slice none 0 0) 0 [] W2 from ⟨But.refl _ _, hbu, HBO.out.on (hb3.block _ HBO.out.lt), World.ownsRow_nil _ _ _ _, World.ownsRow_nil _ _ _ _⟩)
    have HSR := Lib.hid hsr
    have HSB := Lib.hid (show ∀ a, sad = some a → a.block ≠ bu from fun a e h => by have := hsb a e; have := HBO.out.lt; omega)
    obtain ⟨S, hSS⟩ : ∃ S, srt Op.bytesLess (keyB l) 0 m = S := ⟨_, rfl⟩
    have HSL := Lib.hid (show S.length = m by rw [← hSS]; exact srt_len _ _ _ _)
    have HSP := Lib.hid (show ∀ i, i < m → S.getD i 0 < m from fun i hi => by rw [← hSS]; exact srt_lt _ _ _ _ hi)
    rw [hSS] at HSR
    have HSS := Lib.hid hSS
    have HK := Lib.hid (show (pickB l S).length = m by rw [pickB_len]; exact HSL.out)
    have HKV := Lib.hid (show (pickM v S).length = m by unfold pickM; rw [List.length_map]; exact HSL.out)
    have HKG := Lib.hid (fun i (hi : i < m) => show (pickB l S).getD i ByteArray.empty = l.getD (S.getD i 0) ByteArray.empty from pickB_get l S i (by rw [HSL.out]; exact hi))
    have HKM := Lib.hid (fun i (hi : i < m) => show (pickM v S).getD i (leafT 0 false ⟨#[]⟩) = v.getD (S.getD i 0) (leafT 0 false ⟨#[]⟩) from by
      have : i < S.length := by rw [HSL.out]; exact hi
      simp [pickM, List.getD, this])
    clear hsr hsb hb3 hSS HBO HC2 KS
    go_wp2_with fail
    go_loopg [12] m (fun g iv wr => OBL W2 bu (pickB l S) (pickM v S) m g iv wr)
    case atStart => exact ⟨0, Nat.zero_le _, by omega, rfl, none, 0, none, 0, by simpa [sv, flat] using HS0.out⟩
    case round =>
      obtain ⟨i, hi, hig, rfl, ka, kc, va, vc, hG⟩ := hrel
      obtain ⟨ks, hks⟩ : ∃ ks, (pickB l S).take i = ks := ⟨_, rfl⟩
      obtain ⟨us, hus⟩ : ∃ us, (pickM v S).take i = us := ⟨_, rfl⟩
      have hkl : ks.length = i := by rw [← hks, List.length_take, HK.out]; omega
      have hul : us.length = i := by rw [← hus, List.length_take, HKV.out]; omega
      rw [hks, hus] at hG
      have HG := Lib.hid hG
      clear hG
      by_cases him : i < m
      · obtain ⟨g, rfl⟩ : ∃ k, gk = k + 1 := ⟨gk - 1, by omega⟩
        have himz : (i : Int) < (m : Int) := by omega
        have hp := HSP.out i him
        obtain ⟨sb, so, rfl, hsbl, hsc1⟩ := HSR.out i (by rw [List.length_map, HSL.out]; exact him)
        rw [iv_get _ _ (by rw [HSL.out]; exact him)] at hsc1
        have hnr := HR.out W2 B4.out
        have htr := HR2.out W2 B4.out
        obtain ⟨nb, no, rfl, _⟩ := hnr.shape (by rw [sv_len, HL.out]; omega)
        obtain ⟨tb, tq, rfl, _⟩ := htr.shape (by rw [flat_len, List.length_map, HV.out]; omega)
        have hnb := HADB.out _ rfl (by rw [sv_len, HL.out]; omega)
        have htb := HADT.out _ rfl (by rw [flat_len, List.length_map, HV.out]; omega)
        simp only at hnb htb
        obtain ⟨p, hpp⟩ : ∃ p, S.getD i 0 = p := ⟨_, rfl⟩
        rw [hpp] at hp hsc1
        have hpn : p < n := by omega
        have hpn' : p < n' := by omega
        have hsne := HSB.out _ rfl
        have HP := Lib.hid (fun (W : World) (h : But bu W2 W) => show W.cell? ⟨sb, so + i, none⟩ = some (.int .i64 ((p : Nat) : Int)) from by rw [World.cell?_of_block (w := W2) (h.block sb hsbl hsne)]; exact hsc1)
        have HX := Lib.hid (fun (W : World) (h : But bu W2 W) => show W.cell? ⟨nb, no + p, none⟩ = some (.string (l.getD p ByteArray.empty)) from by
          rw [World.cell?_of_block (w := W2) (h.block nb (by have := B4.out.size; omega) (by omega))]; exact sv_at hnr p (by rw [HL.out]; exact hp))
        obtain ⟨yc, hyc⟩ : ∃ c, (v.getD p (leafT 0 false ⟨#[]⟩)).c = c := ⟨_, rfl⟩
        have HT := Lib.hid (fun (W : World) (h : But bu W2 W) => show W.rangeAt tb (tq + p * 8) yc.cells from flat_range (h.rd htr (fun a e _ => by cases e; simp only; omega)) p (by rw [HV.out]; exact hpn') hyc)
        have HYC := Lib.hid hyc
        have HSTEP := Lib.hid (fun W (h : PCut W2 bu (ks ++ [l.getD p ByteArray.empty]) (us ++ [v.getD p (leafT 0 false ⟨#[]⟩)]) W) => show OBL W2 bu (pickB l S) (pickM v S) m g (.int .i64 ((i : Int) + 1)) W from ⟨i + 1, by omega, by omega, rfl, by
          rw [take_up (pickB l S) i ByteArray.empty (by rw [HK.out]; exact him), take_up (pickM v S) i (leafT 0 false ⟨#[]⟩) (by rw [HKV.out]; exact him), HKG.out i him, HKM.out i him, hpp, hks, hus]; exact h⟩)
        generalize l.getD p ByteArray.empty = x at *
        generalize v.getD p (leafT 0 false ⟨#[]⟩) = yt at *
        clear hyc hnr htr hsc1 hks hus hpp
        obtain ⟨yk, yb, yneg, yma, ymn, ymc, ye, ys, yka, ykn, ykc, yva, yvn, yvc⟩ := yc
        have hk10 : ks.length ≤ 1000 := by omega
        have hu10 : us.length ≤ 1000 := by omega
        clear hkl hul
        go_upto_region 10 with fail
        refine wp_norm (fun J hJ => ?_)
        have HJ := Lib.hid hJ
        clear hJ
        refine rl_start (S := fun L W => But bu W2 W ∧ (L.getD 23 false = false → W.cell? ⟨bu, 6, none⟩ = some (.slice ka ks.length kc)) ∧ (L.getD 25 false = false → W.cell? ⟨bu, 7, none⟩ = some (.slice va us.length vc))) (by kernel_rfl) (have hG := HG.out.below (below_drew (Below.refl _ _)); ⟨hG.but, fun _ => hG.box.cells.2.2.2.2.2.2.1, fun _ => hG.box.cells.2.2.2.2.2.2.2⟩) (fun hC hS => ?_)
        have hG := HG.out.below (below_drew (Below.refl _ _))
        obtain ⟨Z0, hW0⟩ : ∃ x, x = wr.drew := ⟨_, rfl⟩
        rw [← hW0] at hG hS ⊢
        refine rl_pure 0 _ (.pointer (some ⟨bu, 6, none⟩)) (some 39) rfl (by kernel_rfl) (by kernel_rfl) (by kernel_rfl) (by kernel_rfl) (fun _ _ _ h => h) (fun L W => si2 0 23 25 rfl rfl _) (by kernel_rfl) (fun w => by kernel_rfl) hC hS (fun hC hS => ?_)
        refine rl_load1 1 _ 22 (.tmp 39) ⟨bu, 6, none⟩ (.slice ka ks.length kc) _ (some 40) rfl (by kernel_rfl) (by kernel_rfl) (by kernel_rfl) (by kernel_rfl) (fun _ _ _ h => h) (fun L W => si2 1 23 25 rfl rfl _) (by kernel_rfl) rfl (by kernel_rfl) Try.underlying22 rfl (fun L W hC h1 hS => hS.2.1 (cl_no hC 1 23 _ rfl (by kernel_rfl) h1)) hC hS (fun hC hS => ?_)
        refine rl_pure 2 _ (.slice (some ⟨nb, no, none⟩) n cap) (some 41) rfl (by kernel_rfl) (by kernel_rfl) (by kernel_rfl) (by kernel_rfl) (fun _ _ _ h => h) (fun L W => si2 2 23 25 rfl rfl _) (by kernel_rfl) (fun w => by kernel_rfl) hC hS (fun hC hS => ?_)
        refine rl_pure 3 _ (.slice (some ⟨sb, so, none⟩) m sc) (some 42) rfl (by kernel_rfl) (by kernel_rfl) (by kernel_rfl) (by kernel_rfl) (fun _ _ _ h => h) (fun L W => si2 3 23 25 rfl rfl _) (by kernel_rfl) (fun w => by kernel_rfl) hC hS (fun hC hS => ?_)
        refine rl_pure 4 _ (.int .i64 (i : Int)) (some 43) rfl (by kernel_rfl) (by kernel_rfl) (by kernel_rfl) (by kernel_rfl) (fun _ _ _ h => h) (fun L W => si2 4 23 25 rfl rfl _) (by kernel_rfl) (fun w => by kernel_rfl) hC hS (fun hC hS => ?_)
        refine rl_pure 5 _ (.pointer (some ⟨sb, so + i, none⟩)) (some 44) rfl (by kernel_rfl) (by kernel_rfl) (by kernel_rfl) (by kernel_rfl) (fun _ _ _ h => h) (fun L W => si2 5 23 25 rfl rfl _) (by kernel_rfl) (fun w => rl_idx w _ _ _ _ _ 3 sb so m sc i i 1 rfl (by kernel_rfl) (by kernel_rfl) Try.underlying39 (by kernel_rfl) him (Nat.mul_one _)) hC hS (fun hC hS => ?_)
        refine rl_load1 6 _ 3 (.tmp 44) ⟨sb, so + i, none⟩ (.int .i64 ((p : Nat) : Int)) _ (some 45) rfl (by kernel_rfl) (by kernel_rfl) (by kernel_rfl) (by kernel_rfl) (fun _ _ _ h => h) (fun L W => si2 6 23 25 rfl rfl _) (by kernel_rfl) rfl (by kernel_rfl) Try.underlying3 rfl (fun L W hC h1 hS => (HP.out W hS.1)) hC hS (fun hC hS => ?_)
        refine rl_pure 7 _ (.pointer (some ⟨nb, no + p, none⟩)) (some 46) rfl (by kernel_rfl) (by kernel_rfl) (by kernel_rfl) (by kernel_rfl) (fun _ _ _ h => h) (fun L W => si2 7 23 25 rfl rfl _) (by kernel_rfl) (fun w => rl_idx w _ _ _ _ _ 9 nb no n cap p p 1 rfl (by kernel_rfl) (by kernel_rfl) Try.underlying22 (by kernel_rfl) hpn (Nat.mul_one _)) hC hS (fun hC hS => ?_)
        refine rl_load1 8 _ 9 (.tmp 46) ⟨nb, no + p, none⟩ (.string x) _ (some 47) rfl (by kernel_rfl) (by kernel_rfl) (by kernel_rfl) (by kernel_rfl) (fun _ _ _ h => h) (fun L W => si2 8 23 25 rfl rfl _) (by kernel_rfl) rfl (by kernel_rfl) Try.underlying9 rfl (fun L W hC h1 hS => (HX.out W hS.1)) hC hS (fun hC hS => ?_)
        refine rl_pure 11 _ (.pointer (some ⟨bu, 7, none⟩)) (some 50) rfl (by kernel_rfl) (by kernel_rfl) (by kernel_rfl) (by kernel_rfl) (fun _ _ _ h => h) (fun L W => si2 11 23 25 rfl rfl _) (by kernel_rfl) (fun w => by kernel_rfl) hC hS (fun hC hS => ?_)
        refine rl_load1 12 _ 23 (.tmp 50) ⟨bu, 7, none⟩ (.slice va us.length vc) _ (some 51) rfl (by kernel_rfl) (by kernel_rfl) (by kernel_rfl) (by kernel_rfl) (fun _ _ _ h => h) (fun L W => si2 12 23 25 rfl rfl _) (by kernel_rfl) rfl (by kernel_rfl) Try.underlying23 rfl (fun L W hC h1 hS => hS.2.2 (cl_no hC 12 25 _ rfl (by kernel_rfl) h1)) hC hS (fun hC hS => ?_)
        refine rl_pure 13 _ (.slice (some ⟨tb, tq, none⟩) n' cap') (some 52) rfl (by kernel_rfl) (by kernel_rfl) (by kernel_rfl) (by kernel_rfl) (fun _ _ _ h => h) (fun L W => si2 13 23 25 rfl rfl _) (by kernel_rfl) (fun w => by kernel_rfl) hC hS (fun hC hS => ?_)
        refine rl_pure 14 _ (.slice (some ⟨sb, so, none⟩) m sc) (some 53) rfl (by kernel_rfl) (by kernel_rfl) (by kernel_rfl) (by kernel_rfl) (fun _ _ _ h => h) (fun L W => si2 14 23 25 rfl rfl _) (by kernel_rfl) (fun w => by kernel_rfl) hC hS (fun hC hS => ?_)
        refine rl_pure 15 _ (.int .i64 (i : Int)) (some 54) rfl (by kernel_rfl) (by kernel_rfl) (by kernel_rfl) (by kernel_rfl) (fun _ _ _ h => h) (fun L W => si2 15 23 25 rfl rfl _) (by kernel_rfl) (fun w => by kernel_rfl) hC hS (fun hC hS => ?_)
        refine rl_pure 16 _ (.pointer (some ⟨sb, so + i, none⟩)) (some 55) rfl (by kernel_rfl) (by kernel_rfl) (by kernel_rfl) (by kernel_rfl) (fun _ _ _ h => h) (fun L W => si2 16 23 25 rfl rfl _) (by kernel_rfl) (fun w => rl_idx w _ _ _ _ _ 3 sb so m sc i i 1 rfl (by kernel_rfl) (by kernel_rfl) Try.underlying39 (by kernel_rfl) him (Nat.mul_one _)) hC hS (fun hC hS => ?_)
        refine rl_load1 17 _ 3 (.tmp 55) ⟨sb, so + i, none⟩ (.int .i64 ((p : Nat) : Int)) _ (some 56) rfl (by kernel_rfl) (by kernel_rfl) (by kernel_rfl) (by kernel_rfl) (fun _ _ _ h => h) (fun L W => si2 17 23 25 rfl rfl _) (by kernel_rfl) rfl (by kernel_rfl) Try.underlying3 rfl (fun L W hC h1 hS => (HP.out W hS.1)) hC hS (fun hC hS => ?_)
        refine rl_pure 18 _ (.pointer (some ⟨tb, tq + p * 8, none⟩)) (some 57) rfl (by kernel_rfl) (by kernel_rfl) (by kernel_rfl) (by kernel_rfl) (fun _ _ _ h => h) (fun L W => si2 18 23 25 rfl rfl _) (by kernel_rfl) (fun w => rl_idx w _ _ _ _ _ 31 tb tq n' cap' p (p * 8) 8 rfl (by kernel_rfl) (by kernel_rfl) Try.underlying23 (by kernel_rfl) hpn' rfl) hC hS (fun hC hS => ?_)
        refine rl_loadM 19 _ 31 (.tmp 57) tb (tq + p * 8) [.int .i64 yk, .bool yb, .bool yneg, .slice yma ymn ymc, .int .i64 ye, .string ys, .slice yka ykn ykc, .slice yva yvn yvc] _ (some 58) rfl (by kernel_rfl) (by kernel_rfl) (by kernel_rfl) (by kernel_rfl) (fun _ _ _ h => h) (fun L W => si2 19 23 25 rfl rfl _) (by kernel_rfl) rfl (by kernel_rfl) Try.underlying31 rfl (by kernel_rfl) (fun L W hC h1 hS => HT.out W hS.1) hC hS (fun hC hS => ?_)
        refine rl_all [9, 20] (by kernel_rfl) (by simp) hC (rl_two _ _ ?_ ?_)
        · skip
          refine rl_val 9 _ (.slice (some ⟨Z0.heap.size, 0, none⟩) 1 1) (Z0.alloc (.cells #[.string x] 9)) (some 48) rfl (by kernel_rfl) (by kernel_rfl) (by kernel_rfl) ?_
          have hlgK := heap_alloc_new Z0 (.cells (List.toArray [.string x]) 9)
          replace hG := hG.alloc (.cells (List.toArray [.string x]) 9)
          generalize Z0.heap.size = gK at hlgK ⊢
          generalize Z0.alloc (.cells #[.string x] 9) = Z1 at hlgK hG  ⊢
          refine rl_and ⟨hG.but, fun _ => hG.box.cells.2.2.2.2.2.2.1, fun _ => hG.box.cells.2.2.2.2.2.2.2⟩ (fun hS hC => ?_)
          refine rl_all [10, 20] (by kernel_rfl) (by simp) hC (rl_two _ _ ?_ ?_)
          · skip
            refine rl_law 10 _ (some 49) rfl (by kernel_rfl) (by kernel_rfl) (R := fun v' w' => w'.ownsRow W2.heap.size 9 1 v' (ks.length + 1) ((sv ks) ++ [.string x]) ∧ Z1.grownBy w' (Value.slice ka ks.length kc).ownBlock) (fun K hK => wp_appV Try.underlying22 info_string rfl (by decide) (by decide) Z1 (.tmp 40) (.tmp 48) rfl W2.heap.size _ ks.length (sv ks) (by kernel_rfl) hG.ok (some ⟨gK, 0, none⟩) 1 1 [.string x] (by kernel_rfl) rfl (rd_lit Z1 gK _ _ hlgK) (by intro u hu; rw [List.mem_singleton.1 hu]; rfl) nofun (by first | omega | (simp; omega)) hG.but.size (fun v' w' h1 h2 => hK v' w' ⟨h1, h2⟩)) ?_
            rintro v' Z2 ⟨ho, hgr⟩
            obtain ⟨aK, cK, rfl, hcK, _⟩ := own_viewN ho
            replace hG := hG.appK ho hgr
            refine rl_and ⟨hG.but, fun _ => hG.box.cells.2.2.2.2.2.2.1, fun _ => hG.box.cells.2.2.2.2.2.2.2⟩ (fun hS hC => ?_)
            refine rl_pure 22 _ (.pointer (some ⟨bu, 6, none⟩)) (some 61) rfl (by kernel_rfl) (by kernel_rfl) (by kernel_rfl) (by kernel_rfl) (fun _ _ _ h => h) (fun L W => si2 22 23 25 rfl rfl _) (by kernel_rfl) (fun w => by kernel_rfl) hC hS (fun hC hS => ?_)
            refine rl_all [20] (by kernel_rfl) (by simp) hC (rl_one _ ?_)
            refine rl_val 20 _ (.slice (some ⟨Z2.heap.size, 0, none⟩) 1 1) (Z2.alloc (.cells #[.int .i64 yk, .bool yb, .bool yneg, .slice yma ymn ymc, .int .i64 ye, .string ys, .slice yka ykn ykc, .slice yva yvn yvc] 31)) (some 59) rfl (by kernel_rfl) (by kernel_rfl) (by kernel_rfl) ?_
            have hlgV := heap_alloc_new Z2 (.cells (List.toArray [.int .i64 yk, .bool yb, .bool yneg, .slice yma ymn ymc, .int .i64 ye, .string ys, .slice yka ykn ykc, .slice yva yvn yvc]) 31)
            replace hG := hG.alloc (.cells (List.toArray [.int .i64 yk, .bool yb, .bool yneg, .slice yma ymn ymc, .int .i64 ye, .string ys, .slice yka ykn ykc, .slice yva yvn yvc]) 31)
            generalize Z2.heap.size = gV at hlgV ⊢
            generalize Z2.alloc (.cells #[.int .i64 yk, .bool yb, .bool yneg, .slice yma ymn ymc, .int .i64 ye, .string ys, .slice yka ykn ykc, .slice yva yvn yvc] 31) = Z3 at hlgV hG  ⊢
            refine rl_and ⟨hG.but, fun _ => hG.box.cells.2.2.2.2.2.2.1, fun _ => hG.box.cells.2.2.2.2.2.2.2⟩ (fun hS hC => ?_)
            refine rl_all [21] (by kernel_rfl) (by simp) hC (rl_one _ ?_)
            refine rl_law 21 _ (some 60) rfl (by kernel_rfl) (by kernel_rfl) (R := fun v' w' => w'.ownsRow W2.heap.size 31 8 v' (us.length + 1) (flat (us.map MT.c) ++ [.int .i64 yk, .bool yb, .bool yneg, .slice yma ymn ymc, .int .i64 ye, .string ys, .slice yka ykn ykc, .slice yva yvn yvc]) ∧ Z3.grownBy w' (Value.slice va us.length vc).ownBlock) (fun K hK => wp_appV Try.underlying23 info_tree rfl (by decide) (by decide) Z3 (.tmp 51) (.tmp 59) rfl W2.heap.size _ us.length (flat (us.map MT.c)) (by kernel_rfl) hG.ov (some ⟨gV, 0, none⟩) 1 1 [.int .i64 yk, .bool yb, .bool yneg, .slice yma ymn ymc, .int .i64 ye, .string ys, .slice yka ykn ykc, .slice yva yvn yvc] (by kernel_rfl) rfl (rd_lit Z3 gV _ _ hlgV) (cel_one ⟨yk, yb, yneg, yma, ymn, ymc, ye, ys, yka, ykn, ykc, yva, yvn, yvc⟩) nofun (by first | omega | (simp; omega)) hG.but.size (fun v' w' h1 h2 => hK v' w' ⟨h1, h2⟩)) ?_
            rintro v' Z4 ⟨ho, hgr⟩
            obtain ⟨aV, cV, rfl, hcV, _⟩ := own_viewN ho
            replace hG := hG.appV ho hgr
            refine rl_and ⟨hG.but, fun _ => hG.box.cells.2.2.2.2.2.2.1, fun _ => hG.box.cells.2.2.2.2.2.2.2⟩ (fun hS hC => ?_)
            refine rl_all [23] (by kernel_rfl) (by simp) hC (rl_one _ ?_)
            refine rl_store 23 _ 22 (.tmp 61) (.tmp 49) ⟨bu, 6, none⟩ (.slice aK (ks.length + 1) cK) rfl (by kernel_rfl) (by kernel_rfl) rfl (by kernel_rfl) (by kernel_rfl) (by kernel_rfl) rfl (by rw [hG.box.cells.2.2.2.2.2.2.1]; rfl) (hG.box.free 6) ?_
            replace hG := hG.set 6 (.slice aK (ks.length + 1) cK) (box_set6 hG.box aK (ks.length + 1) cK)
            refine rl_and ⟨hG.but, fun h => Bool.noConfusion (show true = false from h), fun _ => hG.box.cells.2.2.2.2.2.2.2⟩ (fun hS hC => ?_)
            refine rl_pure 24 _ (.pointer (some ⟨bu, 7, none⟩)) (some 62) rfl (by kernel_rfl) (by kernel_rfl) (by kernel_rfl) (by kernel_rfl) (fun _ _ _ h => h) (fun L W => si2 24 23 25 rfl rfl _) (by kernel_rfl) (fun w => by kernel_rfl) hC hS (fun hC hS => ?_)
            refine rl_all [25] (by kernel_rfl) (by simp) hC (rl_one _ ?_)
            refine rl_store 25 _ 23 (.tmp 62) (.tmp 60) ⟨bu, 7, none⟩ (.slice aV (us.length + 1) cV) rfl (by kernel_rfl) (by kernel_rfl) rfl (by kernel_rfl) (by kernel_rfl) (by kernel_rfl) rfl (by rw [hG.box.cells.2.2.2.2.2.2.2]; rfl) (hG.box.free 7) ?_
            replace hG := hG.set 7 (.slice aV (us.length + 1) cV) (box_set hG.box aV (us.length + 1) cV)
            refine rl_and ⟨hG.but, fun h => Bool.noConfusion (show true = false from h), fun h => Bool.noConfusion (show true = false from h)⟩ (fun hS hC => ?_)
            refine rl_done (by kernel_rfl) ?_ _
            generalize ((Z4.setCell ⟨bu, 6, none⟩ (.slice aK (ks.length + 1) cK)).setCell ⟨bu, 7, none⟩ (.slice aV (us.length + 1) cV)) = wc at hG ⊢
            clear hS hC
            refine HJ.out _ _ ?_
            clear HJ
            simp only [Act.put, List.setIfInBounds_toArray, List.set_cons_zero, List.set_cons_succ]
            have HF := Lib.hid (HSTEP.out wc (pcut_of HYC.out hG))
            clear hG
            go_wp2_with fail
            go_roundg g
            case rel => exact HF.out
            case measure => omega
          · skip
            refine rl_val 20 _ (.slice (some ⟨Z1.heap.size, 0, none⟩) 1 1) (Z1.alloc (.cells #[.int .i64 yk, .bool yb, .bool yneg, .slice yma ymn ymc, .int .i64 ye, .string ys, .slice yka ykn ykc, .slice yva yvn yvc] 31)) (some 59) rfl (by kernel_rfl) (by kernel_rfl) (by kernel_rfl) ?_
            have hlgV := heap_alloc_new Z1 (.cells (List.toArray [.int .i64 yk, .bool yb, .bool yneg, .slice yma ymn ymc, .int .i64 ye, .string ys, .slice yka ykn ykc, .slice yva yvn yvc]) 31)
            have hlgK := ((Below.refl Z1.heap.size Z1).alloc (Nat.le_refl _) (.cells (List.toArray [.int .i64 yk, .bool yb, .bool yneg, .slice yma ymn ymc, .int .i64 ye, .string ys, .slice yka ykn ykc, .slice yva yvn yvc]) 31)).block _ (Array.getElem?_eq_some_iff.1 hlgK).1 |>.trans hlgK
            replace hG := hG.alloc (.cells (List.toArray [.int .i64 yk, .bool yb, .bool yneg, .slice yma ymn ymc, .int .i64 ye, .string ys, .slice yka ykn ykc, .slice yva yvn yvc]) 31)
            generalize Z1.heap.size = gV at hlgV ⊢
            generalize Z1.alloc (.cells #[.int .i64 yk, .bool yb, .bool yneg, .slice yma ymn ymc, .int .i64 ye, .string ys, .slice yka ykn ykc, .slice yva yvn yvc] 31) = Z7 at hlgV hG hlgK ⊢
            refine rl_and ⟨hG.but, fun _ => hG.box.cells.2.2.2.2.2.2.1, fun _ => hG.box.cells.2.2.2.2.2.2.2⟩ (fun hS hC => ?_)
            refine rl_all [10] (by kernel_rfl) (by simp) hC (rl_one _ ?_)
            refine rl_law 10 _ (some 49) rfl (by kernel_rfl) (by kernel_rfl) (R := fun v' w' => w'.ownsRow W2.heap.size 9 1 v' (ks.length + 1) ((sv ks) ++ [.string x]) ∧ Z7.grownBy w' (Value.slice ka ks.length kc).ownBlock) (fun K hK => wp_appV Try.underlying22 info_string rfl (by decide) (by decide) Z7 (.tmp 40) (.tmp 48) rfl W2.heap.size _ ks.length (sv ks) (by kernel_rfl) hG.ok (some ⟨gK, 0, none⟩) 1 1 [.string x] (by kernel_rfl) rfl (rd_lit Z7 gK _ _ hlgK) (by intro u hu; rw [List.mem_singleton.1 hu]; rfl) nofun (by first | omega | (simp; omega)) hG.but.size (fun v' w' h1 h2 => hK v' w' ⟨h1, h2⟩)) ?_
            rintro v' Z8 ⟨ho, hgr⟩
            obtain ⟨aK, cK, rfl, hcK, _⟩ := own_viewN ho
            replace hlgV := hG.litV hgr hlgV
            replace hG := hG.appK ho hgr
            refine rl_and ⟨hG.but, fun _ => hG.box.cells.2.2.2.2.2.2.1, fun _ => hG.box.cells.2.2.2.2.2.2.2⟩ (fun hS hC => ?_)
            refine rl_pure 22 _ (.pointer (some ⟨bu, 6, none⟩)) (some 61) rfl (by kernel_rfl) (by kernel_rfl) (by kernel_rfl) (by kernel_rfl) (fun _ _ _ h => h) (fun L W => si2 22 23 25 rfl rfl _) (by kernel_rfl) (fun w => by kernel_rfl) hC hS (fun hC hS => ?_)
            refine rl_all [21] (by kernel_rfl) (by simp) hC (rl_one _ ?_)
            refine rl_law 21 _ (some 60) rfl (by kernel_rfl) (by kernel_rfl) (R := fun v' w' => w'.ownsRow W2.heap.size 31 8 v' (us.length + 1) (flat (us.map MT.c) ++ [.int .i64 yk, .bool yb, .bool yneg, .slice yma ymn ymc, .int .i64 ye, .string ys, .slice yka ykn ykc, .slice yva yvn yvc]) ∧ Z8.grownBy w' (Value.slice va us.length vc).ownBlock) (fun K hK => wp_appV Try.underlying23 info_tree rfl (by decide) (by decide) Z8 (.tmp 51) (.tmp 59) rfl W2.heap.size _ us.length (flat (us.map MT.c)) (by kernel_rfl) hG.ov (some ⟨gV, 0, none⟩) 1 1 [.int .i64 yk, .bool yb, .bool yneg, .slice yma ymn ymc, .int .i64 ye, .string ys, .slice yka ykn ykc, .slice yva yvn yvc] (by kernel_rfl) rfl (rd_lit Z8 gV _ _ hlgV) (cel_one ⟨yk, yb, yneg, yma, ymn, ymc, ye, ys, yka, ykn, ykc, yva, yvn, yvc⟩) nofun (by first | omega | (simp; omega)) hG.but.size (fun v' w' h1 h2 => hK v' w' ⟨h1, h2⟩)) ?_
            rintro v' Z9 ⟨ho, hgr⟩
            obtain ⟨aV, cV, rfl, hcV, _⟩ := own_viewN ho
            replace hG := hG.appV ho hgr
            refine rl_and ⟨hG.but, fun _ => hG.box.cells.2.2.2.2.2.2.1, fun _ => hG.box.cells.2.2.2.2.2.2.2⟩ (fun hS hC => ?_)
            refine rl_all [23] (by kernel_rfl) (by simp) hC (rl_one _ ?_)
            refine rl_store 23 _ 22 (.tmp 61) (.tmp 49) ⟨bu, 6, none⟩ (.slice aK (ks.length + 1) cK) rfl (by kernel_rfl) (by kernel_rfl) rfl (by kernel_rfl) (by kernel_rfl) (by kernel_rfl) rfl (by rw [hG.box.cells.2.2.2.2.2.2.1]; rfl) (hG.box.free 6) ?_
            replace hG := hG.set 6 (.slice aK (ks.length + 1) cK) (box_set6 hG.box aK (ks.length + 1) cK)
            refine rl_and ⟨hG.but, fun h => Bool.noConfusion (show true = false from h), fun _ => hG.box.cells.2.2.2.2.2.2.2⟩ (fun hS hC => ?_)
            refine rl_pure 24 _ (.pointer (some ⟨bu, 7, none⟩)) (some 62) rfl (by kernel_rfl) (by kernel_rfl) (by kernel_rfl) (by kernel_rfl) (fun _ _ _ h => h) (fun L W => si2 24 23 25 rfl rfl _) (by kernel_rfl) (fun w => by kernel_rfl) hC hS (fun hC hS => ?_)
            refine rl_all [25] (by kernel_rfl) (by simp) hC (rl_one _ ?_)
            refine rl_store 25 _ 23 (.tmp 62) (.tmp 60) ⟨bu, 7, none⟩ (.slice aV (us.length + 1) cV) rfl (by kernel_rfl) (by kernel_rfl) rfl (by kernel_rfl) (by kernel_rfl) (by kernel_rfl) rfl (by rw [hG.box.cells.2.2.2.2.2.2.2]; rfl) (hG.box.free 7) ?_
            replace hG := hG.set 7 (.slice aV (us.length + 1) cV) (box_set hG.box aV (us.length + 1) cV)
            refine rl_and ⟨hG.but, fun h => Bool.noConfusion (show true = false from h), fun h => Bool.noConfusion (show true = false from h)⟩ (fun hS hC => ?_)
            refine rl_done (by kernel_rfl) ?_ _
            generalize ((Z9.setCell ⟨bu, 6, none⟩ (.slice aK (ks.length + 1) cK)).setCell ⟨bu, 7, none⟩ (.slice aV (us.length + 1) cV)) = wc at hG ⊢
            clear hS hC
            refine HJ.out _ _ ?_
            clear HJ
            simp only [Act.put, List.setIfInBounds_toArray, List.set_cons_zero, List.set_cons_succ]
            have HF := Lib.hid (HSTEP.out wc (pcut_of HYC.out hG))
            clear hG
            go_wp2_with fail
            go_roundg g
            case rel => exact HF.out
            case measure => omega
        · skip
          refine rl_val 20 _ (.slice (some ⟨Z0.heap.size, 0, none⟩) 1 1) (Z0.alloc (.cells #[.int .i64 yk, .bool yb, .bool yneg, .slice yma ymn ymc, .int .i64 ye, .string ys, .slice yka ykn ykc, .slice yva yvn yvc] 31)) (some 59) rfl (by kernel_rfl) (by kernel_rfl) (by kernel_rfl) ?_
          have hlgV := heap_alloc_new Z0 (.cells (List.toArray [.int .i64 yk, .bool yb, .bool yneg, .slice yma ymn ymc, .int .i64 ye, .string ys, .slice yka ykn ykc, .slice yva yvn yvc]) 31)
          replace hG := hG.alloc (.cells (List.toArray [.int .i64 yk, .bool yb, .bool yneg, .slice yma ymn ymc, .int .i64 ye, .string ys, .slice yka ykn ykc, .slice yva yvn yvc]) 31)
          generalize Z0.heap.size = gV at hlgV ⊢
          generalize Z0.alloc (.cells #[.int .i64 yk, .bool yb, .bool yneg, .slice yma ymn ymc, .int .i64 ye, .string ys, .slice yka ykn ykc, .slice yva yvn yvc] 31) = Z12 at hlgV hG  ⊢
          refine rl_and ⟨hG.but, fun _ => hG.box.cells.2.2.2.2.2.2.1, fun _ => hG.box.cells.2.2.2.2.2.2.2⟩ (fun hS hC => ?_)
          refine rl_all [9] (by kernel_rfl) (by simp) hC (rl_one _ ?_)
          refine rl_val 9 _ (.slice (some ⟨Z12.heap.size, 0, none⟩) 1 1) (Z12.alloc (.cells #[.string x] 9)) (some 48) rfl (by kernel_rfl) (by kernel_rfl) (by kernel_rfl) ?_
          have hlgK := heap_alloc_new Z12 (.cells (List.toArray [.string x]) 9)
          have hlgV := ((Below.refl Z12.heap.size Z12).alloc (Nat.le_refl _) (.cells (List.toArray [.string x]) 9)).block _ (Array.getElem?_eq_some_iff.1 hlgV).1 |>.trans hlgV
          replace hG := hG.alloc (.cells (List.toArray [.string x]) 9)
          generalize Z12.heap.size = gK at hlgK ⊢
          generalize Z12.alloc (.cells #[.string x] 9) = Z13 at hlgK hG hlgV ⊢
          refine rl_and ⟨hG.but, fun _ => hG.box.cells.2.2.2.2.2.2.1, fun _ => hG.box.cells.2.2.2.2.2.2.2⟩ (fun hS hC => ?_)
          refine rl_all [10] (by kernel_rfl) (by simp) hC (rl_one _ ?_)
          refine rl_law 10 _ (some 49) rfl (by kernel_rfl) (by kernel_rfl) (R := fun v' w' => w'.ownsRow W2.heap.size 9 1 v' (ks.length + 1) ((sv ks) ++ [.string x]) ∧ Z13.grownBy w' (Value.slice ka ks.length kc).ownBlock) (fun K hK => wp_appV Try.underlying22 info_string rfl (by decide) (by decide) Z13 (.tmp 40) (.tmp 48) rfl W2.heap.size _ ks.length (sv ks) (by kernel_rfl) hG.ok (some ⟨gK, 0, none⟩) 1 1 [.string x] (by kernel_rfl) rfl (rd_lit Z13 gK _ _ hlgK) (by intro u hu; rw [List.mem_singleton.1 hu]; rfl) nofun (by first | omega | (simp; omega)) hG.but.size (fun v' w' h1 h2 => hK v' w' ⟨h1, h2⟩)) ?_
          rintro v' Z14 ⟨ho, hgr⟩
          obtain ⟨aK, cK, rfl, hcK, _⟩ := own_viewN ho
          replace hlgV := hG.litV hgr hlgV
          replace hG := hG.appK ho hgr
          refine rl_and ⟨hG.but, fun _ => hG.box.cells.2.2.2.2.2.2.1, fun _ => hG.box.cells.2.2.2.2.2.2.2⟩ (fun hS hC => ?_)
          refine rl_pure 22 _ (.pointer (some ⟨bu, 6, none⟩)) (some 61) rfl (by kernel_rfl) (by kernel_rfl) (by kernel_rfl) (by kernel_rfl) (fun _ _ _ h => h) (fun L W => si2 22 23 25 rfl rfl _) (by kernel_rfl) (fun w => by kernel_rfl) hC hS (fun hC hS => ?_)
          refine rl_all [21] (by kernel_rfl) (by simp) hC (rl_one _ ?_)
          refine rl_law 21 _ (some 60) rfl (by kernel_rfl) (by kernel_rfl) (R := fun v' w' => w'.ownsRow W2.heap.size 31 8 v' (us.length + 1) (flat (us.map MT.c) ++ [.int .i64 yk, .bool yb, .bool yneg, .slice yma ymn ymc, .int .i64 ye, .string ys, .slice yka ykn ykc, .slice yva yvn yvc]) ∧ Z14.grownBy w' (Value.slice va us.length vc).ownBlock) (fun K hK => wp_appV Try.underlying23 info_tree rfl (by decide) (by decide) Z14 (.tmp 51) (.tmp 59) rfl W2.heap.size _ us.length (flat (us.map MT.c)) (by kernel_rfl) hG.ov (some ⟨gV, 0, none⟩) 1 1 [.int .i64 yk, .bool yb, .bool yneg, .slice yma ymn ymc, .int .i64 ye, .string ys, .slice yka ykn ykc, .slice yva yvn yvc] (by kernel_rfl) rfl (rd_lit Z14 gV _ _ hlgV) (cel_one ⟨yk, yb, yneg, yma, ymn, ymc, ye, ys, yka, ykn, ykc, yva, yvn, yvc⟩) nofun (by first | omega | (simp; omega)) hG.but.size (fun v' w' h1 h2 => hK v' w' ⟨h1, h2⟩)) ?_
          rintro v' Z15 ⟨ho, hgr⟩
          obtain ⟨aV, cV, rfl, hcV, _⟩ := own_viewN ho
          replace hG := hG.appV ho hgr
          refine rl_and ⟨hG.but, fun _ => hG.box.cells.2.2.2.2.2.2.1, fun _ => hG.box.cells.2.2.2.2.2.2.2⟩ (fun hS hC => ?_)
          refine rl_all [23] (by kernel_rfl) (by simp) hC (rl_one _ ?_)
          refine rl_store 23 _ 22 (.tmp 61) (.tmp 49) ⟨bu, 6, none⟩ (.slice aK (ks.length + 1) cK) rfl (by kernel_rfl) (by kernel_rfl) rfl (by kernel_rfl) (by kernel_rfl) (by kernel_rfl) rfl (by rw [hG.box.cells.2.2.2.2.2.2.1]; rfl) (hG.box.free 6) ?_
          replace hG := hG.set 6 (.slice aK (ks.length + 1) cK) (box_set6 hG.box aK (ks.length + 1) cK)
          refine rl_and ⟨hG.but, fun h => Bool.noConfusion (show true = false from h), fun _ => hG.box.cells.2.2.2.2.2.2.2⟩ (fun hS hC => ?_)
          refine rl_pure 24 _ (.pointer (some ⟨bu, 7, none⟩)) (some 62) rfl (by kernel_rfl) (by kernel_rfl) (by kernel_rfl) (by kernel_rfl) (fun _ _ _ h => h) (fun L W => si2 24 23 25 rfl rfl _) (by kernel_rfl) (fun w => by kernel_rfl) hC hS (fun hC hS => ?_)
          refine rl_all [25] (by kernel_rfl) (by simp) hC (rl_one _ ?_)
          refine rl_store 25 _ 23 (.tmp 62) (.tmp 60) ⟨bu, 7, none⟩ (.slice aV (us.length + 1) cV) rfl (by kernel_rfl) (by kernel_rfl) rfl (by kernel_rfl) (by kernel_rfl) (by kernel_rfl) rfl (by rw [hG.box.cells.2.2.2.2.2.2.2]; rfl) (hG.box.free 7) ?_
          replace hG := hG.set 7 (.slice aV (us.length + 1) cV) (box_set hG.box aV (us.length + 1) cV)
          refine rl_and ⟨hG.but, fun h => Bool.noConfusion (show true = false from h), fun h => Bool.noConfusion (show true = false from h)⟩ (fun hS hC => ?_)
          refine rl_done (by kernel_rfl) ?_ _
          generalize ((Z15.setCell ⟨bu, 6, none⟩ (.slice aK (ks.length + 1) cK)).setCell ⟨bu, 7, none⟩ (.slice aV (us.length + 1) cV)) = wc at hG ⊢
          clear hS hC
          refine HJ.out _ _ ?_
          clear HJ
          simp only [Act.put, List.setIfInBounds_toArray, List.set_cons_zero, List.set_cons_succ]
          have HF := Lib.hid (HSTEP.out wc (pcut_of HYC.out hG))
          clear hG
          go_wp2_with fail
          go_roundg g
          case rel => exact HF.out
          case measure => omega
      · obtain rfl : i = m := by omega
        have himz : ¬ (i : Int) < (i : Int) := by omega
        have HC4 := Lib.hid (show BlkV wr w.heap.size 31 _ from (by unfold BlkV; rw [HG.out.but.block _ HC3.out.lt (by omega)]; exact HC3.out))
        obtain ⟨x0, x1, x2, x3, x4, x5, x6, x7⟩ := HG.out.box.cells
        simp only [objK] at x0 x1 x2 x3 x4 x5 x6 x7
        have y0 := HC4.out.cell 0; have y1 := HC4.out.cell 1; have y2 := HC4.out.cell 2; have y3 := HC4.out.cell 3
        have y4 := HC4.out.cell 4; have y5 := HC4.out.cell 5; have y6 := HC4.out.cell 6; have y7 := HC4.out.cell 7
        have f0 := HC4.out.free 0; have f1 := HC4.out.free 1; have f2 := HC4.out.free 2; have f3 := HC4.out.free 3
        have f4 := HC4.out.free 4; have f5 := HC4.out.free 5; have f6 := HC4.out.free 6; have f7 := HC4.out.free 7
        simp only [List.getElem?_cons_zero, List.getElem?_cons_succ] at y0 y1 y2 y3 y4 y5 y6 y7
        obtain ⟨_, _, ek, hkc, hkr, _, hkb, _⟩ := own_viewN HG.out.ok
        cases ek
        obtain ⟨_, _, ev, hvc, hvr, _, hvb, _⟩ := own_viewN HG.out.ov
        cases ev
        have hksz : ks = pickB l S := by rw [← hks]; exact List.take_of_length_le (by rw [HK.out]; exact Nat.le_refl _)
        have husz : us = pickM v S := by rw [← hus]; exact List.take_of_length_le (by rw [HKV.out]; exact Nat.le_refl _)
        have HQ := Lib.hid (And.intro (And.intro hkc hvc) (And.intro (And.intro hkr hvr) (And.intro hkb hvb)))
        have HKS := Lib.hid (And.intro hksz husz)
        have HLL := Lib.hid (And.intro hkl hul)
        clear hkc hvc hkr hvr hkb hvb hks hus hksz husz hkl hul HC4
        rw [HLL.out.1] at x6
        rw [HLL.out.2] at x7
        rw [HLL.out.1, HLL.out.2] at HQ
        go_wp2_with fail
        refine bodyPost_ret (v := .tuple #[(objK ka i kc va i vc).val, .int .i64 0, .bool true]) (by simp [results, Try.results10, go_sem, y0, y1, y2, y3, y4, y5, y6, y7, objK, Cel.val]; try rfl) rfl ?_
        have hbut := put8_but wr w.heap.size 0 (objK ka i kc va i vc)
        refine ⟨lo, false, HT0.out, fun _ => ⟨ka, kc, va, vc, rfl, HQ.out.1.1, HQ.out.1.2, ?_, ?_, ?_⟩, fun h => by cases h⟩
        · rw [HSS.out, ← HKS.out.1]; exact hbut.rd HQ.out.2.1.1 (fun a e _ => by have := (HQ.out.2.2.1 a e).1; omega)
        · rw [HSS.out, ← HKS.out.2]; exact hbut.rd HQ.out.2.1.2 (fun a e _ => by have := (HQ.out.2.2.2 a e).1; omega)
        · exact (B4.out.trans (HG.out.but.below (Nat.le_of_lt hwb) B4.out.size)).trans (hbut.below (Nat.le_refl _) (by have := HG.out.but.size; have := B4.out.size; omega))

  · have HC4 := HC1
    have y0 := HC4.out.cell 0; have y1 := HC4.out.cell 1; have y2 := HC4.out.cell 2; have y3 := HC4.out.cell 3
    have y4 := HC4.out.cell 4; have y5 := HC4.out.cell 5; have y6 := HC4.out.cell 6; have y7 := HC4.out.cell 7
    have f0 := HC4.out.free 0; have f1 := HC4.out.free 1; have f2 := HC4.out.free 2; have f3 := HC4.out.free 3
    have f4 := HC4.out.free 4; have f5 := HC4.out.free 5; have f6 := HC4.out.free 6; have f7 := HC4.out.free 7
    simp only [List.getElem?_cons_zero, List.getElem?_cons_succ] at y0 y1 y2 y3 y4 y5 y6 y7
    go_wp2_with fail
    refine bodyPost_ret (v := .tuple #[zeroC.val, .int .i64 (lo : Int), .bool false]) (by simp [results, Try.results10, go_sem, y0, y1, y2, y3, y4, y5, y6, y7, zeroC, Cel.val]; try rfl) rfl ?_
    have hbut := put8_but w1 w.heap.size 0 zeroC
    exact ⟨lo, true, HT0.out, (fun h => by cases h), fun _ => ⟨rfl, B2.out.trans (hbut.below (Nat.le_refl _) B2.out.size)⟩⟩
end Go.Proofs.Ytndjdmgncjiggaa
