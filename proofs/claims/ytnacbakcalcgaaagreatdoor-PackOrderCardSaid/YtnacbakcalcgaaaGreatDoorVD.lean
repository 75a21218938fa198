/- Texts of the claim. -/
import Derived.Test.YtnacbakcalcgaaaGreatDoorVC
set_option linter.unusedVariables false
set_option linter.unusedSimpArgs false
set_option maxHeartbeats 8000000
set_option maxRecDepth 100000
namespace Go.Proofs.YtnacbakcalcgaaaGreatDoor
open Go.RowKit Go.Shelf
def NRnC (n bd:Nat) (w:World) (k:Nat) (i:Value) (wr:World):Prop :=
  ∃ j:Nat,j≤bd∧n - j≤k∧i=.int .i64 (j:Int)∧Below w.heap.size w wr
theorem refNames_noC (ad:Option Addr) (n cap:Nat) (l:List ByteArray) (w:World) (hl:l.length=n) (hcap:n≤cap) (hr:RdV w ad (sv l)) (h3:n≤300) (bd:Nat) (hbd:bd<n) (hbv:validL (l.getD bd ByteArray.empty).data.toList=false) (hbz:(l.getD bd ByteArray.empty).size≤1000) (hri:∀ j,j<bd→nameAt l j=true) :
    Calls Tryz.prog 119 #[.slice ad n cap] w (BoolBelow false w):=by
  have HL:=Lib.hid hl
  have HRD:=Lib.hid (fun W (h:Below w.heap.size w W)=>hr.on h)
  have HRI:=Lib.hid hri
  have HBD:=Lib.hid hbd;have HBV:=Lib.hid hbv;have HBZ:=Lib.hid hbz
  have H3:=Lib.hid h3
  clear hl hr hri hbd hbv hbz
  have HST:=Lib.hid (show NRnC n bd w n (.int .i64 0) w from ⟨0,Nat.zero_le _,by omega,rfl,Below.refl _ _⟩)
  go_enter Tryz.func119,Tryz.ntmps119
  go_wp2
  go_loopg [3] n (fun k i wr=>NRnC n bd w k i wr)
  case atStart=>exact HST.out
  case round =>
    clear HST
    obtain ⟨j,hj,hk,rfl,hb⟩:=hrel
    have hjn:j<n:=by have:=HBD.out;omega
    have HB:=Lib.hid hb
    clear hb
    by_cases hlt:j<bd
    · obtain ⟨k,rfl⟩:∃ k,gk=k+1:=⟨gk - 1,by omega⟩
      have hjz:(j:Int)<(n:Int):=by omega
      have hjl:j<l.length:=by rw [HL.out];exact hjn
      obtain ⟨b,o,rfl,hbl,hc⟩:=HRD.out wr HB.out j (by rw [sv_len];exact hjl)
      have HNX:=Lib.hid (fun W (h:Below w.heap.size w W)=>(show NRnC n bd w k (.int .i64 ((j:Int)+1)) W from ⟨j+1,by omega,by omega,rfl,h⟩))
      have HX:=Lib.hid (fun W (h:Below wr.heap.size wr W)=>(by
        obtain ⟨b',o',e,_,hc⟩:=HRD.out W (below_on HB.out h) j (by rw [sv_len];omega)
        cases e
        rw [sv_get _ _ (by omega)] at hc;exact hc:W.cell? ⟨b,o+j,none⟩=some (.string (l.getD j ByteArray.empty))))
      have HPR:=Lib.hid (fun W (h:Below wr.heap.size wr W) (i:Nat) (h0:j=i+1)=>(by
        obtain ⟨b',o',e,_,hc⟩:=HRD.out W (below_on HB.out h) i (by rw [sv_len];omega)
        cases e
        rw [sv_get _ _ (by omega)] at hc;exact hc:W.cell? ⟨b,o+i,none⟩=some (.string (l.getD i ByteArray.empty))))
      have hna:=HRI.out j hlt
      unfold nameAt at hna
      rw [Bool.and_eq_true,Bool.or_eq_true] at hna
      obtain ⟨hok,hlr⟩:=hna
      unfold okN at hok
      rw [Bool.and_eq_true] at hok
      have hs2:=of_decide_eq_true hok.1
      have KV:=Lib.hid (fun W=>refValid_any (l.getD j ByteArray.empty) W (by omega))
      rw [hok.2] at KV
      have HS2:=Lib.hid (show decide ((2000:Int)<((l.getD j ByteArray.empty).size:Int))=false from decide_eq_false (by omega))
      have HJN:=Lib.hid hjn
      clear hok hc
      by_cases h0:j=0
      · have HJ0:=Lib.hid (show decide ((0:Int)<(j:Int))=false from decide_eq_false (by omega))
        clear hlr h0 hs2
        generalize l.getD j ByteArray.empty=x at *
        go_upto_region 4 with fail
        refine rg_norm (fun J hJ=>?_)
        have HJ:=Lib.hid hJ
        clear hJ
        refine wp_region_held_drew (S:=fun W=>Below wr.heap.size wr W) (by kernel_rfl) (below_drew (Below.refl _ _)) (fun hH=>?_)
        refine rg_pure 0 _ (.slice (some ⟨b,o,none⟩) n cap) (some 10) rfl (by kernel_rfl) (by kernel_rfl) (by kernel_rfl) (by kernel_rfl) (fun _ _ _ h=>h) (by kernel_rfl) (fun w=>by kernel_rfl) hH ?_
        refine rg_pure 1 _ (.int .i64 (j:Int)) (some 11) rfl (by kernel_rfl) (by kernel_rfl) (by kernel_rfl) (by kernel_rfl) (fun _ _ _ h=>h) (by kernel_rfl) (fun w=>by kernel_rfl) hH ?_
        refine rg_pure 2 _ (.pointer (some ⟨b,o+j,none⟩)) (some 12) rfl (by kernel_rfl) (by kernel_rfl) (by kernel_rfl) (by kernel_rfl) (fun _ _ _ h=>h) (by kernel_rfl) (fun w=>rl_idx w _ _ _ _ _ 9 b o n cap j j 1 rfl (by kernel_rfl) (by kernel_rfl) Tryz.underlying26 (by kernel_rfl) HJN.out (Nat.mul_one _)) hH ?_
        refine rg_load1 3 _ 9 (.tmp 12) ⟨b,o+j,none⟩ (.string x) _ (some 13) rfl (by kernel_rfl) (by kernel_rfl) (by kernel_rfl) (by kernel_rfl) (fun _ _ _ h=>h) (by kernel_rfl) rfl (by kernel_rfl) Tryz.underlying9 rfl (fun W hW=>HX.out W hW) hH ?_
        refine rg_call 4 _ 118 _ _ _ _ #[.string x] (some 14) rfl (by kernel_rfl) (by kernel_rfl) (by kernel_rfl) rfl (by kernel_rfl) Tryz.func118 (by kernel_rfl) (by kernel_rfl) (by kernel_rfl) (KV.out _) ?_
        rintro r' w' ⟨rfl,hb⟩
        replace hH:=hH.trans (hb.mono hH.size)
        refine ⟨_,rfl,hH,?_⟩
        refine rg_pure 5 _ (.bool false) (some 15) rfl (by kernel_rfl) (by kernel_rfl) (by kernel_rfl) (by kernel_rfl) (fun _ _ _ h=>h) (by kernel_rfl) (fun w=>by kernel_rfl) hH ?_
        refine rg_pure 6 _ (.bool false) (some 16) rfl (by kernel_rfl) (by kernel_rfl) (by kernel_rfl) (by kernel_rfl) (fun _ _ _ h=>h) (by kernel_rfl) (fun w=>by kernel_rfl) hH ?_
        refine rg_pure 7 _ (.slice (some ⟨b,o,none⟩) n cap) (some 17) rfl (by kernel_rfl) (by kernel_rfl) (by kernel_rfl) (by kernel_rfl) (fun _ _ _ h=>h) (by kernel_rfl) (fun w=>by kernel_rfl) hH ?_
        refine rg_pure 8 _ (.int .i64 (j:Int)) (some 18) rfl (by kernel_rfl) (by kernel_rfl) (by kernel_rfl) (by kernel_rfl) (fun _ _ _ h=>h) (by kernel_rfl) (fun w=>by kernel_rfl) hH ?_
        refine rg_pure 9 _ (.pointer (some ⟨b,o+j,none⟩)) (some 19) rfl (by kernel_rfl) (by kernel_rfl) (by kernel_rfl) (by kernel_rfl) (fun _ _ _ h=>h) (by kernel_rfl) (fun w=>rl_idx w _ _ _ _ _ 9 b o n cap j j 1 rfl (by kernel_rfl) (by kernel_rfl) Tryz.underlying26 (by kernel_rfl) HJN.out (Nat.mul_one _)) hH ?_
        refine rg_load1 10 _ 9 (.tmp 19) ⟨b,o+j,none⟩ (.string x) _ (some 20) rfl (by kernel_rfl) (by kernel_rfl) (by kernel_rfl) (by kernel_rfl) (fun _ _ _ h=>h) (by kernel_rfl) rfl (by kernel_rfl) Tryz.underlying9 rfl (fun W hW=>HX.out W hW) hH ?_
        refine rg_pure 11 _ (.int .i64 (x.size:Int)) (some 21) rfl (by kernel_rfl) (by kernel_rfl) (by kernel_rfl) (by kernel_rfl) (fun _ _ _ h=>h) (by kernel_rfl) (fun w=>by kernel_rfl) hH ?_
        refine rg_pure 12 _ (.bool false) (some 22) rfl (by kernel_rfl) (by kernel_rfl) (by kernel_rfl) (by kernel_rfl) (fun _ _ _ h=>h) (by kernel_rfl) (fun w=>rd_gtr w _ _ _ _ _ _ (x.size:Int) 2000 false rfl (by kernel_rfl) (by kernel_rfl) HS2.out) hH ?_
        refine rg_pure 13 _ (.bool false) (some 23) rfl (by kernel_rfl) (by kernel_rfl) (by kernel_rfl) (by kernel_rfl) (fun _ _ _ h=>h) (by kernel_rfl) (fun w=>by kernel_rfl) hH ?_
        refine rg_pure 14 _ (.bool false) (some 24) rfl (by kernel_rfl) (by kernel_rfl) (by kernel_rfl) (by kernel_rfl) (fun _ _ _ h=>h) (by kernel_rfl) (fun w=>by kernel_rfl) hH ?_
        refine rg_pure 15 _ (.int .i64 (j:Int)) (some 25) rfl (by kernel_rfl) (by kernel_rfl) (by kernel_rfl) (by kernel_rfl) (fun _ _ _ h=>h) (by kernel_rfl) (fun w=>by kernel_rfl) hH ?_
        refine rg_pure 16 _ (.bool false) (some 26) rfl (by kernel_rfl) (by kernel_rfl) (by kernel_rfl) (by kernel_rfl) (fun _ _ _ h=>h) (by kernel_rfl) (fun w=>rd_gtr w _ _ _ _ _ _ (j:Int) 0 false rfl (by kernel_rfl) (by kernel_rfl) HJ0.out) hH ?_
        refine rg_pure 17 _ (.bool false) (some 27) rfl (by kernel_rfl) (by kernel_rfl) (by kernel_rfl) (by kernel_rfl) (fun _ _ _ h=>h) (by kernel_rfl) (fun w=>by kernel_rfl) hH ?_
        refine rg_skip 18 _ (some 28) rfl (by kernel_rfl) (by kernel_rfl) (by kernel_rfl) (by kernel_rfl) (fun _ _ _ h=>h) (by kernel_rfl) hH ?_
        refine rg_skip 19 _ (some 29) rfl (by kernel_rfl) (by kernel_rfl) (by kernel_rfl) (by kernel_rfl) (fun _ _ _ h=>h) (by kernel_rfl) hH ?_
        refine rg_skip 20 _ (some 30) rfl (by kernel_rfl) (by kernel_rfl) (by kernel_rfl) (by kernel_rfl) (fun _ _ _ h=>h) (by kernel_rfl) hH ?_
        refine rg_skip 21 _ (some 31) rfl (by kernel_rfl) (by kernel_rfl) (by kernel_rfl) (by kernel_rfl) (fun _ _ _ h=>h) (by kernel_rfl) hH ?_
        refine rg_skip 22 _ (some 32) rfl (by kernel_rfl) (by kernel_rfl) (by kernel_rfl) (by kernel_rfl) (fun _ _ _ h=>h) (by kernel_rfl) hH ?_
        refine rg_skip 23 _ (some 33) rfl (by kernel_rfl) (by kernel_rfl) (by kernel_rfl) (by kernel_rfl) (fun _ _ _ h=>h) (by kernel_rfl) hH ?_
        refine rg_skip 24 _ (some 34) rfl (by kernel_rfl) (by kernel_rfl) (by kernel_rfl) (by kernel_rfl) (fun _ _ _ h=>h) (by kernel_rfl) hH ?_
        refine rg_skip 25 _ (some 35) rfl (by kernel_rfl) (by kernel_rfl) (by kernel_rfl) (by kernel_rfl) (fun _ _ _ h=>h) (by kernel_rfl) hH ?_
        refine rg_skip 26 _ (some 36) rfl (by kernel_rfl) (by kernel_rfl) (by kernel_rfl) (by kernel_rfl) (fun _ _ _ h=>h) (by kernel_rfl) hH ?_
        refine rg_skip 27 _ (some 37) rfl (by kernel_rfl) (by kernel_rfl) (by kernel_rfl) (by kernel_rfl) (fun _ _ _ h=>h) (by kernel_rfl) hH ?_
        refine rg_pure 28 _ (.bool false) (some 38) rfl (by kernel_rfl) (by kernel_rfl) (by kernel_rfl) (by kernel_rfl) (fun _ _ _ h=>h) (by kernel_rfl) (fun w=>by kernel_rfl) hH ?_
        refine rg_pure 29 _ (.bool false) (some 39) rfl (by kernel_rfl) (by kernel_rfl) (by kernel_rfl) (by kernel_rfl) (fun _ _ _ h=>h) (by kernel_rfl) (fun w=>by kernel_rfl) hH ?_
        refine wpAnyH_done (by kernel_rfl) ?_ _
        have HFF:=Lib.hid (below_on HB.out hH)
        clear hH
        refine HJ.out _ _ ?_
        clear HJ
        simp only [Act.put,List.setIfInBounds_toArray,List.set_cons_zero,List.set_cons_succ]
        go_wp2_with fail
        go_roundg k
        case rel=>exact HNX.out _ HFF.out
        case measure=>omega
      · obtain ⟨i,hji⟩:∃ i,j=i+1:=⟨j - 1,by omega⟩
        have HJ0:=Lib.hid (show decide ((0:Int)<(j:Int))=true from decide_eq_true (by omega))
        have hlt2:ltS (l.getD i ByteArray.empty) (l.getD j ByteArray.empty)=true:=by
          rcases hlr with h | h
          · exact absurd (of_decide_eq_true h) h0
          · rwa [show j - 1=i by omega] at h
        have HLT:=Lib.hid (ltS_yes hlt2)
        have HPI:=Lib.hid (fun W h=>HPR.out W h i hji)
        have HSB:=Lib.hid (show (j:Int) - 1=(i:Int) by omega)
        have HIN:=Lib.hid (show i<n by omega)
        have HI0:=Lib.hid (show (-9223372036854775808:Int)≤(i:Int)∧(i:Int)≤9223372036854775807 by have:=H3.out;omega)
        clear hlr h0 hs2 hlt2 hji HPR
        generalize l.getD j ByteArray.empty=x at *
        generalize l.getD i ByteArray.empty=y at *
        go_upto_region 4 with fail
        refine rg_norm (fun J hJ=>?_)
        have HJ:=Lib.hid hJ
        clear hJ
        refine wp_region_held_drew (S:=fun W=>Below wr.heap.size wr W) (by kernel_rfl) (below_drew (Below.refl _ _)) (fun hH=>?_)
        refine rg_pure 0 _ (.slice (some ⟨b,o,none⟩) n cap) (some 10) rfl (by kernel_rfl) (by kernel_rfl) (by kernel_rfl) (by kernel_rfl) (fun _ _ _ h=>h) (by kernel_rfl) (fun w=>by kernel_rfl) hH ?_
        refine rg_pure 1 _ (.int .i64 (j:Int)) (some 11) rfl (by kernel_rfl) (by kernel_rfl) (by kernel_rfl) (by kernel_rfl) (fun _ _ _ h=>h) (by kernel_rfl) (fun w=>by kernel_rfl) hH ?_
        refine rg_pure 2 _ (.pointer (some ⟨b,o+j,none⟩)) (some 12) rfl (by kernel_rfl) (by kernel_rfl) (by kernel_rfl) (by kernel_rfl) (fun _ _ _ h=>h) (by kernel_rfl) (fun w=>rl_idx w _ _ _ _ _ 9 b o n cap j j 1 rfl (by kernel_rfl) (by kernel_rfl) Tryz.underlying26 (by kernel_rfl) HJN.out (Nat.mul_one _)) hH ?_
        refine rg_load1 3 _ 9 (.tmp 12) ⟨b,o+j,none⟩ (.string x) _ (some 13) rfl (by kernel_rfl) (by kernel_rfl) (by kernel_rfl) (by kernel_rfl) (fun _ _ _ h=>h) (by kernel_rfl) rfl (by kernel_rfl) Tryz.underlying9 rfl (fun W hW=>HX.out W hW) hH ?_
        refine rg_call 4 _ 118 _ _ _ _ #[.string x] (some 14) rfl (by kernel_rfl) (by kernel_rfl) (by kernel_rfl) rfl (by kernel_rfl) Tryz.func118 (by kernel_rfl) (by kernel_rfl) (by kernel_rfl) (KV.out _) ?_
        rintro r' w' ⟨rfl,hb⟩
        replace hH:=hH.trans (hb.mono hH.size)
        refine ⟨_,rfl,hH,?_⟩
        refine rg_pure 5 _ (.bool false) (some 15) rfl (by kernel_rfl) (by kernel_rfl) (by kernel_rfl) (by kernel_rfl) (fun _ _ _ h=>h) (by kernel_rfl) (fun w=>by kernel_rfl) hH ?_
        refine rg_pure 6 _ (.bool false) (some 16) rfl (by kernel_rfl) (by kernel_rfl) (by kernel_rfl) (by kernel_rfl) (fun _ _ _ h=>h) (by kernel_rfl) (fun w=>by kernel_rfl) hH ?_
        refine rg_pure 7 _ (.slice (some ⟨b,o,none⟩) n cap) (some 17) rfl (by kernel_rfl) (by kernel_rfl) (by kernel_rfl) (by kernel_rfl) (fun _ _ _ h=>h) (by kernel_rfl) (fun w=>by kernel_rfl) hH ?_
        refine rg_pure 8 _ (.int .i64 (j:Int)) (some 18) rfl (by kernel_rfl) (by kernel_rfl) (by kernel_rfl) (by kernel_rfl) (fun _ _ _ h=>h) (by kernel_rfl) (fun w=>by kernel_rfl) hH ?_
        refine rg_pure 9 _ (.pointer (some ⟨b,o+j,none⟩)) (some 19) rfl (by kernel_rfl) (by kernel_rfl) (by kernel_rfl) (by kernel_rfl) (fun _ _ _ h=>h) (by kernel_rfl) (fun w=>rl_idx w _ _ _ _ _ 9 b o n cap j j 1 rfl (by kernel_rfl) (by kernel_rfl) Tryz.underlying26 (by kernel_rfl) HJN.out (Nat.mul_one _)) hH ?_
        refine rg_load1 10 _ 9 (.tmp 19) ⟨b,o+j,none⟩ (.string x) _ (some 20) rfl (by kernel_rfl) (by kernel_rfl) (by kernel_rfl) (by kernel_rfl) (fun _ _ _ h=>h) (by kernel_rfl) rfl (by kernel_rfl) Tryz.underlying9 rfl (fun W hW=>HX.out W hW) hH ?_
        refine rg_pure 11 _ (.int .i64 (x.size:Int)) (some 21) rfl (by kernel_rfl) (by kernel_rfl) (by kernel_rfl) (by kernel_rfl) (fun _ _ _ h=>h) (by kernel_rfl) (fun w=>by kernel_rfl) hH ?_
        refine rg_pure 12 _ (.bool false) (some 22) rfl (by kernel_rfl) (by kernel_rfl) (by kernel_rfl) (by kernel_rfl) (fun _ _ _ h=>h) (by kernel_rfl) (fun w=>rd_gtr w _ _ _ _ _ _ (x.size:Int) 2000 false rfl (by kernel_rfl) (by kernel_rfl) HS2.out) hH ?_
        refine rg_pure 13 _ (.bool false) (some 23) rfl (by kernel_rfl) (by kernel_rfl) (by kernel_rfl) (by kernel_rfl) (fun _ _ _ h=>h) (by kernel_rfl) (fun w=>by kernel_rfl) hH ?_
        refine rg_pure 14 _ (.bool false) (some 24) rfl (by kernel_rfl) (by kernel_rfl) (by kernel_rfl) (by kernel_rfl) (fun _ _ _ h=>h) (by kernel_rfl) (fun w=>by kernel_rfl) hH ?_
        refine rg_pure 15 _ (.int .i64 (j:Int)) (some 25) rfl (by kernel_rfl) (by kernel_rfl) (by kernel_rfl) (by kernel_rfl) (fun _ _ _ h=>h) (by kernel_rfl) (fun w=>by kernel_rfl) hH ?_
        refine rg_pure 16 _ (.bool true) (some 26) rfl (by kernel_rfl) (by kernel_rfl) (by kernel_rfl) (by kernel_rfl) (fun _ _ _ h=>h) (by kernel_rfl) (fun w=>rd_gtr w _ _ _ _ _ _ (j:Int) 0 true rfl (by kernel_rfl) (by kernel_rfl) HJ0.out) hH ?_
        refine rg_pure 17 _ (.bool true) (some 27) rfl (by kernel_rfl) (by kernel_rfl) (by kernel_rfl) (by kernel_rfl) (fun _ _ _ h=>h) (by kernel_rfl) (fun w=>by kernel_rfl) hH ?_
        refine rg_pure 18 _ (.slice (some ⟨b,o,none⟩) n cap) (some 28) rfl (by kernel_rfl) (by kernel_rfl) (by kernel_rfl) (by kernel_rfl) (fun _ _ _ h=>h) (by kernel_rfl) (fun w=>by kernel_rfl) hH ?_
        refine rg_pure 19 _ (.int .i64 (j:Int)) (some 29) rfl (by kernel_rfl) (by kernel_rfl) (by kernel_rfl) (by kernel_rfl) (fun _ _ _ h=>h) (by kernel_rfl) (fun w=>by kernel_rfl) hH ?_
        refine rg_pure 20 _ (.pointer (some ⟨b,o+j,none⟩)) (some 30) rfl (by kernel_rfl) (by kernel_rfl) (by kernel_rfl) (by kernel_rfl) (fun _ _ _ h=>h) (by kernel_rfl) (fun w=>rl_idx w _ _ _ _ _ 9 b o n cap j j 1 rfl (by kernel_rfl) (by kernel_rfl) Tryz.underlying26 (by kernel_rfl) HJN.out (Nat.mul_one _)) hH ?_
        refine rg_load1 21 _ 9 (.tmp 30) ⟨b,o+j,none⟩ (.string x) _ (some 31) rfl (by kernel_rfl) (by kernel_rfl) (by kernel_rfl) (by kernel_rfl) (fun _ _ _ h=>h) (by kernel_rfl) rfl (by kernel_rfl) Tryz.underlying9 rfl (fun W hW=>HX.out W hW) hH ?_
        refine rg_pure 22 _ (.slice (some ⟨b,o,none⟩) n cap) (some 32) rfl (by kernel_rfl) (by kernel_rfl) (by kernel_rfl) (by kernel_rfl) (fun _ _ _ h=>h) (by kernel_rfl) (fun w=>by kernel_rfl) hH ?_
        refine rg_pure 23 _ (.int .i64 (j:Int)) (some 33) rfl (by kernel_rfl) (by kernel_rfl) (by kernel_rfl) (by kernel_rfl) (fun _ _ _ h=>h) (by kernel_rfl) (fun w=>by kernel_rfl) hH ?_
        refine rg_pure 24 _ (.int .i64 (i:Int)) (some 34) rfl (by kernel_rfl) (by kernel_rfl) (by kernel_rfl) (by kernel_rfl) (fun _ _ _ h=>h) (by kernel_rfl) (fun w=>rd_sub w _ _ _ _ _ _ (j:Int) 1 (i:Int) rfl (by kernel_rfl) (by kernel_rfl) HSB.out HI0.out.1 HI0.out.2) hH ?_
        refine rg_pure 25 _ (.pointer (some ⟨b,o+i,none⟩)) (some 35) rfl (by kernel_rfl) (by kernel_rfl) (by kernel_rfl) (by kernel_rfl) (fun _ _ _ h=>h) (by kernel_rfl) (fun w=>rl_idx w _ _ _ _ _ 9 b o n cap i i 1 rfl (by kernel_rfl) (by kernel_rfl) Tryz.underlying26 (by kernel_rfl) HIN.out (Nat.mul_one _)) hH ?_
        refine rg_load1 26 _ 9 (.tmp 35) ⟨b,o+i,none⟩ (.string y) _ (some 36) rfl (by kernel_rfl) (by kernel_rfl) (by kernel_rfl) (by kernel_rfl) (fun _ _ _ h=>h) (by kernel_rfl) rfl (by kernel_rfl) Tryz.underlying9 rfl (fun W hW=>HPI.out W hW) hH ?_
        refine rg_pure 27 _ (.bool false) (some 37) rfl (by kernel_rfl) (by kernel_rfl) (by kernel_rfl) (by kernel_rfl) (fun _ _ _ h=>h) (by kernel_rfl) (fun w=>rd_leqSC w _ _ _ _ _ _ x y rfl (by kernel_rfl) (by kernel_rfl) HLT.out.1 HLT.out.2) hH ?_
        refine rg_pure 28 _ (.bool false) (some 38) rfl (by kernel_rfl) (by kernel_rfl) (by kernel_rfl) (by kernel_rfl) (fun _ _ _ h=>h) (by kernel_rfl) (fun w=>by kernel_rfl) hH ?_
        refine rg_pure 29 _ (.bool false) (some 39) rfl (by kernel_rfl) (by kernel_rfl) (by kernel_rfl) (by kernel_rfl) (fun _ _ _ h=>h) (by kernel_rfl) (fun w=>by kernel_rfl) hH ?_
        refine wpAnyH_done (by kernel_rfl) ?_ _
        have HFF:=Lib.hid (below_on HB.out hH)
        clear hH
        refine HJ.out _ _ ?_
        clear HJ
        simp only [Act.put,List.setIfInBounds_toArray,List.set_cons_zero,List.set_cons_succ]
        go_wp2_with fail
        go_roundg k
        case rel=>exact HNX.out _ HFF.out
        case measure=>omega
    · obtain rfl:j=bd:=by omega
      have hjz:(j:Int)<(n:Int):=by omega
      have hjl:j<l.length:=by rw [HL.out];exact hjn
      obtain ⟨b,o,rfl,hbl,hc⟩:=HRD.out wr HB.out j (by rw [sv_len];exact hjl)
      have HX:=Lib.hid (fun W (h:Below wr.heap.size wr W)=>(by
        obtain ⟨b',o',e,_,hc⟩:=HRD.out W (below_on HB.out h) j (by rw [sv_len];omega)
        cases e
        rw [sv_get _ _ (by omega)] at hc;exact hc:W.cell? ⟨b,o+j,none⟩=some (.string (l.getD j ByteArray.empty))))
      have KV:=Lib.hid (fun W=>refValid_any (l.getD j ByteArray.empty) W (by have:=HBZ.out;omega))
      rw [HBV.out] at KV
      have HJN:=Lib.hid hjn
      clear hc HRI
      generalize l.getD j ByteArray.empty=x at *
      go_upto_region 4 with fail
      refine rg_norm (fun J hJ=>?_)
      have HJ:=Lib.hid hJ
      clear hJ
      refine wp_region_held_drew (S:=fun W=>Below wr.heap.size wr W) (by kernel_rfl) (below_drew (Below.refl _ _)) (fun hH=>?_)
      refine rg_pure 0 _ (.slice (some ⟨b,o,none⟩) n cap) (some 10) rfl (by kernel_rfl) (by kernel_rfl) (by kernel_rfl) (by kernel_rfl) (fun _ _ _ h=>h) (by kernel_rfl) (fun w=>by kernel_rfl) hH ?_
      refine rg_pure 1 _ (.int .i64 (j:Int)) (some 11) rfl (by kernel_rfl) (by kernel_rfl) (by kernel_rfl) (by kernel_rfl) (fun _ _ _ h=>h) (by kernel_rfl) (fun w=>by kernel_rfl) hH ?_
      refine rg_pure 2 _ (.pointer (some ⟨b,o+j,none⟩)) (some 12) rfl (by kernel_rfl) (by kernel_rfl) (by kernel_rfl) (by kernel_rfl) (fun _ _ _ h=>h) (by kernel_rfl) (fun w=>rl_idx w _ _ _ _ _ 9 b o n cap j j 1 rfl (by kernel_rfl) (by kernel_rfl) Tryz.underlying26 (by kernel_rfl) HJN.out (Nat.mul_one _)) hH ?_
      refine rg_load1 3 _ 9 (.tmp 12) ⟨b,o+j,none⟩ (.string x) _ (some 13) rfl (by kernel_rfl) (by kernel_rfl) (by kernel_rfl) (by kernel_rfl) (fun _ _ _ h=>h) (by kernel_rfl) rfl (by kernel_rfl) Tryz.underlying9 rfl (fun W hW=>HX.out W hW) hH ?_
      refine rg_call 4 _ 118 _ _ _ _ #[.string x] (some 14) rfl (by kernel_rfl) (by kernel_rfl) (by kernel_rfl) rfl (by kernel_rfl) Tryz.func118 (by kernel_rfl) (by kernel_rfl) (by kernel_rfl) (KV.out _) ?_
      rintro r' w' ⟨rfl,hb⟩
      replace hH:=hH.trans (hb.mono hH.size)
      refine ⟨_,rfl,hH,?_⟩
      refine rg_pure 5 _ (.bool true) (some 15) rfl (by kernel_rfl) (by kernel_rfl) (by kernel_rfl) (by kernel_rfl) (fun _ _ _ h=>h) (by kernel_rfl) (fun w=>by kernel_rfl) hH ?_
      refine rg_pure 6 _ (.bool true) (some 16) rfl (by kernel_rfl) (by kernel_rfl) (by kernel_rfl) (by kernel_rfl) (fun _ _ _ h=>h) (by kernel_rfl) (fun w=>by kernel_rfl) hH ?_
      refine rg_skip 7 _ (some 17) rfl (by kernel_rfl) (by kernel_rfl) (by kernel_rfl) (by kernel_rfl) (fun _ _ _ h=>h) (by kernel_rfl) hH ?_
      refine rg_skip 8 _ (some 18) rfl (by kernel_rfl) (by kernel_rfl) (by kernel_rfl) (by kernel_rfl) (fun _ _ _ h=>h) (by kernel_rfl) hH ?_
      refine rg_skip 9 _ (some 19) rfl (by kernel_rfl) (by kernel_rfl) (by kernel_rfl) (by kernel_rfl) (fun _ _ _ h=>h) (by kernel_rfl) hH ?_
      refine rg_skip 10 _ (some 20) rfl (by kernel_rfl) (by kernel_rfl) (by kernel_rfl) (by kernel_rfl) (fun _ _ _ h=>h) (by kernel_rfl) hH ?_
      refine rg_skip 11 _ (some 21) rfl (by kernel_rfl) (by kernel_rfl) (by kernel_rfl) (by kernel_rfl) (fun _ _ _ h=>h) (by kernel_rfl) hH ?_
      refine rg_skip 12 _ (some 22) rfl (by kernel_rfl) (by kernel_rfl) (by kernel_rfl) (by kernel_rfl) (fun _ _ _ h=>h) (by kernel_rfl) hH ?_
      refine rg_pure 13 _ (.bool true) (some 23) rfl (by kernel_rfl) (by kernel_rfl) (by kernel_rfl) (by kernel_rfl) (fun _ _ _ h=>h) (by kernel_rfl) (fun w=>by kernel_rfl) hH ?_
      refine rg_pure 14 _ (.bool true) (some 24) rfl (by kernel_rfl) (by kernel_rfl) (by kernel_rfl) (by kernel_rfl) (fun _ _ _ h=>h) (by kernel_rfl) (fun w=>by kernel_rfl) hH ?_
      refine rg_skip 15 _ (some 25) rfl (by kernel_rfl) (by kernel_rfl) (by kernel_rfl) (by kernel_rfl) (fun _ _ _ h=>h) (by kernel_rfl) hH ?_
      refine rg_skip 16 _ (some 26) rfl (by kernel_rfl) (by kernel_rfl) (by kernel_rfl) (by kernel_rfl) (fun _ _ _ h=>h) (by kernel_rfl) hH ?_
      refine rg_skip 17 _ (some 27) rfl (by kernel_rfl) (by kernel_rfl) (by kernel_rfl) (by kernel_rfl) (fun _ _ _ h=>h) (by kernel_rfl) hH ?_
      refine rg_skip 18 _ (some 28) rfl (by kernel_rfl) (by kernel_rfl) (by kernel_rfl) (by kernel_rfl) (fun _ _ _ h=>h) (by kernel_rfl) hH ?_
      refine rg_skip 19 _ (some 29) rfl (by kernel_rfl) (by kernel_rfl) (by kernel_rfl) (by kernel_rfl) (fun _ _ _ h=>h) (by kernel_rfl) hH ?_
      refine rg_skip 20 _ (some 30) rfl (by kernel_rfl) (by kernel_rfl) (by kernel_rfl) (by kernel_rfl) (fun _ _ _ h=>h) (by kernel_rfl) hH ?_
      refine rg_skip 21 _ (some 31) rfl (by kernel_rfl) (by kernel_rfl) (by kernel_rfl) (by kernel_rfl) (fun _ _ _ h=>h) (by kernel_rfl) hH ?_
      refine rg_skip 22 _ (some 32) rfl (by kernel_rfl) (by kernel_rfl) (by kernel_rfl) (by kernel_rfl) (fun _ _ _ h=>h) (by kernel_rfl) hH ?_
      refine rg_skip 23 _ (some 33) rfl (by kernel_rfl) (by kernel_rfl) (by kernel_rfl) (by kernel_rfl) (fun _ _ _ h=>h) (by kernel_rfl) hH ?_
      refine rg_skip 24 _ (some 34) rfl (by kernel_rfl) (by kernel_rfl) (by kernel_rfl) (by kernel_rfl) (fun _ _ _ h=>h) (by kernel_rfl) hH ?_
      refine rg_skip 25 _ (some 35) rfl (by kernel_rfl) (by kernel_rfl) (by kernel_rfl) (by kernel_rfl) (fun _ _ _ h=>h) (by kernel_rfl) hH ?_
      refine rg_skip 26 _ (some 36) rfl (by kernel_rfl) (by kernel_rfl) (by kernel_rfl) (by kernel_rfl) (fun _ _ _ h=>h) (by kernel_rfl) hH ?_
      refine rg_skip 27 _ (some 37) rfl (by kernel_rfl) (by kernel_rfl) (by kernel_rfl) (by kernel_rfl) (fun _ _ _ h=>h) (by kernel_rfl) hH ?_
      refine rg_skip 28 _ (some 38) rfl (by kernel_rfl) (by kernel_rfl) (by kernel_rfl) (by kernel_rfl) (fun _ _ _ h=>h) (by kernel_rfl) hH ?_
      refine rg_pure 29 _ (.bool true) (some 39) rfl (by kernel_rfl) (by kernel_rfl) (by kernel_rfl) (by kernel_rfl) (fun _ _ _ h=>h) (by kernel_rfl) (fun w=>by kernel_rfl) hH ?_
      refine wpAnyH_done (by kernel_rfl) ?_ _
      have HFF:=Lib.hid (below_on HB.out hH)
      clear hH
      refine HJ.out _ _ ?_
      clear HJ
      simp only [Act.put,List.setIfInBounds_toArray,List.set_cons_zero,List.set_cons_succ]
      go_wp2_with fail
      go_ret
      exact BoolBelow.mk rfl HFF.out
theorem refFields_noC (ma:Option Addr) (mc:Nat) (ka:Option Addr) (kc:Nat) (va:Option Addr) (vc:Nat) (vn:Nat) (ks:List ByteArray) (w:World) (KN0:∀ W,Below w.heap.size w W→Calls Tryz.prog 119 #[.slice ka vn kc] W (BoolBelow false W)) :
    Calls Tryz.prog 77 #[.agg #[.int .i64 7,.bool false,.bool false,.slice ma 0 mc,.int .i64 0,.string ⟨#[]⟩,.slice ka vn kc,.slice va vn vc]] w (BoolBelow false w):=by
  have HB:=Lib.hid ((Below.refl w.heap.size w).alloc (Nat.le_refl _) (.cells #[.int .i64 7,.bool false,.bool false,.slice ma 0 mc,.int .i64 0,.string ⟨#[]⟩,.slice ka vn kc,.slice va vn vc] 29))
  have HY:=Lib.hid (fun W (h:Below (w.alloc (.cells #[.int .i64 7,.bool false,.bool false,.slice ma 0 mc,.int .i64 0,.string ⟨#[]⟩,.slice ka vn kc,.slice va vn vc] 29)).heap.size (w.alloc (.cells #[.int .i64 7,.bool false,.bool false,.slice ma 0 mc,.int .i64 0,.string ⟨#[]⟩,.slice ka vn kc,.slice va vn vc] 29)) W)=>(have q:=(h.block _ (by simp)).trans (heap_alloc_new w (.cells #[.int .i64 7,.bool false,.bool false,.slice ma 0 mc,.int .i64 0,.string ⟨#[]⟩,.slice ka vn kc,.slice va vn vc] 29));And.intro (box_cellsJC q 0 _ rfl).1 (And.intro (box_cellsJC q 1 _ rfl).1 (And.intro (box_cellsJC q 2 _ rfl).1 (And.intro (box_cellsJC q 3 _ rfl).1 (And.intro (box_cellsJC q 4 _ rfl).1 (And.intro (box_cellsJC q 5 _ rfl).1 (And.intro (box_cellsJC q 6 _ rfl).1 (box_cellsJC q 7 _ rfl).1))))))))
  have KZ:=Lib.hid (fun W=>refZero_yesC ma mc W)
  have KN:=Lib.hid KN0
  clear KN0
  go_enter Tryz.func77,Tryz.ntmps77
  go_wp2_with fail
  refine (KZ.out _).mono ?_
  rintro r w9 ⟨rfl,h9⟩
  have HF:=Lib.hid (below_on HB.out h9)
  have H9:=Lib.hid h9
  clear h9
  obtain ⟨c0,c1,c2,c3,c4,c5,c6,c7⟩:=HY.out _ H9.out
  go_wp2_with fail
  refine (KN.out _ HF.out).mono ?_
  rintro r w8 ⟨rfl,h8⟩
  replace HF:=Lib.hid (below_on HF.out h8)
  replace H9:=Lib.hid (H9.out.trans (h8.mono H9.out.size))
  clear h8 c0 c1 c2 c3 c4 c5 c6 c7
  obtain ⟨c0,c1,c2,c3,c4,c5,c6,c7⟩:=HY.out _ H9.out
  go_wp2_with fail
  go_ret
  exact BoolBelow.mk rfl HF.out
theorem refWalk_noC (v:Value) (w:World) (hv:∃ k b neg ma mn mc e s ka kn kc va vn vc,v=.agg #[.int .i64 k,.bool b,.bool neg,.slice ma mn mc,.int .i64 e,.string s,.slice ka kn kc,.slice va vn vc]) (KF0:∀ W,Below w.heap.size w W→Calls Tryz.prog 77 #[v] W (BoolBelow false W)) :
    Calls Tryz.prog 44 #[v,.int .i64 1,.int .i64 0] w (IntBelow (-1) w):=by
  obtain ⟨k,b0,neg,ma,mn,mc,e,s,ka,kn,kc,va,vn,vc,rfl⟩:=hv
  obtain ⟨W1,hW1⟩:∃ x,w.alloc (.cells #[.int .i64 k,.bool b0,.bool neg,.slice ma mn mc,.int .i64 e,.string s,.slice ka kn kc,.slice va vn vc] 29)=x:=⟨_,rfl⟩
  have hb1:Below w.heap.size w W1:=by rw [← hW1];exact (Below.refl _ _).alloc (Nat.le_refl _) _
  have HW1:=Lib.hid hW1;have HB1:=Lib.hid hb1
  have KF:=Lib.hid KF0
  clear hW1 hb1 KF0
  go_enter Tryz.func44,Tryz.ntmps44
  go_wp2_with fail
  rw [HW1.out]
  refine (KF.out _ HB1.out).mono ?_
  rintro r w2 ⟨rfl,h2⟩
  have HF:=Lib.hid (below_on HB1.out h2)
  clear h2
  go_wp2_with fail
  go_ret
  exact ⟨rfl,HF.out⟩
theorem refCheck_noC (v:Value) (w:World) (hv:∃ k b neg ma mn mc e s ka kn kc va vn vc,v=.agg #[.int .i64 k,.bool b,.bool neg,.slice ma mn mc,.int .i64 e,.string s,.slice ka kn kc,.slice va vn vc]) (KF0:∀ W,Below w.heap.size w W→Calls Tryz.prog 77 #[v] W (BoolBelow false W)) :
    Calls Tryz.prog 19 #[v] w (BoolBelow false w):=by
  have hv':=hv
  obtain ⟨k,b0,neg,ma,mn,mc,e,s,ka,kn,kc,va,vn,vc,rfl⟩:=hv
  have hb1:Below w.heap.size w (w.alloc (.cells #[.int .i64 k,.bool b0,.bool neg,.slice ma mn mc,.int .i64 e,.string s,.slice ka kn kc,.slice va vn vc] 29)):=(Below.refl _ _).alloc (Nat.le_refl _) _
  have KW:=Lib.hid (refWalk_noC _ _ hv' (fun W h=>KF0 W (hb1.trans (h.mono hb1.size))))
  have HB:=Lib.hid hb1
  clear hb1 KF0 hv'
  unfold IntBelow at KW
  go_enter Tryz.func19,Tryz.ntmps19
  go_wp2_with fail
  refine KW.out.mono ?_
  rintro r w2 ⟨rfl,h2⟩
  have HF:=Lib.hid (below_on HB.out h2)
  clear h2
  go_wp2_with fail
  go_ret
  exact BoolBelow.mk rfl HF.out
end Go.Proofs.YtnacbakcalcgaaaGreatDoor
namespace Go.Proofs.YtnacbakcalcgaaaGreatDoor
open Go.RowKit Go.Lib Go.Sort

structure Byt (w:World) (v:Value) (l:List Nat):Prop where
  at_:∃ ad n cap,v=.slice ad n cap∧l.length=n∧n≤cap∧RdV w ad (bc l)∧Shp ad cap∧(ad=none→cap=0)
theorem Byt.on {w w':World} {v:Value} {l:List Nat} (h:Byt w v l) (hb:Below w.heap.size w w'):Byt w' v l:=by
  obtain ⟨ad,n,cap,h1,h2,h3,h4,h5,h6⟩:=h.at_
  exact ⟨⟨ad,n,cap,h1,h2,h3,h4.on hb,h5,h6⟩⟩
theorem Byt.own {w:World} {B:Nat} {v:Value} {n:Nat} {l:List Nat} (h:w.ownsRow B 5 1 v n (bc l)):Byt w v l:=by
  have hl:l.length=n:=by have:=h.1;rw [bc_len] at this;omega
  rcases h.2 with ⟨rfl,h0⟩ | ⟨g,cap,cur,rfl,_,_,hc,_⟩
  · subst h0
    have:l=[]:=List.eq_nil_of_length_eq_zero hl
    subst this
    exact ⟨none,0,0,rfl,rfl,Nat.le_refl _,RdV.nil _ _,.inl ⟨rfl,rfl⟩,fun _=>rfl⟩
  · obtain ⟨ad,cap',e,_,hr,_⟩:=own_viewN h
    simp only [Value.slice.injEq] at e
    obtain ⟨rfl,_,rfl⟩:=e
    exact ⟨_,n,cap,rfl,hl,hc,hr,.inr ⟨_,_,rfl⟩,fun h=>by cases h⟩
def zc:Cel:=⟨0,false,false,none,0,0,0,⟨#[]⟩,none,0,0,none,0,0⟩
structure NumC (w:World) (c:Cel) (g:Bool) (N:Nat) (E:Int):Prop where
  neg:c.neg=g
  mn:c.mn=(limbs N).length
  e:c.e=E
  le:c.mn≤c.mc
  rd:Rd w c.ma (limbs N)
theorem NumC.on {w w':World} {c:Cel} {g:Bool} {N:Nat} {E:Int} (h:NumC w c g N E) (hb:Below w.heap.size w w'):NumC w' c g N E:=⟨h.neg,h.mn,h.e,h.le,h.rd.below hb⟩

end Go.Proofs.YtnacbakcalcgaaaGreatDoor
namespace Go.Proofs.YtnacbakcalcgaaaGreatDoor
open Go.RowKit Go.Shelf
def iz (x:Int):Value:=.int .i64 x
def IntsV (w:World) (v:Value):Prop:=∃ (a:Option Addr) (n c:Nat) (xs:List Int),v=.slice a n c∧RdV w a (xs.map iz)∧xs.length=n∧n≤c∧n≤1000000∧∀ x∈xs,-9223372036854775808≤x∧x≤9223372036854775807
theorem IntsV.on {w w':World} {v:Value} (h:IntsV w v) (hb:Below w.heap.size w w'):IntsV w' v:=by
  obtain ⟨a,n,c,xs,h1,h2,h3⟩:=h
  exact ⟨a,n,c,xs,h1,h2.on hb,h3⟩
def smB (t:MT):Bool:=decide (t.m.length≤6) && (decide (t.c.s.size≤12) && t.k.all fun k=>decide (k.size≤3))
def fitB (t:MT):Bool:=soundB t && smB t
def Fit:Nat→MT→Prop
  | 0,t=>fitB t=true∧t.v=[]
  | d+1,t=>fitB t=true∧t.v.length≤3∧∀ s∈t.v,Fit d s
theorem Fit.own {d:Nat} {t:MT} (h:Fit d t):fitB t=true:=by cases d <;> exact h.1
def AX (B:Nat) (v:Value) (k:Nat):Prop:=k<B∨v.ownBlock=some k
structure ArS (W8:World) (b8:Nat) (us:List MT) (va:Option Addr) (vc:Nat) (wr:World):Prop where
  but:But b8 W8 wr
  lt:b8<W8.heap.size
  box:BoxT wr b8 (arrC va us.length vc)
  ow:wr.ownsRow W8.heap.size 29 8 (.slice va us.length vc) us.length (flat (us.map MT.c))
  ind:Ind (AX W8.heap.size (.slice va us.length vc)) wr (fun W=>∀ x∈us,Rep W x)
theorem own_lt {w:World} {B:Nat} {e:TypeId} {size:Nat} {v:Value} {n:Nat} {xs:List Value} (h:w.ownsRow B e size v n xs) {k:Nat} (hk:v.ownBlock=some k):k<w.heap.size:=by
  obtain ⟨_,cs,h2⟩:=own_block h hk
  exact (Array.getElem?_eq_some_iff.1 h2).1
theorem ArS.step {W8 wr w1 w3 w5:World} {b8:Nat} {us:List MT} {x:MT} {va:Option Addr} {vc g cap:Nat} (h:ArS W8 b8 us va vc wr) (h1:Below wr.heap.size wr w1) (hx:Ind (fun k=>k<wr.heap.size) w1 (fun W=>Rep W x)) (h3:Below w1.heap.size w1 w3)
    (ho5:w5.ownsRow W8.heap.size 29 8 (.slice (some ⟨g,0,none⟩) (us.length+1) cap) (us.length+1) (flat (us.map MT.c)++x.c.cells)) (hg5:w3.grownBy w5 (Value.slice va us.length vc).ownBlock) (hor:(Value.slice va us.length vc).ownBlock=some g∨g=w3.heap.size) :
    ArS W8 b8 (us++[x]) (some ⟨g,0,none⟩) cap (w5.setCell ⟨b8,7,none⟩ (.slice (some ⟨g,0,none⟩) (us.length+1) cap)):=by
  have hown:∀ k,(Value.slice va us.length vc).ownBlock=some k→W8.heap.size≤k∧k<wr.heap.size:=fun k hk=>⟨(own_block h.ow hk).1,own_lt h.ow hk⟩
  have hs1:=h1.size;have hs3:=h3.size;have hs5:=hg5.size;have hlt:=h.lt;have hsw:=h.but.size
  have hgB:W8.heap.size≤g:=(own_block ho5 rfl).1
  have hset:∀ k,k ≠ b8→(w5.setCell ⟨b8,7,none⟩ (.slice (some ⟨g,0,none⟩) (us.length+1) cap)).heap[k]? = w5.heap[k]?:=fun k hk=>set_heap _ _ _ _ _ hk
  have hszs:(w5.setCell ⟨b8,7,none⟩ (.slice (some ⟨g,0,none⟩) (us.length+1) cap)).heap.size=w5.heap.size:=by simp [World.setCell]
  have hkeep:∀ k,k<w1.heap.size→(Value.slice va us.length vc).ownBlock ≠ some k→w5.heap[k]? = w1.heap[k]?:=fun k hk hne=>by
    rw [hg5.block k (by omega) (fun e=>hne e.symm),h3.block k hk]
  have hb3:Below wr.heap.size wr w3:=h1.trans (h3.mono hs1)
  have hbut5:But b8 W8 w5:=grow_but (B:=0) (h.but.trans (But.of_below hb3)) (own_onN h.ow hb3) hg5
  have hbox5:BoxT w5 b8 (arrC va us.length vc):=h.box.on (by
    rw [hkeep b8 (by have:=h.box.lt;omega) (fun e=>by have:=(hown _ e).1;omega),h1.block b8 h.box.lt])
  have hbox6:=box_set (w:=w5) hbox5 (some ⟨g,0,none⟩) (us.length+1) cap
  have e1:(us++[x]).length=us.length+1:=by simp
  have e2:flat ((us++[x]).map MT.c)=flat (us.map MT.c)++x.c.cells:=by simp [flat]
  refine ⟨hbut5.trans ((But.refl _ _).setCell _ _),hlt,by rw [e1];exact hbox6,?_,?_⟩
  · rw [e1,e2]
    exact own_heap ho5 (fun k hk=>hset k (by have:=(own_block ho5 hk).1;omega))
  · intro W hs hk y hy
    rw [hszs] at hs hk
    have hW:∀ k,k<w1.heap.size→W8.heap.size≤k→(Value.slice va us.length vc).ownBlock ≠ some k→W.heap[k]? = w1.heap[k]?:=fun k h1' h2' h3'=>by
      rw [hk k (by omega) (fun hx=>by
        rcases hx with hx | hx
        · omega
        · rw [e1] at hx
          simp only [Value.ownBlock,Option.some.injEq] at hx
          rcases hor with ho | ho
          · rw [hx] at ho;exact h3' ho
          · omega),hset k (by omega),hkeep k h1' h3']
    rcases List.mem_append.1 hy with hy | hy
    · exact h.ind W (by omega) (fun k hk1 hk2=>by
        rw [hW k (by omega) (Nat.le_of_not_lt (fun h=>hk2 (.inl h))) (fun e=>hk2 (.inr e)),h1.block k hk1]) y hy
    · rw [List.mem_singleton.1 hy]
      exact hx W (by omega) (fun k hk1 hk2=>hW k hk1 (by omega) (fun e=>by have:=(hown k e).2;omega))
theorem ArS.mid {W8 wr w1 w3 w5:World} {b8:Nat} {us:List MT} {va:Option Addr} {vc:Nat} (h:ArS W8 b8 us va vc wr) (h1:Below wr.heap.size wr w1) (h3:Below w1.heap.size w1 w3) (hg5:w3.grownBy w5 (Value.slice va us.length vc).ownBlock):BoxT w5 b8 (arrC va us.length vc):=by
  have hs1:=h1.size;have hs3:=h3.size;have hlt:=h.box.lt;have hl8:=h.lt
  refine h.box.on ?_
  rw [hg5.block b8 (by omega) (fun e=>by have:=(own_block h.ow e.symm).1;omega),h3.block b8 (by omega),h1.block b8 hlt]
end Go.Proofs.YtnacbakcalcgaaaGreatDoor
namespace Go.Proofs.YtnacbakcalcgaaaGreatDoor
open Go.RowKit Go.Lib Go.Sort
theorem strC_len (m:Nat) (s:ByteArray):(strC m s).length≤9+s.size:=by
  unfold strC
  rw [List.length_append,strN_len]
  have:=hd_len m s.size
  omega
structure TwoM (a b:ByteArray) (t:MT) (x y:ByteArray):Prop where
  c:∃ ka kc va vc,t.c=objC7 ka 2 kc va 2 vc
  m:t.m=[]
  k:t.k=[x,y]
  v:(x=a∧y=b∧t.v=[leafT 1 false ⟨#[]⟩,leafT 2 false ⟨#[]⟩])∨(x=b∧y=a∧t.v=[leafT 2 false ⟨#[]⟩,leafT 1 false ⟨#[]⟩])
  lt:ltS x y=true
theorem TwoM.two {a b:ByteArray} {t:MT} {x y:ByteArray} (h:TwoM a b t x y):Two a b t:=by
  obtain ⟨ka,kc,va,vc,hc⟩:=h.c
  refine ⟨by rw [hc];rfl,?_⟩
  rcases h.v with ⟨rfl,rfl,hv⟩ | ⟨rfl,rfl,hv⟩
  · exact .inl ⟨h.k,⟨_,_,hv,rfl,rfl,rfl⟩,h.lt⟩
  · exact .inr ⟨h.k,⟨_,_,hv,rfl,rfl,rfl⟩,h.lt⟩
theorem leaf_preC (k:Int) (b:Bool) (s:ByteArray) (d:Nat):(leafT k b s).pre d=[(d,leafT k b s)]:=by rw [MT.pre_eq];rfl
theorem TwoM.check {a b:ByteArray} {t:MT} {x y:ByteArray} (h:TwoM a b t x y):checkB t=(okN x && okN y):=by
  obtain ⟨ka,kc,va,vc,hc⟩:=h.c
  have hm:=h.m;have hk:=h.k
  have hr:risesB t.k=(okN x && okN y):=by
    rw [hk]
    unfold risesB
    show (nameAt [x,y] 0 && (nameAt [x,y] 1 && true))=_
    unfold nameAt
    show ((okN x && (decide (0=0) || _)) && ((okN y && (decide (1=0) || ltS x y)) && true))=_
    rw [h.lt]
    simp
  have hs:soundB t=(okN x && okN y):=by
    unfold soundB
    rw [hc]
    show (decide (2=2) && (risesB t.k && (decide (2≤300) && _)))=_
    rw [hr]
    simp [objC7,blankB]
    intro _ _;rfl
  have hv:∃ u v,t.v=[u,v]∧(∀ d,u.pre d=[(d,u)])∧(∀ d,v.pre d=[(d,v)])∧soundB u=true∧soundB v=true∧u.nodes=1∧v.nodes=1:=by
    rcases h.v with ⟨_,_,hv⟩ | ⟨_,_,hv⟩
    iterate 2
      · exact ⟨_,_,hv,leaf_preC _ _ _,leaf_preC _ _ _,rfl,rfl,leaf_nodesC _ _ _,leaf_nodesC _ _ _⟩
  obtain ⟨u,v,hv,h1,h2,h3,h4,h5,h6⟩:=hv
  unfold checkB
  have hn:t.nodes=3:=by rw [MT.nodes_eq,hv,MT.nodesL_cons,MT.nodesL_cons,MT.nodesL_nil,h5,h6]
  have hp:t.pre 1=[(1,t),(2,u),(2,v)]:=by
    rw [MT.pre_eq,hv,MT.preL,MT.preL,MT.preL,h1,h2];rfl
  rw [hn,hp]
  simp [hs,h3,h4]
theorem TwoM.len {a b:ByteArray} {t:MT} {x y:ByteArray} (h:TwoM a b t x y) (hne:a.toList ≠ b.toList) (ha:a.size≤300) (hb:b.size≤300):(encX t).length≤700:=by
  rw [encX_two h.two hne]
  have h1:=strC_len 3 a;have h2:=strC_len 3 b
  split <;> simp only [List.length_cons,List.length_append,List.length_nil] <;> omega
theorem put_two {a b:ByteArray}:(∃ p q,Spl [a] b p q∧((p=1∧q=1∧ltS a b=true)∨(p=0∧q=0∧ltS b a=true)))∨a.toList=b.toList:=by
  rcases sto_bytes.tot a.toList b.toList with h | h | h
  · exact .inl ⟨1,1,⟨Nat.le_refl _,by decide,Nat.le_refl _,fun j hj=>by obtain rfl:j=0:=(by omega);exact h,fun j h1 h2=>by simp at h2;omega,fun h=>by cases h⟩,.inl ⟨rfl,rfl,h⟩⟩
  · exact .inr h
  · exact .inl ⟨0,0,⟨Nat.le_refl _,Nat.zero_le _,Nat.zero_le _,fun j hj=>by omega,fun j h1 h2=>by simp at h2;obtain rfl:j=0:=(by omega);exact h,fun h=>by cases h⟩,.inr ⟨rfl,rfl,h⟩⟩
theorem ris_one (a:ByteArray):Ris [a]:=fun i j h1 h2=>by simp at h2;omega
theorem ind_leafC {X:Nat→Prop} {w:World} {k:Int} {b:Bool} {s:ByteArray} (hk:-9223372036854775808≤k∧k≤9223372036854775807) (hs:s.size≤maxLen):Ind X w (fun W=>Rep W (leafT k b s)):=fun W _ _=>leafT_rep W k b s hk hs
theorem set_one (a:ByteArray) (w:World) (ha:a.size≤maxLen):Calls Tryz.prog 24 #[(leafT 0 false ⟨#[]⟩).c.val,.string a,(leafT 1 false ⟨#[]⟩).c.val] w (SetPost (leafT 0 false ⟨#[]⟩) (leafT 1 false ⟨#[]⟩) a 0 0 (fun _=>False) w) :=
  refSet_any _ _ a 0 0 _ w (fun k h=>h.elim) (ind_leafC (by decide) (by decide)) (ind_leafC (by decide) (by decide))
    ⟨fun h=>absurd rfl h,rfl,rfl,rfl,Nat.zero_le _,fun i j _ h2=>by cases h2⟩ ⟨Nat.le_refl _,Nat.zero_le _,Nat.zero_le _,fun j h=>(by omega),fun j _ h=>(by cases h),fun h=>(by cases h)⟩ ha
theorem set_two {a b:ByteArray} {w w1:World} {e:Ending} (h:SetPost (leafT 0 false ⟨#[]⟩) (leafT 1 false ⟨#[]⟩) a 0 0 (fun _=>False) w e w1) (hne:a.toList ≠ b.toList) (hb:b.size≤maxLen) :
    ∃ ka kc va vc,e=.returned (objC7 ka 1 kc va 1 vc).val∧Below w.heap.size w w1∧Calls Tryz.prog 24 #[(objC7 ka 1 kc va 1 vc).val,.string b,(leafT 2 false ⟨#[]⟩).c.val] w1 (fun e w2=>∃ u x y ka kc va vc,TwoM a b u x y∧u.c=objC7 ka 2 kc va 2 vc∧e=.returned (objC7 ka 2 kc va 2 vc).val∧Rep w2 u∧Below w1.heap.size w1 w2):=by
  obtain ⟨u1,rfl,⟨ka,kc,va,vc,hc⟩,hm,hk,hv,hi,hb1⟩:=h
  have hk1:u1.k=[a]:=hk
  have hv1:u1.v=[leafT 1 false ⟨#[]⟩]:=hv
  rw [hk1] at hc
  refine ⟨ka,kc,va,vc,by rw [hc];rfl,hb1,?_⟩
  rcases put_two (a:=a) (b:=b) with ⟨p,q,hp,hpq⟩ | h
  · have:=refSet_any u1 (leafT 2 false ⟨#[]⟩) b p q (fun _=>False) w1 (fun k h=>h.elim) hi (ind_leafC (by decide) (by decide))
      ⟨fun _=>by rw [hc];rfl,by rw [hc,hk1];rfl,by rw [hc,hk1];rfl,by rw [hk1,hv1];rfl,by rw [hk1];exact (by decide:1≤100),by rw [hk1];exact ris_one a⟩ (by rw [hk1];exact hp) hb
    rw [hc] at this
    refine this.mono ?_
    rintro e w2 ⟨u,rfl,⟨ka2,kc2,va2,vc2,hc2⟩,hm2,hk2,hv2,hi2,hb2⟩
    rw [hk1] at hk2;rw [hv1] at hv2
    rcases hpq with ⟨rfl,rfl,hl⟩ | ⟨rfl,rfl,hl⟩
    · have k2:u.k=[a,b]:=hk2
      have v2:u.v=[leafT 1 false ⟨#[]⟩,leafT 2 false ⟨#[]⟩]:=hv2
      rw [k2] at hc2
      exact ⟨u,a,b,ka2,kc2,va2,vc2,⟨⟨_,_,_,_,hc2⟩,hm2,k2,.inl ⟨rfl,rfl,v2⟩,hl⟩,hc2,by rw [hc2];rfl,hi2.here,hb2⟩
    · have k2:u.k=[b,a]:=hk2
      have v2:u.v=[leafT 2 false ⟨#[]⟩,leafT 1 false ⟨#[]⟩]:=hv2
      rw [k2] at hc2
      exact ⟨u,b,a,ka2,kc2,va2,vc2,⟨⟨_,_,_,_,hc2⟩,hm2,k2,.inr ⟨rfl,rfl,v2⟩,hl⟩,hc2,by rw [hc2];rfl,hi2.here,hb2⟩
  · exact absurd h hne
end Go.Proofs.YtnacbakcalcgaaaGreatDoor
