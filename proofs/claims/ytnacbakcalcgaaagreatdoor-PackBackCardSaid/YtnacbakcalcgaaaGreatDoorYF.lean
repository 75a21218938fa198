/- Texts of the claim. -/
import Derived.Test.YtnacbakcalcgaaaGreatDoorYE
import Derived.Deep.CutBlock
set_option linter.unusedVariables false
set_option linter.unusedSimpArgs false
set_option maxHeartbeats 8000000
set_option maxRecDepth 100000
namespace Go.Proofs.YtnacbakcalcgaaaGreatDoor
open Go.RowKit Go.Shelf
theorem rd_leqSC {P:Program} (w:World) (ev:Operand→Value) (o:Oper) (ty ty':TypeId) (x y:Operand) (s t:ByteArray) (ho:o.op=.binOp .leq ty x y ty') (hx:ev x=.string s) (hy:ev y=.string t) (h:Op.bytesLess s.toList t.toList=false) (h2:(s.toList == t.toList)=false) :
    (execOp ev o).run P w=.ok (.value (.bool false)) w:=by
  simp [execOp,ho,hx,hy,go_sem,binOp,Op.stringOp,h,h2]
theorem box_cellsJC {W:World} {b:Nat} {c:Array Value} {t:TypeId} (h:W.heap[b]? = some (.cells c t)) (i:Nat) (v:Value) (hv:c[i]? = some v):W.cell? ⟨b,i,none⟩=some v∧W.frozen? ⟨b,i,none⟩=false:=by
  simp [World.cell?,World.frozen?,h,hv]
def NRfC (l:List ByteArray) (w:World) (k:Nat) (i:Value) (wr:World):Prop :=
  ∃ j:Nat,j≤l.length∧l.length - j≤k∧i=.int .i64 (j:Int)∧Below w.heap.size w wr
theorem refNames_yesC (ad:Option Addr) (n cap:Nat) (l:List ByteArray) (w:World) (hl:l.length=n) (hcap:n≤cap) (hr:RdV w ad (sv l)) (h3:n≤300) (hri:risesB l=true) :
    Calls Tryz.prog 119 #[.slice ad n cap] w (BoolBelow true w):=by
  have HL:=Lib.hid hl
  have HRD:=Lib.hid (fun W (h:Below w.heap.size w W)=>hr.on h)
  have HRI:=Lib.hid (risesB_iff.1 hri)
  have H3:=Lib.hid h3
  clear hl hr hri
  have HST:=Lib.hid (show NRfC l w n (.int .i64 0) w from ⟨0,Nat.zero_le _,by rw [HL.out];omega,rfl,Below.refl _ _⟩)
  go_enter Tryz.func119,Tryz.ntmps119
  go_wp2
  go_loopg [3] n (fun k i wr=>NRfC l w k i wr)
  case atStart=>exact HST.out
  case round =>
    clear HST
    obtain ⟨j,hj,hk,rfl,hb⟩:=hrel
    rw [HL.out] at hj hk
    have HB:=Lib.hid hb
    clear hb
    by_cases hlt:j<n
    · obtain ⟨k,rfl⟩:∃ k,gk=k+1:=⟨gk - 1,by omega⟩
      have hjz:(j:Int)<(n:Int):=by omega
      have hjl:j<l.length:=by rw [HL.out];exact hlt
      obtain ⟨b,o,rfl,hbl,hc⟩:=HRD.out wr HB.out j (by rw [sv_len];exact hjl)
      have HNX:=Lib.hid (fun W (h:Below w.heap.size w W)=>(show NRfC l w k (.int .i64 ((j:Int)+1)) W from ⟨j+1,by rw [HL.out];omega,by rw [HL.out];omega,rfl,h⟩))
      have HX:=Lib.hid (fun W (h:Below wr.heap.size wr W)=>(by
        obtain ⟨b',o',e,_,hc⟩:=HRD.out W (below_on HB.out h) j (by rw [sv_len];omega)
        cases e
        rw [sv_get _ _ (by omega)] at hc;exact hc:W.cell? ⟨b,o+j,none⟩=some (.string (l.getD j ByteArray.empty))))
      have HPR:=Lib.hid (fun W (h:Below wr.heap.size wr W) (i:Nat) (h0:j=i+1)=>(by
        obtain ⟨b',o',e,_,hc⟩:=HRD.out W (below_on HB.out h) i (by rw [sv_len];omega)
        cases e
        rw [sv_get _ _ (by omega)] at hc;exact hc:W.cell? ⟨b,o+i,none⟩=some (.string (l.getD i ByteArray.empty))))
      have hna:=HRI.out j hjl
      unfold nameAt at hna
      rw [Bool.and_eq_true,Bool.or_eq_true] at hna
      obtain ⟨hok,hlr⟩:=hna
      unfold okN at hok
      rw [Bool.and_eq_true] at hok
      have hs2:=of_decide_eq_true hok.1
      have KV:=Lib.hid (fun W=>refValid_any (l.getD j ByteArray.empty) W (by omega))
      rw [hok.2] at KV
      have HS2:=Lib.hid (show decide ((2000:Int)<((l.getD j ByteArray.empty).size:Int))=false from decide_eq_false (by omega))
      have HJN:=Lib.hid hlt
      clear hok hc
      by_cases h0:j=0
      · have HJ0:=Lib.hid (show decide ((0:Int)<(j:Int))=false from decide_eq_false (by omega))
        clear hlr h0 hs2
        generalize l.getD j ByteArray.empty=x at *
        go_upto_region 4 with fail
        refine rg_norm (fun J hJ=>?_)
        have HJ:=Lib.hid hJ
        clear hJ
        refine wp_region_held_drew (S:=fun W=>Below wr.heap.size wr W) (by kernel_rfl) (below_drew (Below.refl _ _)) (fun hH=>?_)
        refine rg_pure 0 _ (.slice (some ⟨b,o,none⟩) n cap) (some 10) rfl (by kernel_rfl) (by kernel_rfl) (by kernel_rfl) (by kernel_rfl) (fun _ _ _ h=>h) (by kernel_rfl) (fun w=>by kernel_rfl) hH ?_
        refine rg_pure 1 _ (.int .i64 (j:Int)) (some 11) rfl (by kernel_rfl) (by kernel_rfl) (by kernel_rfl) (by kernel_rfl) (fun _ _ _ h=>h) (by kernel_rfl) (fun w=>by kernel_rfl) hH ?_
        refine rg_pure 2 _ (.pointer (some ⟨b,o+j,none⟩)) (some 12) rfl (by kernel_rfl) (by kernel_rfl) (by kernel_rfl) (by kernel_rfl) (fun _ _ _ h=>h) (by kernel_rfl) (fun w=>rl_idx w _ _ _ _ _ 9 b o n cap j j 1 rfl (by kernel_rfl) (by kernel_rfl) Tryz.underlying26 (by kernel_rfl) HJN.out (Nat.mul_one _)) hH ?_
        refine rg_load1 3 _ 9 (.tmp 12) ⟨b,o+j,none⟩ (.string x) _ (some 13) rfl (by kernel_rfl) (by kernel_rfl) (by kernel_rfl) (by kernel_rfl) (fun _ _ _ h=>h) (by kernel_rfl) rfl (by kernel_rfl) Tryz.underlying9 rfl (fun W hW=>HX.out W hW) hH ?_
        refine rg_call 4 _ 118 _ _ _ _ #[.string x] (some 14) rfl (by kernel_rfl) (by kernel_rfl) (by kernel_rfl) rfl (by kernel_rfl) Tryz.func118 (by kernel_rfl) (by kernel_rfl) (by kernel_rfl) (KV.out _) ?_
        rintro r' w' ⟨rfl,hb⟩
        replace hH:=hH.trans (hb.mono hH.size)
        refine ⟨_,rfl,hH,?_⟩
        refine rg_pure 5 _ (.bool false) (some 15) rfl (by kernel_rfl) (by kernel_rfl) (by kernel_rfl) (by kernel_rfl) (fun _ _ _ h=>h) (by kernel_rfl) (fun w=>by kernel_rfl) hH ?_
        refine rg_pure 6 _ (.bool false) (some 16) rfl (by kernel_rfl) (by kernel_rfl) (by kernel_rfl) (by kernel_rfl) (fun _ _ _ h=>h) (by kernel_rfl) (fun w=>by kernel_rfl) hH ?_
        refine rg_pure 7 _ (.slice (some ⟨b,o,none⟩) n cap) (some 17) rfl (by kernel_rfl) (by kernel_rfl) (by kernel_rfl) (by kernel_rfl) (fun _ _ _ h=>h) (by kernel_rfl) (fun w=>by kernel_rfl) hH ?_
        refine rg_pure 8 _ (.int .i64 (j:Int)) (some 18) rfl (by kernel_rfl) (by kernel_rfl) (by kernel_rfl) (by kernel_rfl) (fun _ _ _ h=>h) (by kernel_rfl) (fun w=>by kernel_rfl) hH ?_
        refine rg_pure 9 _ (.pointer (some ⟨b,o+j,none⟩)) (some 19) rfl (by kernel_rfl) (by kernel_rfl) (by kernel_rfl) (by kernel_rfl) (fun _ _ _ h=>h) (by kernel_rfl) (fun w=>rl_idx w _ _ _ _ _ 9 b o n cap j j 1 rfl (by kernel_rfl) (by kernel_rfl) Tryz.underlying26 (by kernel_rfl) HJN.out (Nat.mul_one _)) hH ?_
        refine rg_load1 10 _ 9 (.tmp 19) ⟨b,o+j,none⟩ (.string x) _ (some 20) rfl (by kernel_rfl) (by kernel_rfl) (by kernel_rfl) (by kernel_rfl) (fun _ _ _ h=>h) (by kernel_rfl) rfl (by kernel_rfl) Tryz.underlying9 rfl (fun W hW=>HX.out W hW) hH ?_
        refine rg_pure 11 _ (.int .i64 (x.size:Int)) (some 21) rfl (by kernel_rfl) (by kernel_rfl) (by kernel_rfl) (by kernel_rfl) (fun _ _ _ h=>h) (by kernel_rfl) (fun w=>by kernel_rfl) hH ?_
        refine rg_pure 12 _ (.bool false) (some 22) rfl (by kernel_rfl) (by kernel_rfl) (by kernel_rfl) (by kernel_rfl) (fun _ _ _ h=>h) (by kernel_rfl) (fun w=>rd_gtr w _ _ _ _ _ _ (x.size:Int) 2000 false rfl (by kernel_rfl) (by kernel_rfl) HS2.out) hH ?_
        refine rg_pure 13 _ (.bool false) (some 23) rfl (by kernel_rfl) (by kernel_rfl) (by kernel_rfl) (by kernel_rfl) (fun _ _ _ h=>h) (by kernel_rfl) (fun w=>by kernel_rfl) hH ?_
        refine rg_pure 14 _ (.bool false) (some 24) rfl (by kernel_rfl) (by kernel_rfl) (by kernel_rfl) (by kernel_rfl) (fun _ _ _ h=>h) (by kernel_rfl) (fun w=>by kernel_rfl) hH ?_
        refine rg_pure 15 _ (.int .i64 (j:Int)) (some 25) rfl (by kernel_rfl) (by kernel_rfl) (by kernel_rfl) (by kernel_rfl) (fun _ _ _ h=>h) (by kernel_rfl) (fun w=>by kernel_rfl) hH ?_
        refine rg_pure 16 _ (.bool false) (some 26) rfl (by kernel_rfl) (by kernel_rfl) (by kernel_rfl) (by kernel_rfl) (fun _ _ _ h=>h) (by kernel_rfl) (fun w=>rd_gtr w _ _ _ _ _ _ (j:Int) 0 false rfl (by kernel_rfl) (by kernel_rfl) HJ0.out) hH ?_
        refine rg_pure 17 _ (.bool false) (some 27) rfl (by kernel_rfl) (by kernel_rfl) (by kernel_rfl) (by kernel_rfl) (fun _ _ _ h=>h) (by kernel_rfl) (fun w=>by kernel_rfl) hH ?_
        refine rg_skip 18 _ (some 28) rfl (by kernel_rfl) (by kernel_rfl) (by kernel_rfl) (by kernel_rfl) (fun _ _ _ h=>h) (by kernel_rfl) hH ?_
        refine rg_skip 19 _ (some 29) rfl (by kernel_rfl) (by kernel_rfl) (by kernel_rfl) (by kernel_rfl) (fun _ _ _ h=>h) (by kernel_rfl) hH ?_
        refine rg_skip 20 _ (some 30) rfl (by kernel_rfl) (by kernel_rfl) (by kernel_rfl) (by kernel_rfl) (fun _ _ _ h=>h) (by kernel_rfl) hH ?_
        refine rg_skip 21 _ (some 31) rfl (by kernel_rfl) (by kernel_rfl) (by kernel_rfl) (by kernel_rfl) (fun _ _ _ h=>h) (by kernel_rfl) hH ?_
        refine rg_skip 22 _ (some 32) rfl (by kernel_rfl) (by kernel_rfl) (by kernel_rfl) (by kernel_rfl) (fun _ _ _ h=>h) (by kernel_rfl) hH ?_
        refine rg_skip 23 _ (some 33) rfl (by kernel_rfl) (by kernel_rfl) (by kernel_rfl) (by kernel_rfl) (fun _ _ _ h=>h) (by kernel_rfl) hH ?_
        refine rg_skip 24 _ (some 34) rfl (by kernel_rfl) (by kernel_rfl) (by kernel_rfl) (by kernel_rfl) (fun _ _ _ h=>h) (by kernel_rfl) hH ?_
        refine rg_skip 25 _ (some 35) rfl (by kernel_rfl) (by kernel_rfl) (by kernel_rfl) (by kernel_rfl) (fun _ _ _ h=>h) (by kernel_rfl) hH ?_
        refine rg_skip 26 _ (some 36) rfl (by kernel_rfl) (by kernel_rfl) (by kernel_rfl) (by kernel_rfl) (fun _ _ _ h=>h) (by kernel_rfl) hH ?_
        refine rg_skip 27 _ (some 37) rfl (by kernel_rfl) (by kernel_rfl) (by kernel_rfl) (by kernel_rfl) (fun _ _ _ h=>h) (by kernel_rfl) hH ?_
        refine rg_pure 28 _ (.bool false) (some 38) rfl (by kernel_rfl) (by kernel_rfl) (by kernel_rfl) (by kernel_rfl) (fun _ _ _ h=>h) (by kernel_rfl) (fun w=>by kernel_rfl) hH ?_
        refine rg_pure 29 _ (.bool false) (some 39) rfl (by kernel_rfl) (by kernel_rfl) (by kernel_rfl) (by kernel_rfl) (fun _ _ _ h=>h) (by kernel_rfl) (fun w=>by kernel_rfl) hH ?_
        refine wpAnyH_done (by kernel_rfl) ?_ _
        have HFF:=Lib.hid (below_on HB.out hH)
        clear hH
        refine HJ.out _ _ ?_
        clear HJ
        simp only [Act.put,List.setIfInBounds_toArray,List.set_cons_zero,List.set_cons_succ]
        go_wp2_with fail
        go_roundg k
        case rel=>exact HNX.out _ HFF.out
        case measure=>omega
      · obtain ⟨i,hji⟩:∃ i,j=i+1:=⟨j - 1,by omega⟩
        have HJ0:=Lib.hid (show decide ((0:Int)<(j:Int))=true from decide_eq_true (by omega))
        have hlt2:ltS (l.getD i ByteArray.empty) (l.getD j ByteArray.empty)=true:=by
          rcases hlr with h | h
          · exact absurd (of_decide_eq_true h) h0
          · rwa [show j - 1=i by omega] at h
        have HLT:=Lib.hid (ltS_yes hlt2)
        have HPI:=Lib.hid (fun W h=>HPR.out W h i hji)
        have HSB:=Lib.hid (show (j:Int) - 1=(i:Int) by omega)
        have HIN:=Lib.hid (show i<n by omega)
        have HI0:=Lib.hid (show (-9223372036854775808:Int)≤(i:Int)∧(i:Int)≤9223372036854775807 by have:=H3.out;omega)
        clear hlr h0 hs2 hlt2 hji HPR
        generalize l.getD j ByteArray.empty=x at *
        generalize l.getD i ByteArray.empty=y at *
        go_upto_region 4 with fail
        refine rg_norm (fun J hJ=>?_)
        have HJ:=Lib.hid hJ
        clear hJ
        refine wp_region_held_drew (S:=fun W=>Below wr.heap.size wr W) (by kernel_rfl) (below_drew (Below.refl _ _)) (fun hH=>?_)
        refine rg_pure 0 _ (.slice (some ⟨b,o,none⟩) n cap) (some 10) rfl (by kernel_rfl) (by kernel_rfl) (by kernel_rfl) (by kernel_rfl) (fun _ _ _ h=>h) (by kernel_rfl) (fun w=>by kernel_rfl) hH ?_
        refine rg_pure 1 _ (.int .i64 (j:Int)) (some 11) rfl (by kernel_rfl) (by kernel_rfl) (by kernel_rfl) (by kernel_rfl) (fun _ _ _ h=>h) (by kernel_rfl) (fun w=>by kernel_rfl) hH ?_
        refine rg_pure 2 _ (.pointer (some ⟨b,o+j,none⟩)) (some 12) rfl (by kernel_rfl) (by kernel_rfl) (by kernel_rfl) (by kernel_rfl) (fun _ _ _ h=>h) (by kernel_rfl) (fun w=>rl_idx w _ _ _ _ _ 9 b o n cap j j 1 rfl (by kernel_rfl) (by kernel_rfl) Tryz.underlying26 (by kernel_rfl) HJN.out (Nat.mul_one _)) hH ?_
        refine rg_load1 3 _ 9 (.tmp 12) ⟨b,o+j,none⟩ (.string x) _ (some 13) rfl (by kernel_rfl) (by kernel_rfl) (by kernel_rfl) (by kernel_rfl) (fun _ _ _ h=>h) (by kernel_rfl) rfl (by kernel_rfl) Tryz.underlying9 rfl (fun W hW=>HX.out W hW) hH ?_
        refine rg_call 4 _ 118 _ _ _ _ #[.string x] (some 14) rfl (by kernel_rfl) (by kernel_rfl) (by kernel_rfl) rfl (by kernel_rfl) Tryz.func118 (by kernel_rfl) (by kernel_rfl) (by kernel_rfl) (KV.out _) ?_
        rintro r' w' ⟨rfl,hb⟩
        replace hH:=hH.trans (hb.mono hH.size)
        refine ⟨_,rfl,hH,?_⟩
        refine rg_pure 5 _ (.bool false) (some 15) rfl (by kernel_rfl) (by kernel_rfl) (by kernel_rfl) (by kernel_rfl) (fun _ _ _ h=>h) (by kernel_rfl) (fun w=>by kernel_rfl) hH ?_
        refine rg_pure 6 _ (.bool false) (some 16) rfl (by kernel_rfl) (by kernel_rfl) (by kernel_rfl) (by kernel_rfl) (fun _ _ _ h=>h) (by kernel_rfl) (fun w=>by kernel_rfl) hH ?_
        refine rg_pure 7 _ (.slice (some ⟨b,o,none⟩) n cap) (some 17) rfl (by kernel_rfl) (by kernel_rfl) (by kernel_rfl) (by kernel_rfl) (fun _ _ _ h=>h) (by kernel_rfl) (fun w=>by kernel_rfl) hH ?_
        refine rg_pure 8 _ (.int .i64 (j:Int)) (some 18) rfl (by kernel_rfl) (by kernel_rfl) (by kernel_rfl) (by kernel_rfl) (fun _ _ _ h=>h) (by kernel_rfl) (fun w=>by kernel_rfl) hH ?_
        refine rg_pure 9 _ (.pointer (some ⟨b,o+j,none⟩)) (some 19) rfl (by kernel_rfl) (by kernel_rfl) (by kernel_rfl) (by kernel_rfl) (fun _ _ _ h=>h) (by kernel_rfl) (fun w=>rl_idx w _ _ _ _ _ 9 b o n cap j j 1 rfl (by kernel_rfl) (by kernel_rfl) Tryz.underlying26 (by kernel_rfl) HJN.out (Nat.mul_one _)) hH ?_
        refine rg_load1 10 _ 9 (.tmp 19) ⟨b,o+j,none⟩ (.string x) _ (some 20) rfl (by kernel_rfl) (by kernel_rfl) (by kernel_rfl) (by kernel_rfl) (fun _ _ _ h=>h) (by kernel_rfl) rfl (by kernel_rfl) Tryz.underlying9 rfl (fun W hW=>HX.out W hW) hH ?_
        refine rg_pure 11 _ (.int .i64 (x.size:Int)) (some 21) rfl (by kernel_rfl) (by kernel_rfl) (by kernel_rfl) (by kernel_rfl) (fun _ _ _ h=>h) (by kernel_rfl) (fun w=>by kernel_rfl) hH ?_
        refine rg_pure 12 _ (.bool false) (some 22) rfl (by kernel_rfl) (by kernel_rfl) (by kernel_rfl) (by kernel_rfl) (fun _ _ _ h=>h) (by kernel_rfl) (fun w=>rd_gtr w _ _ _ _ _ _ (x.size:Int) 2000 false rfl (by kernel_rfl) (by kernel_rfl) HS2.out) hH ?_
        refine rg_pure 13 _ (.bool false) (some 23) rfl (by kernel_rfl) (by kernel_rfl) (by kernel_rfl) (by kernel_rfl) (fun _ _ _ h=>h) (by kernel_rfl) (fun w=>by kernel_rfl) hH ?_
        refine rg_pure 14 _ (.bool false) (some 24) rfl (by kernel_rfl) (by kernel_rfl) (by kernel_rfl) (by kernel_rfl) (fun _ _ _ h=>h) (by kernel_rfl) (fun w=>by kernel_rfl) hH ?_
        refine rg_pure 15 _ (.int .i64 (j:Int)) (some 25) rfl (by kernel_rfl) (by kernel_rfl) (by kernel_rfl) (by kernel_rfl) (fun _ _ _ h=>h) (by kernel_rfl) (fun w=>by kernel_rfl) hH ?_
        refine rg_pure 16 _ (.bool true) (some 26) rfl (by kernel_rfl) (by kernel_rfl) (by kernel_rfl) (by kernel_rfl) (fun _ _ _ h=>h) (by kernel_rfl) (fun w=>rd_gtr w _ _ _ _ _ _ (j:Int) 0 true rfl (by kernel_rfl) (by kernel_rfl) HJ0.out) hH ?_
        refine rg_pure 17 _ (.bool true) (some 27) rfl (by kernel_rfl) (by kernel_rfl) (by kernel_rfl) (by kernel_rfl) (fun _ _ _ h=>h) (by kernel_rfl) (fun w=>by kernel_rfl) hH ?_
        refine rg_pure 18 _ (.slice (some ⟨b,o,none⟩) n cap) (some 28) rfl (by kernel_rfl) (by kernel_rfl) (by kernel_rfl) (by kernel_rfl) (fun _ _ _ h=>h) (by kernel_rfl) (fun w=>by kernel_rfl) hH ?_
        refine rg_pure 19 _ (.int .i64 (j:Int)) (some 29) rfl (by kernel_rfl) (by kernel_rfl) (by kernel_rfl) (by kernel_rfl) (fun _ _ _ h=>h) (by kernel_rfl) (fun w=>by kernel_rfl) hH ?_
        refine rg_pure 20 _ (.pointer (some ⟨b,o+j,none⟩)) (some 30) rfl (by kernel_rfl) (by kernel_rfl) (by kernel_rfl) (by kernel_rfl) (fun _ _ _ h=>h) (by kernel_rfl) (fun w=>rl_idx w _ _ _ _ _ 9 b o n cap j j 1 rfl (by kernel_rfl) (by kernel_rfl) Tryz.underlying26 (by kernel_rfl) HJN.out (Nat.mul_one _)) hH ?_
        refine rg_load1 21 _ 9 (.tmp 30) ⟨b,o+j,none⟩ (.string x) _ (some 31) rfl (by kernel_rfl) (by kernel_rfl) (by kernel_rfl) (by kernel_rfl) (fun _ _ _ h=>h) (by kernel_rfl) rfl (by kernel_rfl) Tryz.underlying9 rfl (fun W hW=>HX.out W hW) hH ?_
        refine rg_pure 22 _ (.slice (some ⟨b,o,none⟩) n cap) (some 32) rfl (by kernel_rfl) (by kernel_rfl) (by kernel_rfl) (by kernel_rfl) (fun _ _ _ h=>h) (by kernel_rfl) (fun w=>by kernel_rfl) hH ?_
        refine rg_pure 23 _ (.int .i64 (j:Int)) (some 33) rfl (by kernel_rfl) (by kernel_rfl) (by kernel_rfl) (by kernel_rfl) (fun _ _ _ h=>h) (by kernel_rfl) (fun w=>by kernel_rfl) hH ?_
        refine rg_pure 24 _ (.int .i64 (i:Int)) (some 34) rfl (by kernel_rfl) (by kernel_rfl) (by kernel_rfl) (by kernel_rfl) (fun _ _ _ h=>h) (by kernel_rfl) (fun w=>rd_sub w _ _ _ _ _ _ (j:Int) 1 (i:Int) rfl (by kernel_rfl) (by kernel_rfl) HSB.out HI0.out.1 HI0.out.2) hH ?_
        refine rg_pure 25 _ (.pointer (some ⟨b,o+i,none⟩)) (some 35) rfl (by kernel_rfl) (by kernel_rfl) (by kernel_rfl) (by kernel_rfl) (fun _ _ _ h=>h) (by kernel_rfl) (fun w=>rl_idx w _ _ _ _ _ 9 b o n cap i i 1 rfl (by kernel_rfl) (by kernel_rfl) Tryz.underlying26 (by kernel_rfl) HIN.out (Nat.mul_one _)) hH ?_
        refine rg_load1 26 _ 9 (.tmp 35) ⟨b,o+i,none⟩ (.string y) _ (some 36) rfl (by kernel_rfl) (by kernel_rfl) (by kernel_rfl) (by kernel_rfl) (fun _ _ _ h=>h) (by kernel_rfl) rfl (by kernel_rfl) Tryz.underlying9 rfl (fun W hW=>HPI.out W hW) hH ?_
        refine rg_pure 27 _ (.bool false) (some 37) rfl (by kernel_rfl) (by kernel_rfl) (by kernel_rfl) (by kernel_rfl) (fun _ _ _ h=>h) (by kernel_rfl) (fun w=>rd_leqSC w _ _ _ _ _ _ x y rfl (by kernel_rfl) (by kernel_rfl) HLT.out.1 HLT.out.2) hH ?_
        refine rg_pure 28 _ (.bool false) (some 38) rfl (by kernel_rfl) (by kernel_rfl) (by kernel_rfl) (by kernel_rfl) (fun _ _ _ h=>h) (by kernel_rfl) (fun w=>by kernel_rfl) hH ?_
        refine rg_pure 29 _ (.bool false) (some 39) rfl (by kernel_rfl) (by kernel_rfl) (by kernel_rfl) (by kernel_rfl) (fun _ _ _ h=>h) (by kernel_rfl) (fun w=>by kernel_rfl) hH ?_
        refine wpAnyH_done (by kernel_rfl) ?_ _
        have HFF:=Lib.hid (below_on HB.out hH)
        clear hH
        refine HJ.out _ _ ?_
        clear HJ
        simp only [Act.put,List.setIfInBounds_toArray,List.set_cons_zero,List.set_cons_succ]
        go_wp2_with fail
        go_roundg k
        case rel=>exact HNX.out _ HFF.out
        case measure=>omega
    · have hjz:¬ (j:Int)<(n:Int):=by omega
      have h3z:(n:Int)≤300:=by have:=H3.out;omega
      go_wp2
      go_ret
      exact BoolBelow.mk rfl HB.out
theorem refZero_yesC (ma:Option Addr) (mc:Nat) (w:World):Calls Tryz.prog 117 #[.agg #[.bool false,.slice ma 0 mc,.int .i64 0]] w (BoolBelow true w):=by
  have HB:=Lib.hid ((Below.refl w.heap.size w).alloc (Nat.le_refl _) (.cells #[.bool false,.slice ma 0 mc,.int .i64 0] 25))
  go_enter Tryz.func117,Tryz.ntmps117
  go_wp2
  go_ret
  exact BoolBelow.mk rfl HB.out
theorem fieldsC_1 (ma:Option Addr) (mc:Nat) (ka:Option Addr) (kc:Nat) (va:Option Addr) (vc:Nat) (w:World)  :
    Calls Tryz.prog 77 #[.agg #[.int .i64 1,.bool false,.bool false,.slice ma 0 mc,.int .i64 0,.string ⟨#[]⟩,.slice ka 0 kc,.slice va 0 vc]] w (BoolBelow true w):=by
  have HB:=Lib.hid ((Below.refl w.heap.size w).alloc (Nat.le_refl _) (.cells #[.int .i64 1,.bool false,.bool false,.slice ma 0 mc,.int .i64 0,.string ⟨#[]⟩,.slice ka 0 kc,.slice va 0 vc] 29))
  have HY:=Lib.hid (fun W (h:Below (w.alloc (.cells #[.int .i64 1,.bool false,.bool false,.slice ma 0 mc,.int .i64 0,.string ⟨#[]⟩,.slice ka 0 kc,.slice va 0 vc] 29)).heap.size (w.alloc (.cells #[.int .i64 1,.bool false,.bool false,.slice ma 0 mc,.int .i64 0,.string ⟨#[]⟩,.slice ka 0 kc,.slice va 0 vc] 29)) W)=>(have q:=(h.block _ (by simp)).trans (heap_alloc_new w (.cells #[.int .i64 1,.bool false,.bool false,.slice ma 0 mc,.int .i64 0,.string ⟨#[]⟩,.slice ka 0 kc,.slice va 0 vc] 29));And.intro (box_cellsJC q 0 _ rfl).1 (And.intro (box_cellsJC q 1 _ rfl).1 (And.intro (box_cellsJC q 2 _ rfl).1 (And.intro (box_cellsJC q 3 _ rfl).1 (And.intro (box_cellsJC q 4 _ rfl).1 (And.intro (box_cellsJC q 5 _ rfl).1 (And.intro (box_cellsJC q 6 _ rfl).1 (box_cellsJC q 7 _ rfl).1))))))))
  have KZ:=Lib.hid (fun W=>refZero_yesC ma mc W)
  go_enter Tryz.func77,Tryz.ntmps77
  go_wp2_with fail
  refine (KZ.out _).mono ?_
  rintro r w9 ⟨rfl,h9⟩
  have HF:=Lib.hid (below_on HB.out h9)
  have H9:=Lib.hid h9
  clear h9
  obtain ⟨c0,c1,c2,c3,c4,c5,c6,c7⟩:=HY.out _ H9.out
  go_wp2_with fail
  go_ret
  exact BoolBelow.mk rfl HF.out
theorem fieldsC_2 (ma:Option Addr) (mc:Nat) (ka:Option Addr) (kc:Nat) (va:Option Addr) (vc:Nat) (b:Bool) (w:World)  :
    Calls Tryz.prog 77 #[.agg #[.int .i64 2,.bool b,.bool false,.slice ma 0 mc,.int .i64 0,.string ⟨#[]⟩,.slice ka 0 kc,.slice va 0 vc]] w (BoolBelow true w):=by
  have HB:=Lib.hid ((Below.refl w.heap.size w).alloc (Nat.le_refl _) (.cells #[.int .i64 2,.bool b,.bool false,.slice ma 0 mc,.int .i64 0,.string ⟨#[]⟩,.slice ka 0 kc,.slice va 0 vc] 29))
  have HY:=Lib.hid (fun W (h:Below (w.alloc (.cells #[.int .i64 2,.bool b,.bool false,.slice ma 0 mc,.int .i64 0,.string ⟨#[]⟩,.slice ka 0 kc,.slice va 0 vc] 29)).heap.size (w.alloc (.cells #[.int .i64 2,.bool b,.bool false,.slice ma 0 mc,.int .i64 0,.string ⟨#[]⟩,.slice ka 0 kc,.slice va 0 vc] 29)) W)=>(have q:=(h.block _ (by simp)).trans (heap_alloc_new w (.cells #[.int .i64 2,.bool b,.bool false,.slice ma 0 mc,.int .i64 0,.string ⟨#[]⟩,.slice ka 0 kc,.slice va 0 vc] 29));And.intro (box_cellsJC q 0 _ rfl).1 (And.intro (box_cellsJC q 1 _ rfl).1 (And.intro (box_cellsJC q 2 _ rfl).1 (And.intro (box_cellsJC q 3 _ rfl).1 (And.intro (box_cellsJC q 4 _ rfl).1 (And.intro (box_cellsJC q 5 _ rfl).1 (And.intro (box_cellsJC q 6 _ rfl).1 (box_cellsJC q 7 _ rfl).1))))))))
  have KZ:=Lib.hid (fun W=>refZero_yesC ma mc W)
  go_enter Tryz.func77,Tryz.ntmps77
  go_wp2_with fail
  refine (KZ.out _).mono ?_
  rintro r w9 ⟨rfl,h9⟩
  have HF:=Lib.hid (below_on HB.out h9)
  have H9:=Lib.hid h9
  clear h9
  obtain ⟨c0,c1,c2,c3,c4,c5,c6,c7⟩:=HY.out _ H9.out
  go_wp2_with fail
  go_ret
  exact BoolBelow.mk rfl HF.out
theorem fieldsC_4 (ma:Option Addr) (mc:Nat) (ka:Option Addr) (kc:Nat) (va:Option Addr) (vc:Nat) (s:ByteArray) (w:World) (hs:s.size≤2000) (hv:validL s.data.toList=true) :
    Calls Tryz.prog 77 #[.agg #[.int .i64 4,.bool false,.bool false,.slice ma 0 mc,.int .i64 0,.string s,.slice ka 0 kc,.slice va 0 vc]] w (BoolBelow true w):=by
  have HB:=Lib.hid ((Below.refl w.heap.size w).alloc (Nat.le_refl _) (.cells #[.int .i64 4,.bool false,.bool false,.slice ma 0 mc,.int .i64 0,.string s,.slice ka 0 kc,.slice va 0 vc] 29))
  have HY:=Lib.hid (fun W (h:Below (w.alloc (.cells #[.int .i64 4,.bool false,.bool false,.slice ma 0 mc,.int .i64 0,.string s,.slice ka 0 kc,.slice va 0 vc] 29)).heap.size (w.alloc (.cells #[.int .i64 4,.bool false,.bool false,.slice ma 0 mc,.int .i64 0,.string s,.slice ka 0 kc,.slice va 0 vc] 29)) W)=>(have q:=(h.block _ (by simp)).trans (heap_alloc_new w (.cells #[.int .i64 4,.bool false,.bool false,.slice ma 0 mc,.int .i64 0,.string s,.slice ka 0 kc,.slice va 0 vc] 29));And.intro (box_cellsJC q 0 _ rfl).1 (And.intro (box_cellsJC q 1 _ rfl).1 (And.intro (box_cellsJC q 2 _ rfl).1 (And.intro (box_cellsJC q 3 _ rfl).1 (And.intro (box_cellsJC q 4 _ rfl).1 (And.intro (box_cellsJC q 5 _ rfl).1 (And.intro (box_cellsJC q 6 _ rfl).1 (box_cellsJC q 7 _ rfl).1))))))))
  have KZ:=Lib.hid (fun W=>refZero_yesC ma mc W)
  have KV:=Lib.hid (fun W=>refValid_any s W (by omega))
  rw [hv] at KV
  have hsz:(s.size:Int)≤2000:=by omega
  have hmx:s.size≤maxLen:=by unfold maxLen;omega
  clear hv
  go_enter Tryz.func77,Tryz.ntmps77
  go_wp2_with fail
  refine (KZ.out _).mono ?_
  rintro r w9 ⟨rfl,h9⟩
  have HF:=Lib.hid (below_on HB.out h9)
  have H9:=Lib.hid h9
  clear h9
  obtain ⟨c0,c1,c2,c3,c4,c5,c6,c7⟩:=HY.out _ H9.out
  go_wp2_with fail
  refine (KV.out _).mono ?_
  rintro r w8 ⟨rfl,h8⟩
  replace HF:=Lib.hid (below_on HF.out h8)
  replace H9:=Lib.hid (H9.out.trans (h8.mono H9.out.size))
  clear h8 c0 c1 c2 c3 c4 c5 c6 c7
  obtain ⟨c0,c1,c2,c3,c4,c5,c6,c7⟩:=HY.out _ H9.out
  go_wp2_with fail
  go_ret
  exact BoolBelow.mk rfl HF.out
theorem fieldsC_5 (ma:Option Addr) (mc:Nat) (ka:Option Addr) (kc:Nat) (va:Option Addr) (vc:Nat) (s:ByteArray) (w:World) (hs:s.size≤2000) :
    Calls Tryz.prog 77 #[.agg #[.int .i64 5,.bool false,.bool false,.slice ma 0 mc,.int .i64 0,.string s,.slice ka 0 kc,.slice va 0 vc]] w (BoolBelow true w):=by
  have HB:=Lib.hid ((Below.refl w.heap.size w).alloc (Nat.le_refl _) (.cells #[.int .i64 5,.bool false,.bool false,.slice ma 0 mc,.int .i64 0,.string s,.slice ka 0 kc,.slice va 0 vc] 29))
  have HY:=Lib.hid (fun W (h:Below (w.alloc (.cells #[.int .i64 5,.bool false,.bool false,.slice ma 0 mc,.int .i64 0,.string s,.slice ka 0 kc,.slice va 0 vc] 29)).heap.size (w.alloc (.cells #[.int .i64 5,.bool false,.bool false,.slice ma 0 mc,.int .i64 0,.string s,.slice ka 0 kc,.slice va 0 vc] 29)) W)=>(have q:=(h.block _ (by simp)).trans (heap_alloc_new w (.cells #[.int .i64 5,.bool false,.bool false,.slice ma 0 mc,.int .i64 0,.string s,.slice ka 0 kc,.slice va 0 vc] 29));And.intro (box_cellsJC q 0 _ rfl).1 (And.intro (box_cellsJC q 1 _ rfl).1 (And.intro (box_cellsJC q 2 _ rfl).1 (And.intro (box_cellsJC q 3 _ rfl).1 (And.intro (box_cellsJC q 4 _ rfl).1 (And.intro (box_cellsJC q 5 _ rfl).1 (And.intro (box_cellsJC q 6 _ rfl).1 (box_cellsJC q 7 _ rfl).1))))))))
  have KZ:=Lib.hid (fun W=>refZero_yesC ma mc W)
  have hsz:(s.size:Int)≤2000:=by omega
  go_enter Tryz.func77,Tryz.ntmps77
  go_wp2_with fail
  refine (KZ.out _).mono ?_
  rintro r w9 ⟨rfl,h9⟩
  have HF:=Lib.hid (below_on HB.out h9)
  have H9:=Lib.hid h9
  clear h9
  obtain ⟨c0,c1,c2,c3,c4,c5,c6,c7⟩:=HY.out _ H9.out
  go_wp2_with fail
  go_ret
  exact BoolBelow.mk rfl HF.out
theorem fieldsC_6 (ma:Option Addr) (mc:Nat) (ka:Option Addr) (kc:Nat) (va:Option Addr) (vc:Nat) (vn:Nat) (w:World) (hv:vn≤300) :
    Calls Tryz.prog 77 #[.agg #[.int .i64 6,.bool false,.bool false,.slice ma 0 mc,.int .i64 0,.string ⟨#[]⟩,.slice ka 0 kc,.slice va vn vc]] w (BoolBelow true w):=by
  have HB:=Lib.hid ((Below.refl w.heap.size w).alloc (Nat.le_refl _) (.cells #[.int .i64 6,.bool false,.bool false,.slice ma 0 mc,.int .i64 0,.string ⟨#[]⟩,.slice ka 0 kc,.slice va vn vc] 29))
  have HY:=Lib.hid (fun W (h:Below (w.alloc (.cells #[.int .i64 6,.bool false,.bool false,.slice ma 0 mc,.int .i64 0,.string ⟨#[]⟩,.slice ka 0 kc,.slice va vn vc] 29)).heap.size (w.alloc (.cells #[.int .i64 6,.bool false,.bool false,.slice ma 0 mc,.int .i64 0,.string ⟨#[]⟩,.slice ka 0 kc,.slice va vn vc] 29)) W)=>(have q:=(h.block _ (by simp)).trans (heap_alloc_new w (.cells #[.int .i64 6,.bool false,.bool false,.slice ma 0 mc,.int .i64 0,.string ⟨#[]⟩,.slice ka 0 kc,.slice va vn vc] 29));And.intro (box_cellsJC q 0 _ rfl).1 (And.intro (box_cellsJC q 1 _ rfl).1 (And.intro (box_cellsJC q 2 _ rfl).1 (And.intro (box_cellsJC q 3 _ rfl).1 (And.intro (box_cellsJC q 4 _ rfl).1 (And.intro (box_cellsJC q 5 _ rfl).1 (And.intro (box_cellsJC q 6 _ rfl).1 (box_cellsJC q 7 _ rfl).1))))))))
  have KZ:=Lib.hid (fun W=>refZero_yesC ma mc W)
  have hvz:(vn:Int)≤300:=by omega
  go_enter Tryz.func77,Tryz.ntmps77
  go_wp2_with fail
  refine (KZ.out _).mono ?_
  rintro r w9 ⟨rfl,h9⟩
  have HF:=Lib.hid (below_on HB.out h9)
  have H9:=Lib.hid h9
  clear h9
  obtain ⟨c0,c1,c2,c3,c4,c5,c6,c7⟩:=HY.out _ H9.out
  go_wp2_with fail
  go_ret
  exact BoolBelow.mk rfl HF.out
theorem fieldsC_7 (ma:Option Addr) (mc:Nat) (ka:Option Addr) (kc:Nat) (va:Option Addr) (vc:Nat) (vn:Nat) (ks:List ByteArray) (w:World) (hv:vn≤300) (hk:ks.length=vn) (hkc:vn≤kc) (hri:risesB ks=true) (hrd:RdV w ka (sv ks)) :
    Calls Tryz.prog 77 #[.agg #[.int .i64 7,.bool false,.bool false,.slice ma 0 mc,.int .i64 0,.string ⟨#[]⟩,.slice ka vn kc,.slice va vn vc]] w (BoolBelow true w):=by
  have HB:=Lib.hid ((Below.refl w.heap.size w).alloc (Nat.le_refl _) (.cells #[.int .i64 7,.bool false,.bool false,.slice ma 0 mc,.int .i64 0,.string ⟨#[]⟩,.slice ka vn kc,.slice va vn vc] 29))
  have HY:=Lib.hid (fun W (h:Below (w.alloc (.cells #[.int .i64 7,.bool false,.bool false,.slice ma 0 mc,.int .i64 0,.string ⟨#[]⟩,.slice ka vn kc,.slice va vn vc] 29)).heap.size (w.alloc (.cells #[.int .i64 7,.bool false,.bool false,.slice ma 0 mc,.int .i64 0,.string ⟨#[]⟩,.slice ka vn kc,.slice va vn vc] 29)) W)=>(have q:=(h.block _ (by simp)).trans (heap_alloc_new w (.cells #[.int .i64 7,.bool false,.bool false,.slice ma 0 mc,.int .i64 0,.string ⟨#[]⟩,.slice ka vn kc,.slice va vn vc] 29));And.intro (box_cellsJC q 0 _ rfl).1 (And.intro (box_cellsJC q 1 _ rfl).1 (And.intro (box_cellsJC q 2 _ rfl).1 (And.intro (box_cellsJC q 3 _ rfl).1 (And.intro (box_cellsJC q 4 _ rfl).1 (And.intro (box_cellsJC q 5 _ rfl).1 (And.intro (box_cellsJC q 6 _ rfl).1 (box_cellsJC q 7 _ rfl).1))))))))
  have KZ:=Lib.hid (fun W=>refZero_yesC ma mc W)
  have KN:=Lib.hid (fun W (h:Below w.heap.size w W)=>refNames_yesC ka vn kc ks W hk hkc (hrd.on h) hv hri)
  clear hri hrd hk
  go_enter Tryz.func77,Tryz.ntmps77
  go_wp2_with fail
  refine (KZ.out _).mono ?_
  rintro r w9 ⟨rfl,h9⟩
  have HF:=Lib.hid (below_on HB.out h9)
  have H9:=Lib.hid h9
  clear h9
  obtain ⟨c0,c1,c2,c3,c4,c5,c6,c7⟩:=HY.out _ H9.out
  go_wp2_with fail
  refine (KN.out _ HF.out).mono ?_
  rintro r w8 ⟨rfl,h8⟩
  replace HF:=Lib.hid (below_on HF.out h8)
  replace H9:=Lib.hid (H9.out.trans (h8.mono H9.out.size))
  clear h8 c0 c1 c2 c3 c4 c5 c6 c7
  obtain ⟨c0,c1,c2,c3,c4,c5,c6,c7⟩:=HY.out _ H9.out
  go_wp2_with fail
  go_ret
  exact BoolBelow.mk rfl HF.out
theorem fieldsC_3 (ka:Option Addr) (kc:Nat) (va:Option Addr) (vc:Nat) (neg:Bool) (ma:Option Addr) (mn mc:Nat) (e:Int) (m:List Nat) (w:World) (hn:NumOk w neg ma mn mc m e) :
    Calls Tryz.prog 77 #[.agg #[.int .i64 3,.bool false,.bool neg,.slice ma mn mc,.int .i64 e,.string ⟨#[]⟩,.slice ka 0 kc,.slice va 0 vc]] w (BoolBelow true w):=by
  have HB:=Lib.hid ((Below.refl w.heap.size w).alloc (Nat.le_refl _) (.cells #[.int .i64 3,.bool false,.bool neg,.slice ma mn mc,.int .i64 e,.string ⟨#[]⟩,.slice ka 0 kc,.slice va 0 vc] 29))
  have HY:=Lib.hid (fun W (h:Below (w.alloc (.cells #[.int .i64 3,.bool false,.bool neg,.slice ma mn mc,.int .i64 e,.string ⟨#[]⟩,.slice ka 0 kc,.slice va 0 vc] 29)).heap.size (w.alloc (.cells #[.int .i64 3,.bool false,.bool neg,.slice ma mn mc,.int .i64 e,.string ⟨#[]⟩,.slice ka 0 kc,.slice va 0 vc] 29)) W)=>(have q:=(h.block _ (by simp)).trans (heap_alloc_new w (.cells #[.int .i64 3,.bool false,.bool neg,.slice ma mn mc,.int .i64 e,.string ⟨#[]⟩,.slice ka 0 kc,.slice va 0 vc] 29));And.intro (box_cellsJC q 0 _ rfl).1 (And.intro (box_cellsJC q 1 _ rfl).1 (And.intro (box_cellsJC q 2 _ rfl).1 (And.intro (box_cellsJC q 3 _ rfl).1 (And.intro (box_cellsJC q 4 _ rfl).1 (And.intro (box_cellsJC q 5 _ rfl).1 (And.intro (box_cellsJC q 6 _ rfl).1 (box_cellsJC q 7 _ rfl).1))))))))
  have KZ:=Lib.hid (fun W=>refZero_yesC ma mc W)
  have KC:=Lib.hid (fun W (h:Below w.heap.size w W)=>refCheck_any neg ma mn mc m e W hn.len hn.cap (by have:=hn.n90;omega) hn.ok (hn.below h).rd)
  rw [hn.chk] at KC
  clear hn
  go_enter Tryz.func77,Tryz.ntmps77
  go_wp2_with fail
  refine (KC.out _ HB.out).mono ?_
  rintro r w8 ⟨rfl,h8⟩
  have HF:=Lib.hid (below_on HB.out h8)
  clear h8
  go_wp2_with fail
  go_ret
  exact BoolBelow.mk rfl HF.out
theorem refFields_yesC (t:MT) (w:World) (hR:Rep w t) (h:soundB t=true) :
    Calls Tryz.prog 77 #[t.c.val] w (BoolBelow true w):=by
  have own:=hR.own
  have hco:=CohC.of hR
  have hkd:=sound_kindsC h
  obtain ⟨h1,_,h2,h3⟩:=hco.own
  have hmc:=own.mc;have hmo:=own.mo;have hmr:=own.mr;have hkc:=own.kc;have hkr:=own.kr
  clear own hco hR
  obtain ⟨⟨ck,b,neg,ma,mn,mc,e,s,ka,kn,kc,va,vn,vc⟩,m,ks,vs⟩:=t
  simp only [MT.c,MT.m,MT.k,MT.v] at *
  unfold Cel.val
  rcases hkd with k | k | k | k | k | k | k <;> subst k
  · obtain ⟨e1,e2,e3,e4,e5,e6,e7⟩:=blank_factsC (c:=⟨1,b,neg,ma,mn,mc,e,s,ka,kn,kc,va,vn,vc⟩) h
    simp only at e1 e2 e3 e4 e5 e6 e7
    subst e1 e2 e3 e4 e5 e6 e7
    exact fieldsC_1 ma mc ka kc va vc w
  · obtain ⟨e1,e2,e3,e4,e5,e6,e7⟩:=blank_factsC (c:=⟨2,false,neg,ma,mn,mc,e,s,ka,kn,kc,va,vn,vc⟩) h
    simp only at e1 e2 e3 e4 e5 e6 e7
    subst e2 e3 e4 e5 e6 e7
    exact fieldsC_2 ma mc ka kc va vc b w
  · have h':(chkB neg m e && blankB ⟨3,b,false,none,0,0,0,s,ka,kn,kc,va,vn,vc⟩)=true:=h
    rw [Bool.and_eq_true] at h'
    obtain ⟨e1,e2,e3,e4,e5,e6,e7⟩:=blank_factsC h'.2
    simp only at e1 e2 e3 e4 e5 e6 e7
    subst e1 e5 e6 e7
    exact fieldsC_3 ka kc va vc neg ma mn mc e m w ⟨h1,hmc,hmo,hmr,h'.1⟩
  · have h':(validL s.data.toList && (decide (s.size≤2000) && blankB ⟨4,b,neg,ma,mn,mc,e,⟨#[]⟩,ka,kn,kc,va,vn,vc⟩))=true:=h
    rw [Bool.and_eq_true,Bool.and_eq_true] at h'
    obtain ⟨e1,e2,e3,e4,e5,e6,e7⟩:=blank_factsC h'.2.2
    simp only at e1 e2 e3 e4 e5 e6 e7
    subst e1 e2 e3 e4 e6 e7
    exact fieldsC_4 ma mc ka kc va vc s w (of_decide_eq_true h'.2.1) h'.1
  · have h':(decide (s.size≤2000) && blankB ⟨5,b,neg,ma,mn,mc,e,⟨#[]⟩,ka,kn,kc,va,vn,vc⟩)=true:=h
    rw [Bool.and_eq_true] at h'
    obtain ⟨e1,e2,e3,e4,e5,e6,e7⟩:=blank_factsC h'.2
    simp only at e1 e2 e3 e4 e5 e6 e7
    subst e1 e2 e3 e4 e6 e7
    exact fieldsC_5 ma mc ka kc va vc s w (of_decide_eq_true h'.1)
  · have h':(decide (vn≤300) && blankB ⟨6,b,neg,ma,mn,mc,e,s,ka,kn,kc,none,0,0⟩)=true:=h
    rw [Bool.and_eq_true] at h'
    obtain ⟨e1,e2,e3,e4,e5,e6,e7⟩:=blank_factsC h'.2
    simp only at e1 e2 e3 e4 e5 e6 e7
    subst e1 e2 e3 e4 e5 e6
    exact fieldsC_6 ma mc ka kc va vc vn w (of_decide_eq_true h'.1)
  · have h':(decide (kn=vn) && (risesB ks && (decide (vn≤300) && blankB ⟨7,b,neg,ma,mn,mc,e,s,none,0,0,none,0,0⟩)))=true:=h
    rw [Bool.and_eq_true,Bool.and_eq_true,Bool.and_eq_true] at h'
    obtain ⟨e1,e2,e3,e4,e5,e6,e7⟩:=blank_factsC h'.2.2.2
    simp only at e1 e2 e3 e4 e5 e6 e7
    have hkv:=of_decide_eq_true h'.1
    subst e1 e2 e3 e4 e5 hkv
    exact fieldsC_7 ma mc ka kc va vc kn ks w (of_decide_eq_true h'.2.2.1) h2 hkc h'.2.1 hkr
def WaWC (us:List MT) (vn n:Nat) (W1:World) (g:Nat) (m i:Value) (wr:World):Prop :=
  ∃ j,i=.int .i64 ((j:Nat):Int)∧m=.int .i64 ((n+1+MT.nodesL (us.take j):Nat):Int)∧j≤vn∧vn - j≤g∧Below W1.heap.size W1 wr
theorem nodesL_takesC (l:List MT) (j:Nat):MT.nodesL (l.take j)≤MT.nodesL l:=by
  induction l generalizing j with
  | nil=>rw [List.take_nil];exact Nat.le_refl _
  | cons u l ih =>
    cases j with
    | zero=>rw [List.take_zero,MT.nodesL_nil];omega
    | succ j=>rw [List.take_succ_cons,MT.nodesL_cons,MT.nodesL_cons];have:=ih j;omega
theorem refWalk_yesC (t:MT):∀ (d n:Nat) (w:World),Rep w t→SndC t d→n+t.nodes≤2000→Calls Tryz.prog 44 #[t.c.val,.int .i64 (d:Int),.int .i64 (n:Int)] w (IntBelow ((n+t.nodes:Nat):Int) w):=by
  refine MT.ind (P:=fun t=>∀ (d n:Nat) (w:World),Rep w t→SndC t d→n+t.nodes≤2000→Calls Tryz.prog 44 #[t.c.val,.int .i64 (d:Int),.int .i64 (n:Int)] w (IntBelow ((n+t.nodes:Nat):Int) w)) ?_ t
  intro t ih d n w hR hS hD
  have own:=hR.own
  rw [MT.nodes_eq] at hD ⊢
  have hd:=hS.own.1
  have KF:=Lib.hid (fun W (h:Below w.heap.size w W)=>refFields_yesC t W (hR.on h) hS.own.2)
  have HV:=Lib.hid (fun j (hj:j<t.v.length) m (hm:m+(t.v.getD j (leafT 0 false ⟨#[]⟩)).nodes≤2000) W (h:Below w.heap.size w W)=>ih (t.v.getD j (leafT 0 false ⟨#[]⟩)) (by simp [List.getD,hj]) (d+1) m W ((hR.part (by simp [List.getD,hj])).on h) (hS.part (by simp [List.getD,hj])) hm)
  have HRD:=Lib.hid (fun W (h:Below w.heap.size w W)=>own.vr.on h)
  have HLN:=Lib.hid own.vn
  have hm:=own.lm.2.2
  clear ih hR own hS
  generalize t.v=us at *
  generalize t.c=c at *
  obtain ⟨k,b0,neg,ma,mn,mc,e,s,ka,kn,kc,va,vn,vc⟩:=c
  unfold Cel.val at KF ⊢
  simp only at HRD HLN hm
  obtain ⟨W1,hW1⟩:∃ x,w.alloc (.cells #[.int .i64 k,.bool b0,.bool neg,.slice ma mn mc,.int .i64 e,.string s,.slice ka kn kc,.slice va vn vc] 29)=x:=⟨_,rfl⟩
  have hb1:Below w.heap.size w W1:=by rw [← hW1];exact (Below.refl _ _).alloc (Nat.le_refl _) _
  have q1:W1.heap[w.heap.size]? = some (.cells #[.int .i64 k,.bool b0,.bool neg,.slice ma mn mc,.int .i64 e,.string s,.slice ka kn kc,.slice va vn vc] 29):=by rw [← hW1];exact heap_alloc_new w _
  have HW1:=Lib.hid hW1;have HB1:=Lib.hid hb1
  have HY:=Lib.hid (fun W (h:Below W1.heap.size W1 W)=>(show W.cell? ⟨w.heap.size,7,none⟩=some (.slice va vn vc) from by
    have:=(h.block _ (Array.getElem?_eq_some_iff.1 q1).1).trans q1
    exact (box_cellsJC this 7 _ rfl).1))
  have HDD:=Lib.hid hD
  have n1:¬ (2000:Int)<(n:Int)+1:=by omega
  have n2:¬ (64:Int)<(d:Int):=by omega
  have n3:(n:Int)≤2000:=by omega
  have n4:(d:Int)≤64:=by omega
  clear hW1 hb1 q1 hD
  go_enter Tryz.func44,Tryz.ntmps44
  go_wp2_with fail
  rw [HW1.out]
  refine (KF.out _ HB1.out).mono ?_
  rintro r w2 ⟨rfl,h2⟩
  have HB2:=Lib.hid h2
  have HST:=Lib.hid (fun W (h:Below W1.heap.size W1 W)=>show WaWC us vn n W1 vn (.int .i64 ((n:Int)+1)) (.int .i64 ((0:Nat):Int)) W from ⟨0,rfl,by rw [List.take_zero,MT.nodesL_nil];rfl,Nat.zero_le _,by omega,h⟩)
  clear h2 n1 n2
  try go_wp2_with fail
  go_loopg [2,7] vn (fun g m i wr=>WaWC us vn n W1 g m i wr)
  case atStart=>exact HST.out _ (HB2.out)
  case round =>
    clear HST
    obtain ⟨j,rfl,rfl,hjn,hgj,hbw⟩:=hrel
    have HBW:=Lib.hid hbw
    have y7:=HY.out wr hbw
    have hdt:=nodesL_takesC us j
    have hdd:=HDD.out
    clear hbw
    by_cases hlt:j<vn
    · obtain ⟨g,rfl⟩:∃ g,gk=g+1:=⟨gk - 1,by omega⟩
      have hltz:(j:Int)<(vn:Int):=by omega
      have hju:j<us.length:=by have:=HLN.out;omega
      have hj6:(j:Int)≤1000000000000000:=by omega
      have hb0:=HB1.out.trans (HBW.out.mono HB1.out.size)
      have hrd:=HRD.out wr hb0
      obtain ⟨xbk,xo,rfl,hxl⟩:=hrd.shape (by rw [flat_len,List.length_map];omega)
      have hxx:=flat_at hrd j (by rw [List.length_map];omega) (c:=(us.getD j (leafT 0 false ⟨#[]⟩)).c) (getD_mapc hju _)
      have htk:us.take (j+1)=us.take j++[us.getD j (leafT 0 false ⟨#[]⟩)]:=by rw [List.take_succ_eq_append_getElem hju];simp [List.getD,hju]
      have hnk:MT.nodesL (us.take (j+1))=MT.nodesL (us.take j)+(us.getD j (leafT 0 false ⟨#[]⟩)).nodes:=by rw [htk,nodesL_snocC]
      have hdj:=nodesL_takesC us (j+1)
      obtain ⟨N,hN⟩:∃ N:Nat,n+1+MT.nodesL (us.take j)=N:=⟨_,rfl⟩
      have KV:=Lib.hid (HV.out j hju N (by omega) wr hb0)
      have HTK:Hid (n+1+MT.nodesL (us.take (j+1))=N+(us.getD j (leafT 0 false ⟨#[]⟩)).nodes):=Lib.hid (by omega)
      have hN0:(0:Int)≤(N:Int):=by omega
      have hN2:(N:Int)≤2000:=by omega
      rw [hN]
      clear htk hrd hb0 hnk hdj hdt hdd hN
      unfold IntBelow at KV
      generalize (us.getD j (leafT 0 false ⟨#[]⟩)).nodes=nj at *
      generalize (us.getD j (leafT 0 false ⟨#[]⟩)).c=cx at KV hxx
      obtain ⟨xk,xb,xneg,xma,xmn,xmc,xe,xs,xka,xkn,xkc,xva,xvn,xvc⟩:=cx
      unfold Cel.val at KV
      obtain ⟨x0,x1,x2,x3,x4,x5,x6,x7⟩:=hxx
      try simp only at x0 x1 x2 x3 x4 x5 x6 x7
      go_wp2_with fail
      refine KV.out.mono ?_
      rintro r w4 ⟨rfl,hb4⟩
      have HF:=Lib.hid (show WaWC us vn n W1 g (.int .i64 ((N+nj:Nat):Int)) (.int .i64 ((j:Int)+1)) w4 from ⟨j+1,by simp,by rw [HTK.out],by omega,by omega,HBW.out.trans (hb4.mono HBW.out.size)⟩)
      clear hb4 KV
      go_wp2
      go_roundg g
      case rel=>exact HF.out
      case measure=>omega
    · obtain rfl:j=vn:=by omega
      have hjz:¬ (j:Int)<(j:Int):=by omega
      have hall:us.take j=us:=List.take_of_length_le (by have:=HLN.out;omega)
      rw [hall]
      have HZ:=Lib.hid (show IntBelow ((n+(1+MT.nodesL us):Nat):Int) w (.returned (.int .i64 ((n+1+MT.nodesL us:Nat):Int))) wr from ⟨by rw [Nat.add_assoc],HB1.out.trans (HBW.out.mono HB1.out.size)⟩)
      clear hdt hdd
      generalize n+1+MT.nodesL us=dm at *
      go_wp2
      go_ret
      exact HZ.out
theorem refCheckT_yesC (t:MT) (w:World) (hR:Rep w t) (h:checkB t=true) :
    Calls Tryz.prog 19 #[t.c.val] w (BoolBelow true w):=by
  obtain ⟨hS,hn⟩:=SndC.of h
  have hb1:Below w.heap.size w (w.alloc (.cells #[.int .i64 t.c.k,.bool t.c.b,.bool t.c.neg,.slice t.c.ma t.c.mn t.c.mc,.int .i64 t.c.e,.string t.c.s,.slice t.c.ka t.c.kn t.c.kc,.slice t.c.va t.c.vn t.c.vc] 29)):=(Below.refl _ _).alloc (Nat.le_refl _) _
  have KW:=Lib.hid (refWalk_yesC t 1 0 _ (hR.on hb1) hS (by omega))
  have HB:=Lib.hid hb1
  clear hR hS h hb1
  have n0:(0:Int)≤((0+t.nodes:Nat):Int):=by omega
  unfold IntBelow at KW
  generalize ((0+t.nodes:Nat):Int)=N at *
  generalize t.c=c at *
  obtain ⟨k,b0,neg,ma,mn,mc,e,s,ka,kn,kc,va,vn,vc⟩:=c
  unfold Cel.val at KW ⊢
  go_enter Tryz.func19,Tryz.ntmps19
  go_wp2_with fail
  refine KW.out.mono ?_
  rintro r w2 ⟨rfl,h2⟩
  have HF:=Lib.hid (below_on HB.out h2)
  clear h2
  go_wp2_with fail
  go_ret
  exact BoolBelow.mk rfl HF.out
end Go.Proofs.YtnacbakcalcgaaaGreatDoor
namespace Go.Proofs.YtnacbakcalcgaaaGreatDoor
open Go.RowKit Go.Lib Go.Sort

structure Byt (w:World) (v:Value) (l:List Nat):Prop where
  at_:∃ ad n cap,v=.slice ad n cap∧l.length=n∧n≤cap∧RdV w ad (bc l)∧Shp ad cap∧(ad=none→cap=0)
theorem Byt.on {w w':World} {v:Value} {l:List Nat} (h:Byt w v l) (hb:Below w.heap.size w w'):Byt w' v l:=by
  obtain ⟨ad,n,cap,h1,h2,h3,h4,h5,h6⟩:=h.at_
  exact ⟨⟨ad,n,cap,h1,h2,h3,h4.on hb,h5,h6⟩⟩
theorem Byt.own {w:World} {B:Nat} {v:Value} {n:Nat} {l:List Nat} (h:w.ownsRow B 5 1 v n (bc l)):Byt w v l:=by
  have hl:l.length=n:=by have:=h.1;rw [bc_len] at this;omega
  rcases h.2 with ⟨rfl,h0⟩ | ⟨g,cap,cur,rfl,_,_,hc,_⟩
  · subst h0
    have:l=[]:=List.eq_nil_of_length_eq_zero hl
    subst this
    exact ⟨none,0,0,rfl,rfl,Nat.le_refl _,RdV.nil _ _,.inl ⟨rfl,rfl⟩,fun _=>rfl⟩
  · obtain ⟨ad,cap',e,_,hr,_⟩:=own_viewN h
    simp only [Value.slice.injEq] at e
    obtain ⟨rfl,_,rfl⟩:=e
    exact ⟨_,n,cap,rfl,hl,hc,hr,.inr ⟨_,_,rfl⟩,fun h=>by cases h⟩
def zc:Cel:=⟨0,false,false,none,0,0,0,⟨#[]⟩,none,0,0,none,0,0⟩
structure NumC (w:World) (c:Cel) (g:Bool) (N:Nat) (E:Int):Prop where
  neg:c.neg=g
  mn:c.mn=(limbs N).length
  e:c.e=E
  le:c.mn≤c.mc
  rd:Rd w c.ma (limbs N)
theorem NumC.on {w w':World} {c:Cel} {g:Bool} {N:Nat} {E:Int} (h:NumC w c g N E) (hb:Below w.heap.size w w'):NumC w' c g N E:=⟨h.neg,h.mn,h.e,h.le,h.rd.below hb⟩
theorem box8C {k:Int} {b neg:Bool} {ma:Option Addr} {mn mc:Nat} {e:Int} {s:ByteArray} {ka:Option Addr} {kn kc:Nat} {va:Option Addr} {vn vc:Nat} (w:World) {W:World}
    (h:Below (w.alloc (.cells #[.int .i64 k,.bool b,.bool neg,.slice ma mn mc,.int .i64 e,.string s,.slice ka kn kc,.slice va vn vc] 29)).heap.size (w.alloc (.cells #[.int .i64 k,.bool b,.bool neg,.slice ma mn mc,.int .i64 e,.string s,.slice ka kn kc,.slice va vn vc] 29)) W) :
    W.cell? ⟨w.heap.size,0,none⟩=some (.int .i64 k)∧W.cell? ⟨w.heap.size,1,none⟩=some (.bool b)∧W.cell? ⟨w.heap.size,2,none⟩=some (.bool neg)∧W.cell? ⟨w.heap.size,3,none⟩=some (.slice ma mn mc)∧W.cell? ⟨w.heap.size,4,none⟩=some (.int .i64 e)∧W.cell? ⟨w.heap.size,5,none⟩=some (.string s)∧W.cell? ⟨w.heap.size,6,none⟩=some (.slice ka kn kc)∧W.cell? ⟨w.heap.size,7,none⟩=some (.slice va vn vc):=by
  have q:=(h.block _ (by simp)).trans (heap_alloc_new w (.cells #[.int .i64 k,.bool b,.bool neg,.slice ma mn mc,.int .i64 e,.string s,.slice ka kn kc,.slice va vn vc] 29))
  exact ⟨(box_cellsJC q 0 _ rfl).1,(box_cellsJC q 1 _ rfl).1,(box_cellsJC q 2 _ rfl).1,(box_cellsJC q 3 _ rfl).1,(box_cellsJC q 4 _ rfl).1,(box_cellsJC q 5 _ rfl).1,(box_cellsJC q 6 _ rfl).1,(box_cellsJC q 7 _ rfl).1⟩
theorem below_newC (w:World) (o:Obj):Below w.heap.size w (w.alloc o):=(Below.refl _ _).alloc (Nat.le_refl _) _
structure BytA (w:World) (ad:Option Addr) (n cap:Nat) (l:List Nat):Prop where
  ln:l.length=n
  cp:n≤cap
  ok:Okb l
  rd:RdV w ad (bc l)
  shp:Shp ad cap
theorem BytA.on {w w':World} {ad:Option Addr} {n cap:Nat} {l:List Nat} (h:BytA w ad n cap l) (hb:Below w.heap.size w w'):BytA w' ad n cap l:=⟨h.ln,h.cp,h.ok,h.rd.on hb,h.shp⟩
theorem BytA.own {w:World} {B:Nat} {v:Value} {n:Nat} {l:List Nat} (h:w.ownsRow B 5 1 v n (bc l)) (hk:Okb l):∃ ad k cap,v=.slice ad k cap∧BytA w ad k cap l:=by
  obtain ⟨ad,k,cap,e,h1,h2,h3,h4,_⟩:=(Byt.own h).at_
  exact ⟨ad,k,cap,e,h1,h2,hk,h3,h4⟩
def BkCutC (W1:World) (W:World):Prop:=Below W1.heap.size W1 W
end Go.Proofs.YtnacbakcalcgaaaGreatDoor
