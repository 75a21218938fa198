/- Texts of the claim. -/
import Derived.Test.YticgggjfmhiilaaDoorLv
set_option linter.unusedVariables false
set_option linter.unusedSimpArgs false
set_option maxHeartbeats 32000000
set_option maxRecDepth 100000
namespace Go.Proofs.YticgggjfmhiilaaDoor
open Go.RowKit Go.Shelf
def ChP (t:MT) (s:ByteArray) (w:World) (e:Ending) (w':World):Prop :=
  ((∃ u,stepM t s=some u∧e=.returned (.tuple #[u.c.val,.bool true]))∨(stepM t s=none∧e=.returned (.tuple #[zeroV,.bool false])))∧Below w.heap.size w w'
theorem refChild_any (t:MT) (s:ByteArray) (w:World) (hR:Rep w t) :
    Calls Tryd.prog 55 #[t.c.val,.string s] w (ChP t s w):=by
  obtain ⟨Wb,hWb⟩:∃ x,two2 w t.c (leafC 0 false ⟨#[]⟩)=x:=⟨_,rfl⟩
  have hb0:Below w.heap.size w Wb:=by rw [← hWb];exact two_below2 _ _ _
  have hbx2:BoxT Wb w.heap.size t.c∧BoxT Wb (w.heap.size+1) (leafC 0 false ⟨#[]⟩):=by rw [← hWb];exact two2_box w t.c (leafC 0 false ⟨#[]⟩)
  have HB0:=Lib.hid hb0
  have HX1:=Lib.hid hbx2.1
  have HX2:=Lib.hid hbx2.2
  have HRR:=Lib.hid (fun W (h:Below w.heap.size w W)=>(hR.on h:Rep W t))
  have hlm:=hR.own.lm
  have hvn:=hR.own.vn
  have KI:=Lib.hid (refIndexA_any s ((t.c.vn:Int) - 1) Wb (by have:=hlm.2.2;omega))
  have KM:=Lib.hid (refMemberA_any t s Wb (hR.on hb0))
  have hst:stepM t s=(if t.c.k=7 then memM t s else if t.c.k=6 then idxL s.data.toList ((t.c.vn:Int) - 1) else none).map fun j=>t.v.getD j (leafT 0 false ⟨#[]⟩):=by
    unfold stepM memM placeM
    by_cases h7:t.c.k=7
    · rw [if_pos h7,if_pos h7,if_pos h7]
    · rw [if_neg h7,if_neg h7]
  have HST:=Lib.hid hst
  have HMN:=Lib.hid (fun (h:¬ t.c.k=7)=>(show memM t s=none by unfold memM;rw [if_neg h]))
  have HV:=Lib.hid hR.own.vr
  obtain ⟨⟨g0,g1,g2,g3,g4,g5,g6,g7⟩,f0,f1,f2,f3,f4,f5,f6,f7⟩:=hbx2.2.var
  obtain ⟨c0,c1,c2,c3,c4,c5,c6,c7⟩:=hbx2.1.cells
  clear hR hb0 hbx2 hst
  obtain ⟨c,hc⟩:∃ c,t.c=c:=⟨_,rfl⟩
  rw [hc] at HV hWb hlm hvn KI KM HST HMN HX1 c0 c1 c2 c3 c4 c5 c6 c7 ⊢
  have HC:=Lib.hid hc
  clear hc
  obtain ⟨k,b0,neg,ma,mn,mc,e,st,ka,kn,kc,va,vn,vc⟩:=c
  simp only [leafC] at HV hlm hvn KI HST HMN g0 g1 g2 g3 g4 g5 g6 g7 c0 c1 c2 c3 c4 c5 c6 c7
  obtain ⟨hl1,hl2,hl3⟩:=hlm
  unfold Cel.val at KM ⊢
  unfold two2 Cel.cells leafC at hWb
  simp only at hWb
  have HWB:=Lib.hid hWb
  have HVL:=Lib.hid hvn
  clear hWb hvn
  have HEND:=Lib.hid (fun W cc (h:Below Wb.heap.size Wb W)=>(show Below w.heap.size w (put0 W (w.heap.size+1) cc) from (HB0.out.trans (h.mono HB0.out.size)).trans ((put0_but _ _ _).below (by omega) (Nat.le_trans HB0.out.size h.size))))
  by_cases h6:k=6
  · subst h6
    have HST:=Lib.hid (show stepM t s=(idxL s.data.toList ((vn:Int) - 1)).map fun j=>t.v.getD j (leafT 0 false ⟨#[]⟩) by rw [HST.out,if_neg (by decide),if_pos rfl])
    have HM:=Lib.hid (HMN.out (by decide))
    have hx1:-9223372036854775808≤(vn:Int) - 1∧(vn:Int) - 1≤9223372036854775807:=by omega
    go_enter Tryd.func55,Tryd.ntmps55
    go_wp2_with fail
    rw [HWB.out]
    refine KI.out.mono ?_
    rintro r w2 ⟨rfl,rfl⟩
    cases hq:idxL s.data.toList ((vn:Int) - 1) with
    | some q =>
      have hql:=idxL_lt hq
      have hqz:(q:Int)<(vn:Int):=by omega
      have hqv:q<t.v.length:=by have:=HVL.out;omega
      have hrd:=HV.out.on HB0.out
      obtain ⟨xbk,xo,rfl,hxl⟩:=hrd.shape (by rw [flat_len,List.length_map];omega)
      obtain ⟨x0,x1,x2,x3,x4,x5,x6,x7⟩:=flat_at hrd q (by rw [List.length_map];omega) (c:=(t.v.getD q (leafT 0 false ⟨#[]⟩)).c) (getD_mapc hqv _)
      have HE2:=Lib.hid (show ChP t s w (.returned (.tuple #[(t.v.getD q (leafT 0 false ⟨#[]⟩)).c.val,.bool true])) (put0 w2 (w.heap.size+1) (t.v.getD q (leafT 0 false ⟨#[]⟩)).c) from ⟨.inl ⟨_,by rw [HST.out,hq];rfl,rfl⟩,HEND.out w2 _ (Below.refl _ _)⟩)
      have hbx:=(put0_box HX2.out (c:=(t.v.getD q (leafT 0 false ⟨#[]⟩)).c)).cells
      clear hrd hq hql
      generalize (t.v.getD q (leafT 0 false ⟨#[]⟩)).c=xc at *
      obtain ⟨xk,xb,xneg,xma,xmn,xmc,xe,xs,xka,xkn,xkc,xva,xvn,xvc⟩:=xc
      simp only at x0 x1 x2 x3 x4 x5 x6 x7
      unfold put0 at hbx HE2
      unfold Cel.val at HE2
      simp only at hbx HE2
      obtain ⟨d0,d1,d2,d3,d4,d5,d6,d7⟩:=hbx
      simp only [idxV,Option.isSome_some]
      go_wp2
      exact bodyPost_ret (v:=.tuple #[.agg #[.int .i64 xk,.bool xb,.bool xneg,.slice xma xmn xmc,.int .i64 xe,.string xs,.slice xka xkn xkc,.slice xva xvn xvc],.bool true]) (by simp [results,Tryd.results55,go_sem,d0,d1,d2,d3,d4,d5,d6,d7]) rfl HE2.out
    | none =>
      have HZ:=Lib.hid (show stepM t s=none by rw [HST.out,hq];rfl)
      clear hq
      simp only [idxV,Option.isSome_none]
      go_wp2_with fail
      refine KM.out.mono ?_
      rintro r w3 ⟨hr,h3⟩
      rcases hr with ⟨j,hj,_⟩ | ⟨_,rfl⟩
      · rw [HM.out] at hj;cases hj
      have HE2:=Lib.hid (show ChP t s w (.returned (.tuple #[zeroV,.bool false])) (put0 w3 (w.heap.size+1) (leafC 0 false ⟨#[]⟩)) from ⟨.inr ⟨HZ.out,rfl⟩,HEND.out w3 _ h3⟩)
      have hx2:=HX2.out.on (h3.block _ HX2.out.lt)
      have hbx:=(put0_box hx2 (c:=leafC 0 false ⟨#[]⟩)).cells
      obtain ⟨⟨g0,g1,g2,g3,g4,g5,g6,g7⟩,f0,f1,f2,f3,f4,f5,f6,f7⟩:=hx2.var
      unfold put0 leafC at hbx HE2
      unfold zeroV at HE2
      unfold zeroV
      simp only [leafC] at hbx HE2 g0 g1 g2 g3 g4 g5 g6 g7
      obtain ⟨d0,d1,d2,d3,d4,d5,d6,d7⟩:=hbx
      clear hx2 h3
      go_wp2
      exact bodyPost_ret (v:=.tuple #[.agg #[.int .i64 0,.bool false,.bool false,.slice none 0 0,.int .i64 0,.string ⟨#[]⟩,.slice none 0 0,.slice none 0 0],.bool false]) (by simp [results,Tryd.results55,go_sem,d0,d1,d2,d3,d4,d5,d6,d7]) rfl HE2.out
  · have HST:=Lib.hid (show stepM t s=(memM t s).map fun j=>t.v.getD j (leafT 0 false ⟨#[]⟩) by
      rw [HST.out]
      by_cases h7:k=7
      · rw [if_pos h7]
      · rw [if_neg h7,if_neg h6,HMN.out h7])
    have hd:decide (k=6)=false:=decide_eq_false h6
    have hd2:(k == 6)=false:=beq_eq_false_iff_ne.2 h6
    clear h6
    go_enter Tryd.func55,Tryd.ntmps55
    go_wp2_with fail
    rw [HWB.out]
    refine KM.out.mono ?_
    rintro r w3 ⟨hr,h3⟩
    have hx2:=HX2.out.on (h3.block _ HX2.out.lt)
    obtain ⟨⟨g0,g1,g2,g3,g4,g5,g6,g7⟩,f0,f1,f2,f3,f4,f5,f6,f7⟩:=hx2.var
    simp only [leafC] at g0 g1 g2 g3 g4 g5 g6 g7
    rcases hr with ⟨j,hj,rfl⟩ | ⟨hj,rfl⟩
    · have HE2:=Lib.hid (show ChP t s w (.returned (.tuple #[(t.v.getD j (leafT 0 false ⟨#[]⟩)).c.val,.bool true])) (put0 w3 (w.heap.size+1) (t.v.getD j (leafT 0 false ⟨#[]⟩)).c) from ⟨.inl ⟨_,by rw [HST.out,hj];rfl,rfl⟩,HEND.out w3 _ h3⟩)
      have hbx:=(put0_box hx2 (c:=(t.v.getD j (leafT 0 false ⟨#[]⟩)).c)).cells
      clear hx2 h3 hj
      generalize (t.v.getD j (leafT 0 false ⟨#[]⟩)).c=xc at *
      obtain ⟨xk,xb,xneg,xma,xmn,xmc,xe,xs,xka,xkn,xkc,xva,xvn,xvc⟩:=xc
      unfold put0 at hbx HE2
      unfold Cel.val at HE2 ⊢
      simp only at hbx HE2
      obtain ⟨d0,d1,d2,d3,d4,d5,d6,d7⟩:=hbx
      go_wp2
      exact bodyPost_ret (v:=.tuple #[.agg #[.int .i64 xk,.bool xb,.bool xneg,.slice xma xmn xmc,.int .i64 xe,.string xs,.slice xka xkn xkc,.slice xva xvn xvc],.bool true]) (by simp [results,Tryd.results55,go_sem,d0,d1,d2,d3,d4,d5,d6,d7]) rfl HE2.out
    · have HE2:=Lib.hid (show ChP t s w (.returned (.tuple #[zeroV,.bool false])) (put0 w3 (w.heap.size+1) (leafC 0 false ⟨#[]⟩)) from ⟨.inr ⟨by rw [HST.out,hj];rfl,rfl⟩,HEND.out w3 _ h3⟩)
      have hbx:=(put0_box hx2 (c:=leafC 0 false ⟨#[]⟩)).cells
      unfold put0 leafC at hbx HE2
      unfold zeroV at HE2
      unfold zeroV
      simp only at hbx HE2
      obtain ⟨d0,d1,d2,d3,d4,d5,d6,d7⟩:=hbx
      clear hx2 h3 hj
      go_wp2
      exact bodyPost_ret (v:=.tuple #[.agg #[.int .i64 0,.bool false,.bool false,.slice none 0 0,.int .i64 0,.string ⟨#[]⟩,.slice none 0 0,.slice none 0 0],.bool false]) (by simp [results,Tryd.results55,go_sem,d0,d1,d2,d3,d4,d5,d6,d7]) rfl HE2.out
def CutG (u:MT) (x:ByteArray) (wr:World) (p q:Value) (W:World):Prop :=
  ∃ (bx:Nat) (cx:Cel) (bb:Bool),p=.pointer (some ⟨bx,0,none⟩)∧q=.bool bb∧BoxT W bx cx∧((∃ y,stepM u x=some y∧cx=y.c∧bb=true)∨(stepM u x=none∧bb=false))∧wr.heap.size≤bx∧Below wr.heap.size wr W
theorem ChP.cel {t:MT} {s:ByteArray} {w w':World} {e:Ending} (h:ChP t s w e w'):∃ (cx:Cel) (bb:Bool),e=.returned (.tuple #[cx.val,.bool bb])∧((∃ y,stepM t s=some y∧cx=y.c∧bb=true)∨(stepM t s=none∧bb=false))∧Below w.heap.size w w':=by
  obtain ⟨h1,h2⟩:=h
  rcases h1 with ⟨u,h3,h4⟩ | ⟨h3,h4⟩
  · exact ⟨u.c,true,h4,.inl ⟨u,h3,rfl,rfl⟩,h2⟩
  · exact ⟨leafC 0 false ⟨#[]⟩,false,h4,.inr ⟨h3,rfl⟩,h2⟩
theorem refGet_any (t:MT) (ad:Option Addr) (n cap:Nat) (l:List ByteArray) (w:World) (hR:Rep w t) (hl:l.length=n) (hr:RdV w ad (sv l)) (hn:n≤1000000000000000) (hcap:n≤cap) :
    Calls Tryd.prog 26 #[t.c.val,.slice ad n cap] w (GetP t l w):=by
  obtain ⟨Wb,hWb⟩:∃ x,two2 w t.c (leafC 0 false ⟨#[]⟩)=x:=⟨_,rfl⟩
  have hb0:Below w.heap.size w Wb:=by rw [← hWb];exact two_below2 _ _ _
  have hb2:BoxT Wb w.heap.size t.c∧BoxT Wb (w.heap.size+1) (leafC 0 false ⟨#[]⟩):=by rw [← hWb];exact two2_box w t.c (leafC 0 false ⟨#[]⟩)
  have HST:=Lib.hid (show GtI t l w w.heap.size n n (.int .i64 0) Wb from ⟨0,t,by omega,by omega,rfl,by simp [getM],hb2.1,hb2.2,hb0⟩)
  have HRR:=Lib.hid (fun W (h:Below w.heap.size w W)=>(hR.on h:Rep W t))
  have HPR:=Lib.hid (fun W (h:Below w.heap.size w W)=>hr.on h)
  have HL:=Lib.hid hl
  obtain ⟨b,hb⟩:∃ b,w.heap.size=b:=⟨_,rfl⟩
  have HBB:=Lib.hid hb
  clear hR hr hl hb0 hb2
  generalize hc:t.c=c at *
  obtain ⟨zk,zb,zneg,zma,zmn,zmc,ze,zs,zka,zkn,zkc,zva,zvn,zvc⟩:=c
  unfold Cel.val
  unfold two2 Cel.cells leafC at hWb
  simp only at hWb
  have HWB:=Lib.hid hWb
  clear hWb hc
  go_enter Tryd.func26,Tryd.ntmps26
  go_wp2_with fail
  rw [HWB.out]
  rw [hb] at HST
  clear HWB hb
  go_loopg [6] n (fun k i wr=>GtI t l w b n k i wr)
  case atStart=>exact HST.out
  case round =>
    clear HST
    obtain ⟨j,u,hj,hk,rfl,hg,hx1,hx2,hbw⟩:=hrel
    have HG:=Lib.hid hg
    have HBW:=Lib.hid hbw
    have hur:=getM_rep _ (HRR.out wr hbw) hg
    have HX1:=Lib.hid hx1
    have HX2:=Lib.hid hx2
    by_cases hlt:j<n
    · obtain ⟨k,rfl⟩:∃ k,gk=k+1:=⟨gk - 1,by omega⟩
      have hjz:(j:Int)<(n:Int):=by omega
      have hjl:j<l.length:=by rw [HL.out];exact hlt
      obtain ⟨bk,o,rfl,hbk,hcx⟩:=HPR.out wr HBW.out j (by rw [sv_len];exact hjl)
      rw [sv_get _ _ hjl] at hcx
      have htk:l.take (j+1)=l.take j++[l.getD j ByteArray.empty]:=by rw [List.take_add_one];simp [List.getD,hjl]
      have hdr:l=l.take j++l.getD j ByteArray.empty::l.drop (j+1):=by
        conv=>lhs;rw [← List.take_append_drop j l,List.drop_eq_getElem_cons hjl]
        simp [List.getD,hjl]
      generalize l.getD j ByteArray.empty=x at *
      have HGS:=Lib.hid (show getM t (l.take (j+1))=stepM u x by rw [htk,getM_append,HG.out];simp [getM])
      have HGN:=Lib.hid (fun (h:stepM u x=none)=>(show getM t l=none by rw [hdr,getM_append,HG.out];simp [getM,h]))
      have KCH:=Lib.hid (fun W (h:Below wr.heap.size wr W)=>(refChild_any u x W (hur.on h)).mono (fun e w' h=>h.cel))
      have HCX:=Lib.hid (fun W (h:Below wr.heap.size wr W)=>((h.cell (p:=⟨bk,o+j,none⟩) hbk).trans hcx:W.cell? ⟨bk,o+j,none⟩=some (.string x)))
      clear htk hdr hur hcx hg hbw
      obtain ⟨cu,hcu⟩:∃ c,u.c=c:=⟨_,rfl⟩
      have HCU:=Lib.hid hcu
      rw [hcu] at KCH hx1
      have HBX:=Lib.hid (fun W (h:Below wr.heap.size wr W)=>(hx1.on (h.block _ hx1.lt):BoxT W b cu))
      clear hcu hx1 hx2
      go_upto_region 4 with fail
      go_cut [7,8] from 9 to 27 (fun p q W=>CutG u x wr p q W)
      case first =>
        rename_i J K hJ hK
        have HJ:=Lib.hid hJ
        refine rc_first J hK ?_
        clear hJ hK
        refine rl_start (S:=fun _ W=>Below wr.heap.size wr W) (by kernel_rfl) (below_drew (Below.refl _ _)) (fun hC hS=>?_)
        have hB:=hS
        refine rl_loadM 0 _ 28 (.tmp 2) b 0 cu.cells _ (some 16) rfl (by kernel_rfl) (by kernel_rfl) (by kernel_rfl) (by kernel_rfl) (fun _ _ _ h=>h) (fun _ _=>Iff.rfl) (by kernel_rfl) rfl (by kernel_rfl) Tryd.underlying28 rfl (by kernel_rfl) (fun L W hC h1 hS=>box_range (HBX.out W hS)) hC hS (fun hC hS=>?_)
        refine rl_pure 1 _ (.slice (some ⟨bk,o,none⟩) n cap) (some 17) rfl (by kernel_rfl) (by kernel_rfl) (by kernel_rfl) (by kernel_rfl) (fun _ _ _ h=>h) (fun _ _=>Iff.rfl) (by kernel_rfl) (fun w=>by kernel_rfl) hC hS (fun hC hS=>?_)
        refine rl_pure 2 _ (.int .i64 (j:Int)) (some 18) rfl (by kernel_rfl) (by kernel_rfl) (by kernel_rfl) (by kernel_rfl) (fun _ _ _ h=>h) (fun _ _=>Iff.rfl) (by kernel_rfl) (fun w=>by kernel_rfl) hC hS (fun hC hS=>?_)
        refine rl_pure 3 _ (.pointer (some ⟨bk,o+j,none⟩)) (some 19) rfl (by kernel_rfl) (by kernel_rfl) (by kernel_rfl) (by kernel_rfl) (fun _ _ _ h=>h) (fun _ _=>Iff.rfl) (by kernel_rfl) (fun w=>rl_idx w _ _ _ _ _ 9 bk o n cap j j 1 rfl (by kernel_rfl) (by kernel_rfl) Tryd.underlying22 (by kernel_rfl) hlt (Nat.mul_one j)) hC hS (fun hC hS=>?_)
        refine rl_load1 4 _ 9 (.tmp 19) ⟨bk,o+j,none⟩ (.string x) _ (some 20) rfl (by kernel_rfl) (by kernel_rfl) (by kernel_rfl) (by kernel_rfl) (fun _ _ _ h=>h) (fun _ _=>Iff.rfl) (by kernel_rfl) rfl (by kernel_rfl) Tryd.underlying9 rfl (fun L W hC h1 hS=>HCX.out W hS) hC hS (fun hC hS=>?_)
        refine rl_all [5,9] (by kernel_rfl) (by simp) hC (rl_two _ _ ?_ ?_)
        · skip
          refine rc_call 5 _ 55 _ _ _ _ #[cu.val,.string x] (some 21) rfl (by kernel_rfl) (by kernel_rfl) rfl (by kernel_rfl) Tryd.func55 (by kernel_rfl) (by kernel_rfl) (by kernel_rfl) (KCH.out _ hB) ?_
          rintro r' W1 ⟨cx,bb,rfl,hcs,hq1⟩
          replace hB:=hB.trans (hq1.mono hB.size)
          refine ⟨_,rfl,?_⟩
          refine rl_and hB (fun hS hC=>?_)
          refine rl_pure 6 _ (.tuple #[cx.val,.bool bb]) (some 15) rfl (by kernel_rfl) (by kernel_rfl) (by kernel_rfl) (by kernel_rfl) (fun _ _ _ h=>h) (fun _ _=>Iff.rfl) (by kernel_rfl) (fun w=>by kernel_rfl) hC hS (fun hC hS=>?_)
          refine rl_pure 7 _ (cx.val) (some 22) rfl (by kernel_rfl) (by kernel_rfl) (by kernel_rfl) (by kernel_rfl) (fun _ _ _ h=>h) (fun _ _=>Iff.rfl) (by kernel_rfl) (fun w=>by kernel_rfl) hC hS (fun hC hS=>?_)
          refine rl_pure 8 _ (.bool bb) (some 23) rfl (by kernel_rfl) (by kernel_rfl) (by kernel_rfl) (by kernel_rfl) (fun _ _ _ h=>h) (fun _ _=>Iff.rfl) (by kernel_rfl) (fun w=>by kernel_rfl) hC hS (fun hC hS=>?_)
          refine rl_all [9] (by kernel_rfl) (by simp) hC (rl_one _ ?_)
          have hq2:Below W1.heap.size W1 (W1.alloc (.cells #[.int .i64 0,.bool false,.bool false,.slice none 0 0,.int .i64 0,.string ⟨#[]⟩,.slice none 0 0,.slice none 0 0] 28)):=(Below.refl _ _).alloc (Nat.le_refl _) _
          have hbs:=hB.size
          replace hB:=hB.trans (hq2.mono hB.size)
          have hbox:BoxT (W1.alloc (.cells #[.int .i64 0,.bool false,.bool false,.slice none 0 0,.int .i64 0,.string ⟨#[]⟩,.slice none 0 0,.slice none 0 0] 28)) W1.heap.size (leafC 0 false ⟨#[]⟩):=heap_alloc_new W1 (.cells #[.int .i64 0,.bool false,.bool false,.slice none 0 0,.int .i64 0,.string ⟨#[]⟩,.slice none 0 0,.slice none 0 0] 28)
          refine rl_val 9 _ (.pointer (some ⟨W1.heap.size,0,none⟩)) (W1.alloc (.cells #[.int .i64 0,.bool false,.bool false,.slice none 0 0,.int .i64 0,.string ⟨#[]⟩,.slice none 0 0,.slice none 0 0] 28)) (some 7) rfl (by kernel_rfl) (by kernel_rfl) (by kernel_rfl) ?_
          refine rl_and hB (fun hS hC=>?_)
          generalize W1.alloc (.cells #[.int .i64 0,.bool false,.bool false,.slice none 0 0,.int .i64 0,.string ⟨#[]⟩,.slice none 0 0,.slice none 0 0] 28)=W2 at *
          generalize W1.heap.size=bx at *
          refine rl_all [10] (by kernel_rfl) (by simp) hC (rl_one _ ?_)
          refine rl_storeT 10 _ 28 (.tmp 7) (.tmp 22) bx cx (leafC 0 false ⟨#[]⟩) (TypeDesc.struct #[]) rfl (by kernel_rfl) (by kernel_rfl) rfl (by kernel_rfl) (by kernel_rfl) (by kernel_rfl) hbox ?_
          have hbx2:=put0_box hbox (c:=cx)
          replace hB:=hB.trans ((put0_but W2 bx cx).below hbs hB.size)
          refine rl_and hB (fun hS hC=>?_)
          refine rl_pure 11 _ (.bool bb) (some 8) rfl (by kernel_rfl) (by kernel_rfl) (by kernel_rfl) (by kernel_rfl) (fun _ _ _ h=>h) (fun _ _=>Iff.rfl) (by kernel_rfl) (fun w=>by kernel_rfl) hC hS (fun hC hS=>?_)
          refine rl_done (by kernel_rfl) ?_ _
          refine HJ.out _ _ ?_
          clear HJ
          simp only [Act.put,List.setIfInBounds_toArray,List.set_cons_zero,List.set_cons_succ]
          (repeat apply Exists.intro)
          exact ⟨⟨bx,cx,bb,rfl,rfl,hbx2,hcs,hbs,hB⟩,rfl⟩
        · skip
          have hq4:Below wr.drew.heap.size wr.drew (wr.drew.alloc (.cells #[.int .i64 0,.bool false,.bool false,.slice none 0 0,.int .i64 0,.string ⟨#[]⟩,.slice none 0 0,.slice none 0 0] 28)):=(Below.refl _ _).alloc (Nat.le_refl _) _
          have hbs:=hB.size
          replace hB:=hB.trans (hq4.mono hB.size)
          have hbox:BoxT (wr.drew.alloc (.cells #[.int .i64 0,.bool false,.bool false,.slice none 0 0,.int .i64 0,.string ⟨#[]⟩,.slice none 0 0,.slice none 0 0] 28)) wr.drew.heap.size (leafC 0 false ⟨#[]⟩):=heap_alloc_new wr.drew (.cells #[.int .i64 0,.bool false,.bool false,.slice none 0 0,.int .i64 0,.string ⟨#[]⟩,.slice none 0 0,.slice none 0 0] 28)
          refine rl_val 9 _ (.pointer (some ⟨wr.drew.heap.size,0,none⟩)) (wr.drew.alloc (.cells #[.int .i64 0,.bool false,.bool false,.slice none 0 0,.int .i64 0,.string ⟨#[]⟩,.slice none 0 0,.slice none 0 0] 28)) (some 7) rfl (by kernel_rfl) (by kernel_rfl) (by kernel_rfl) ?_
          refine rl_and hB (fun hS hC=>?_)
          generalize wr.drew.alloc (.cells #[.int .i64 0,.bool false,.bool false,.slice none 0 0,.int .i64 0,.string ⟨#[]⟩,.slice none 0 0,.slice none 0 0] 28)=W4 at *
          generalize wr.drew.heap.size=bx at *
          refine rl_all [5] (by kernel_rfl) (by simp) hC (rl_one _ ?_)
          refine rc_call 5 _ 55 _ _ _ _ #[cu.val,.string x] (some 21) rfl (by kernel_rfl) (by kernel_rfl) rfl (by kernel_rfl) Tryd.func55 (by kernel_rfl) (by kernel_rfl) (by kernel_rfl) (KCH.out _ hB) ?_
          rintro r' W5 ⟨cx,bb,rfl,hcs,hq5⟩
          replace hbox:=hbox.on (hq5.block _ hbox.lt)
          replace hB:=hB.trans (hq5.mono hB.size)
          refine ⟨_,rfl,?_⟩
          refine rl_and hB (fun hS hC=>?_)
          refine rl_pure 6 _ (.tuple #[cx.val,.bool bb]) (some 15) rfl (by kernel_rfl) (by kernel_rfl) (by kernel_rfl) (by kernel_rfl) (fun _ _ _ h=>h) (fun _ _=>Iff.rfl) (by kernel_rfl) (fun w=>by kernel_rfl) hC hS (fun hC hS=>?_)
          refine rl_pure 7 _ (cx.val) (some 22) rfl (by kernel_rfl) (by kernel_rfl) (by kernel_rfl) (by kernel_rfl) (fun _ _ _ h=>h) (fun _ _=>Iff.rfl) (by kernel_rfl) (fun w=>by kernel_rfl) hC hS (fun hC hS=>?_)
          refine rl_pure 8 _ (.bool bb) (some 23) rfl (by kernel_rfl) (by kernel_rfl) (by kernel_rfl) (by kernel_rfl) (fun _ _ _ h=>h) (fun _ _=>Iff.rfl) (by kernel_rfl) (fun w=>by kernel_rfl) hC hS (fun hC hS=>?_)
          refine rl_all [10] (by kernel_rfl) (by simp) hC (rl_one _ ?_)
          refine rl_storeT 10 _ 28 (.tmp 7) (.tmp 22) bx cx (leafC 0 false ⟨#[]⟩) (TypeDesc.struct #[]) rfl (by kernel_rfl) (by kernel_rfl) rfl (by kernel_rfl) (by kernel_rfl) (by kernel_rfl) hbox ?_
          have hbx2:=put0_box hbox (c:=cx)
          replace hB:=hB.trans ((put0_but W5 bx cx).below hbs hB.size)
          refine rl_and hB (fun hS hC=>?_)
          refine rl_pure 11 _ (.bool bb) (some 8) rfl (by kernel_rfl) (by kernel_rfl) (by kernel_rfl) (by kernel_rfl) (fun _ _ _ h=>h) (fun _ _=>Iff.rfl) (by kernel_rfl) (fun w=>by kernel_rfl) hC hS (fun hC hS=>?_)
          refine rl_done (by kernel_rfl) ?_ _
          refine HJ.out _ _ ?_
          clear HJ
          simp only [Act.put,List.setIfInBounds_toArray,List.set_cons_zero,List.set_cons_succ]
          (repeat apply Exists.intro)
          exact ⟨⟨bx,cx,bb,rfl,rfl,hbx2,hcs,hbs,hB⟩,rfl⟩
      case rest =>
        obtain ⟨bx,cx,bb,rfl,rfl,hbx,hcs,hbs,hB⟩:=hcut
        have hb5:=HBW.out.trans (hB.mono HBW.out.size)
        have hx1:=HX1.out.on (hB.block _ HX1.out.lt)
        have hx2:=HX2.out.on (hB.block _ HX2.out.lt)
        rcases hcs with ⟨y,hy,rfl,rfl⟩ | ⟨hy,rfl⟩
        · have HN:=Lib.hid (show GtI t l w b n k (.int .i64 ((j:Int)+1)) (put0 wc b y.c) from ⟨j+1,y,by omega,by omega,rfl,by rw [HGS.out,hy],put0_box hx1,hx2.on ((put0_but wc b _).block _ hx2.lt (by omega)),hb5.trans ((put0_but _ _ _).below (by have:=HBB.out;omega) hb5.size)⟩)
          obtain ⟨⟨g0,g1,g2,g3,g4,g5,g6,g7⟩,f0,f1,f2,f3,f4,f5,f6,f7⟩:=hx1.var
          obtain ⟨x0,x1,x2,x3,x4,x5,x6,x7⟩:=hbx.cells
          clear hx1 hx2 hb5 hy hbx hB hbs
          generalize y.c=xc at *
          generalize u.c=uc at *
          obtain ⟨xk,xb,xneg,xma,xmn,xmc,xe,xs,xka,xkn,xkc,xva,xvn,xvc⟩:=xc
          unfold put0 at HN
          simp only at HN x0 x1 x2 x3 x4 x5 x6 x7 g0 g1 g2 g3 g4 g5 g6 g7
          go_wp2
          go_roundg k
          case rel=>exact HN.out
          case measure=>omega
        · have HE:=Lib.hid (show GetP t l w (.returned (.tuple #[zeroV,.bool false])) (put0 wc (b+1) (leafC 0 false ⟨#[]⟩)) from ⟨.inr ⟨HGN.out hy,rfl⟩,hb5.trans ((put0_but _ _ _).below (by have:=HBB.out;omega) hb5.size)⟩)
          obtain ⟨⟨g0,g1,g2,g3,g4,g5,g6,g7⟩,f0,f1,f2,f3,f4,f5,f6,f7⟩:=hx2.var
          have hbx:=(put0_box hx2 (c:=leafC 0 false ⟨#[]⟩)).cells
          unfold put0 leafC at hbx HE
          unfold zeroV at HE
          simp only [leafC] at hbx HE g0 g1 g2 g3 g4 g5 g6 g7
          obtain ⟨d0,d1,d2,d3,d4,d5,d6,d7⟩:=hbx
          clear hx1 hx2 hb5 hy hB hbs
          go_wp2
          exact bodyPost_ret (v:=.tuple #[.agg #[.int .i64 0,.bool false,.bool false,.slice none 0 0,.int .i64 0,.string ⟨#[]⟩,.slice none 0 0,.slice none 0 0],.bool false]) (by simp [results,Tryd.results26,go_sem,d0,d1,d2,d3,d4,d5,d6,d7]) rfl HE.out
    · obtain rfl:j=n:=by omega
      have hjz:¬ (j:Int)<(j:Int):=by omega
      have hal:l.take j=l:=by rw [← HL.out];exact List.take_length
      have HG2:=Lib.hid (show getM t l=some u by rw [← hal];exact HG.out)
      obtain ⟨⟨g0,g1,g2,g3,g4,g5,g6,g7⟩,f0,f1,f2,f3,f4,f5,f6,f7⟩:=HX2.out.var
      have HE:=Lib.hid (show GetP t l w (.returned (.tuple #[u.c.val,.bool true])) (put0 wr (b+1) u.c) from ⟨.inl ⟨u,HG2.out,rfl⟩,HBW.out.trans ((put0_but _ _ _).below (by have:=HBB.out;omega) HBW.out.size)⟩)
      have hbx:=(put0_box HX2.out (c:=u.c)).cells
      obtain ⟨c0,c1,c2,c3,c4,c5,c6,c7⟩:=hx1.cells
      clear hal hur hg hbw hx1 hx2
      generalize u.c=c at *
      obtain ⟨uk,ub,uneg,uma,umn,umc,ue,us,uka,ukn,ukc,uva,uvn,uvc⟩:=c
      unfold put0 at hbx HE
      unfold Cel.val at HE
      simp only [leafC] at hbx HE g0 g1 g2 g3 g4 g5 g6 g7 c0 c1 c2 c3 c4 c5 c6 c7
      obtain ⟨d0,d1,d2,d3,d4,d5,d6,d7⟩:=hbx
      go_wp2
      exact bodyPost_ret (v:=.tuple #[.agg #[.int .i64 uk,.bool ub,.bool uneg,.slice uma umn umc,.int .i64 ue,.string us,.slice uka ukn ukc,.slice uva uvn uvc],.bool true]) (by simp [results,Tryd.results26,go_sem,d0,d1,d2,d3,d4,d5,d6,d7]) rfl HE.out
theorem set_left8 {α:Type} (l r:List α) (i:Nat) (x:α) (h:i<l.length):(l++r).set i x=l.set i x++r:=List.set_append_left _ _ h
theorem put8_pad {w:World} {b:Nat} {l:List Cel} {r:List Value} (h:BlkV w b 28 (flat l++r)) (p:Nat) (hp:p<l.length) (c:Cel):BlkV (put8 w b (p*8) c) b 28 (flat (l.set p c)++r):=by
  have h2:=(((((((h.set (p*8) (.int .i64 c.k)).set (p*8+1) (.bool c.b)).set (p*8+2) (.bool c.neg)).set (p*8+3) (.slice c.ma c.mn c.mc)).set (p*8+4) (.int .i64 c.e)).set (p*8+5) (.string c.s)).set (p*8+6) (.slice c.ka c.kn c.kc)).set (p*8+7) (.slice c.va c.vn c.vc)
  have hl:(flat l).length=l.length*8:=flat_len l
  rw [set_left8 _ _ _ _ (by rw [hl];omega),set_left8 _ _ _ _ (by simp only [List.length_set];rw [hl];omega),set_left8 _ _ _ _ (by simp only [List.length_set];rw [hl];omega),set_left8 _ _ _ _ (by simp only [List.length_set];rw [hl];omega),set_left8 _ _ _ _ (by simp only [List.length_set];rw [hl];omega),set_left8 _ _ _ _ (by simp only [List.length_set];rw [hl];omega),set_left8 _ _ _ _ (by simp only [List.length_set];rw [hl];omega),set_left8 _ _ _ _ (by simp only [List.length_set];rw [hl];omega),flat_set l p hp c] at h2
  exact h2
theorem pad_olds {W:World} {g k:Nat} {l:List Cel} {r:List Value} (h:BlkV W g 28 (flat l++r)) (hk:k<l.length) :
    (∃ z,W.cell? ⟨g,k*8,none⟩=some z)∧(∃ z,W.cell? ⟨g,k*8+1,none⟩=some z)∧(∃ z,W.cell? ⟨g,k*8+2,none⟩=some z)∧(∃ z,W.cell? ⟨g,k*8+3,none⟩=some z) ∧
    (∃ z,W.cell? ⟨g,k*8+4,none⟩=some z)∧(∃ z,W.cell? ⟨g,k*8+5,none⟩=some z)∧(∃ z,W.cell? ⟨g,k*8+6,none⟩=some z)∧(∃ z,W.cell? ⟨g,k*8+7,none⟩=some z):=by
  have key:∀ j,j<8→∃ z,W.cell? ⟨g,k*8+j,none⟩=some z:=fun j hj=>by
    rw [h.cell]
    have:k*8+j<(flat l++r).length:=by rw [List.length_append,flat_len];omega
    exact ⟨_,List.getElem?_eq_getElem this⟩
  exact ⟨key 0 (by decide),key 1 (by decide),key 2 (by decide),key 3 (by decide),key 4 (by decide),key 5 (by decide),key 6 (by decide),key 7 (by decide)⟩
theorem pad_rd {W:World} {g:Nat} {l r:List Value} (h:BlkV W g 28 (l++r)):RdV W (some ⟨g,0,none⟩) l:=by
  have:=h.rd 0 l.length
  rwa [List.drop_zero,List.take_left] at this
theorem own_pad {w:World} {B n:Nat} {v:Value} {xs:List Value} (h:w.ownsRow B 28 8 v n xs) (hn:0<n):∃ g cap r,v=.slice (some ⟨g,0,none⟩) n cap∧n≤cap∧cap≤maxLen∧B≤g∧BlkV w g 28 (xs++r):=by
  have hl:=h.1
  rcases h.2 with ⟨_,h0⟩ | ⟨g,cap,cur,e,hB,hg,hc,hm,hs,ht⟩
  · omega
  · have e2:cur.toList=xs++cur.toList.drop (n*8):=by
      conv=>lhs;rw [← List.take_append_drop (n*8) cur.toList]
      congr 1
    refine ⟨g,cap,cur.toList.drop (n*8),e,hc,hm,hB,?_⟩
    unfold BlkV
    rw [← e2]
    simpa using hg
def setA (t y:MT) (j g cap:Nat):MT:=.mk { t.c with va:=some ⟨g,0,none⟩,vc:=cap } t.m t.k (t.v.set j y)
theorem setA_rep {w:World} {t y:MT} {j g cap:Nat} (hR:Rep w t) (hV:Rep w y) (hcap:t.c.vn≤cap) (hb:RdV w (some ⟨g,0,none⟩) (flat ((t.v.set j y).map MT.c))):Rep w (setA t y j g cap):=by
  have o:=hR.own
  refine Rep.mk ⟨o.mn,o.mc,o.mo,o.mr,o.kn,o.kc,o.kr,by show (t.v.set j y).length=_;rw [List.length_set];exact o.vn,hcap,hb,o.lm,o.ls,o.lk,o.le,o.lq⟩ ?_
  intro s hs
  rcases List.mem_or_eq_of_mem_set hs with h | rfl
  · exact hR.part h
  · exact hV
theorem setA_bare (t y:MT) (j g cap:Nat):(setA t y j g cap).bare=(setV t y j 0).bare:=by
  rw [setV_bare]
  unfold setA
  rw [MT.bare,MT.bareL_map,List.map_set]
  rfl
def Cut3 (u:MT) (x:ByteArray) (wr:World) (p q:Value) (W:World):Prop :=
  ∃ (bx:Nat) (cx:Cel) (bb:Bool),p=.pointer (some ⟨bx,0,none⟩)∧q=.bool bb∧BoxT W bx cx∧((∃ y,stepM u x=some y∧cx=y.c∧bb=true)∨(stepM u x=none∧bb=false))∧wr.heap.size≤bx∧Below wr.heap.size wr W
def Cut6 (X:Nat→Prop) (x:MT) (l:List ByteArray) (v:MT) (b:Nat) (wr:World) (p:Value) (W:World):Prop :=
  ∃ (cy:Cel) (bb:Bool) (m4:Nat),p=.bool bb∧BoxT W b cy∧((∃ y,PutQ x l v y∧cy=y.c∧bb=true∧Ind (fun k=>X k∨(wr.heap.size≤k∧k<m4)) W (fun W=>Rep W y))∨(getM x l=none∧bb=false))∧wr.heap.size≤m4∧m4≤W.heap.size∧b<m4
theorem RPutP.cel {X:Nat→Prop} {t v:MT} {l:List ByteArray} {w w':World} {e:Ending} (h:RPutP X t l v w e w'):∃ (cx:Cel) (bb:Bool),e=.returned (.tuple #[cx.val,.bool bb])∧((∃ y,PutQ t l v y∧cx=y.c∧bb=true∧Ind X w' (fun W=>Rep W y))∨(getM t l=none∧bb=false))∧Below w.heap.size w w':=by
  obtain ⟨h1,h2⟩:=h
  rcases h1 with ⟨h3,h4⟩ | ⟨u,h3,h4,h5⟩
  · exact ⟨leafC 0 false ⟨#[]⟩,false,h4,.inr ⟨h3,rfl⟩,h2⟩
  · exact ⟨u.c,true,h4,.inl ⟨u,h3,rfl,rfl,h5⟩,h2⟩
theorem refPutT_any:∀ (l:List ByteArray) (X:Nat→Prop) (t v:MT) (ad:Option Addr) (n cap:Nat) (w:World),(∀ k,X k→k<w.heap.size)→Ind X w (fun W=>Rep W t)→Ind X w (fun W=>Rep W v)→Sml t→Objs t→l.length=n→RdV w ad (sv l)→n≤1000000→n≤cap→(∀ x∈l,x.size≤4000000000000) →
    Calls Tryd.prog 28 #[t.c.val,.slice ad n cap,v.c.val] w (RPutP X t l v w):=by
  intro l
  induction l with
  | nil =>
    intro X t v ad n cap w hX hR hV hSm hO hl hr hn hcap hs
    obtain rfl:n=0:=hl.symm
    obtain ⟨Wb,hWb⟩:∃ x,thrP w t.c v.c (leafC 0 false ⟨#[]⟩)=x:=⟨_,rfl⟩
    have hb0:Below w.heap.size w Wb:=by rw [← hWb];exact thrP_below _ _ _ _
    have hbx:BoxT Wb w.heap.size t.c∧BoxT Wb (w.heap.size+1) v.c∧BoxT Wb (w.heap.size+1+1) (leafC 0 false ⟨#[]⟩):=by rw [← hWb];exact thrP_box _ _ _ _
    have hx3:=hbx.2.2
    have HE:=Lib.hid (show RPutP X t [] v w (.returned (.tuple #[v.c.val,.bool true])) (put0 Wb (w.heap.size+1+1) v.c) from by
      have hbb:=hb0.trans ((put0_but Wb (w.heap.size+1+1) v.c).below (by omega) hb0.size)
      exact ⟨.inr ⟨v,rfl,rfl,hV.below hbb⟩,hbb⟩)
    obtain ⟨⟨g0,g1,g2,g3,g4,g5,g6,g7⟩,f0,f1,f2,f3,f4,f5,f6,f7⟩:=hx3.var
    have hbz:=(put0_box hx3 (c:=v.c)).cells
    obtain ⟨e0,e1,e2,e3,e4,e5,e6,e7⟩:=hbx.2.1.cells
    clear hR hV hb0 hbx hSm hO hr hX
    generalize t.c=ct at *
    generalize v.c=cv at *
    obtain ⟨tk,tb,tneg,tma,tmn,tmc,te,ts,tka,tkn,tkc,tva,tvn,tvc⟩:=ct
    obtain ⟨zk,zb,zneg,zma,zmn,zmc,ze,zs,zka,zkn,zkc,zva,zvn,zvc⟩:=cv
    unfold Cel.val
    unfold thrP two2 Cel.cells leafC at hWb
    simp only at hWb e0 e1 e2 e3 e4 e5 e6 e7
    have HWB:=Lib.hid hWb
    unfold put0 at hbz HE
    unfold Cel.val at HE
    simp only [leafC] at hbz HE g0 g1 g2 g3 g4 g5 g6 g7
    obtain ⟨d0,d1,d2,d3,d4,d5,d6,d7⟩:=hbz
    clear hWb hx3
    go_enter Tryd.func28,Tryd.ntmps28
    go_upto_region 2 with fail
    rw [HWB.out]
    go_wp2_with fail
    exact bodyPost_ret (v:=.tuple #[.agg #[.int .i64 zk,.bool zb,.bool zneg,.slice zma zmn zmc,.int .i64 ze,.string zs,.slice zka zkn zkc,.slice zva zvn zvc],.bool true]) (by simp [results,Tryd.results28,go_sem,d0,d1,d2,d3,d4,d5,d6,d7]) rfl HE.out
  | cons s l IH =>
    intro X t v ad n cap w hX hR hV hSm hO hl hr hn hcap hs
    obtain ⟨m,rfl⟩:∃ m,n=m+1:=⟨l.length,by rw [← hl];rfl⟩
    obtain ⟨bk,o,rfl,hbk,hcx⟩:=hr 0 (by simp [sv])
    have hcs:w.cell? ⟨bk,o+0,none⟩=some (.string s):=by rw [hcx];simp [sv]
    have HML:=Lib.hid (show l.length=m by simpa using hl)
    obtain ⟨ad2,had2⟩:∃ x,(if cap=1 then some (⟨bk,o,none⟩:Addr) else Option.map (fun x:Addr=>x.add 1) (some ⟨bk,o,none⟩))=x:=⟨_,rfl⟩
    have HA2:=Lib.hid had2
    have hr2:RdV w ad2 (sv l):=by
      by_cases hc1:cap=1
      · have:l=[]:=List.eq_nil_of_length_eq_zero (by have:=HML.out;omega)
        rw [this]
        intro i hi;exact absurd hi (by simp [sv])
      · rw [if_neg hc1] at had2
        have e:ad2=some ⟨bk,o+1,none⟩:=by rw [← had2];simp [Addr.add]
        intro i hi
        obtain ⟨b2,o2,e2,h2,h3⟩:=hr (i+1) (by simp [sv] at hi ⊢;omega)
        obtain ⟨rfl,rfl⟩:b2=bk∧o2=o:=by cases e2;exact ⟨rfl,rfl⟩
        refine ⟨b2,o2+1,e,h2,?_⟩
        rw [show o2+1+i=o2+(i+1) by omega,h3]
        simp [sv]
    have HR2:=Lib.hid (fun W (h:Below w.heap.size w W)=>hr2.on h)
    have HCS:=Lib.hid (fun W (h:Below w.heap.size w W)=>((h.cell (p:=⟨bk,o+0,none⟩) hbk).trans hcs:W.cell? ⟨bk,o+0,none⟩=some (.string s)))
    obtain ⟨Wb,hWb⟩:∃ x,thrP w t.c v.c (leafC 0 false ⟨#[]⟩)=x:=⟨_,rfl⟩
    have hb0:Below w.heap.size w Wb:=by rw [← hWb];exact thrP_below _ _ _ _
    have hbx:BoxT Wb w.heap.size t.c∧BoxT Wb (w.heap.size+1) v.c∧BoxT Wb (w.heap.size+1+1) (leafC 0 false ⟨#[]⟩):=by rw [← hWb];exact thrP_box _ _ _ _
    have HX0:=Lib.hid hX
    have HR0:=Lib.hid (And.intro hR hV)
    have HSM:=Lib.hid hSm
    have HOB:=Lib.hid hO
    have HSS:=Lib.hid hs
    have HIH:=Lib.hid IH
    have HB0:=Lib.hid hb0
    have HBX:=Lib.hid (fun W (h:Below Wb.heap.size Wb W)=>(⟨hbx.1.on (h.block _ hbx.1.lt),hbx.2.1.on (h.block _ hbx.2.1.lt),hbx.2.2.on (h.block _ hbx.2.2.lt)⟩:BoxT W w.heap.size t.c∧BoxT W (w.heap.size+1) v.c∧BoxT W (w.heap.size+1+1) (leafC 0 false ⟨#[]⟩)))
    have KCH:=Lib.hid (fun W (h:Below w.heap.size w W)=>(refChild_any t s W (hR.below h).here).mono (fun e w' h=>h.cel))
    have hlt3:=hbx.2.2.lt
    have HVN:=Lib.hid hR.here.own.vn
    have hvn:=(hSm t t.sub_refl).2.2
    obtain ⟨b,hb⟩:∃ b,w.heap.size=b:=⟨_,rfl⟩
    have HBB:=Lib.hid hb
    rw [hb] at HBX hlt3
    clear hR hV hSm hO hl hr hs IH hX hr2 hcs hcx hb0 hbx had2
    obtain ⟨ct,hct⟩:∃ c,t.c=c:=⟨_,rfl⟩
    obtain ⟨cv,hcv⟩:∃ c,v.c=c:=⟨_,rfl⟩
    have HCT:=Lib.hid hct
    have HCV:=Lib.hid hcv
    rw [hct] at hWb HBX KCH HVN hvn ⊢
    rw [hcv] at hWb HBX ⊢
    clear hct hcv
    obtain ⟨tk,tb,tneg,tma,tmn,tmc,te,ts,tka,tkn,tkc,tva,tvn,tvc⟩:=ct
    obtain ⟨zk,zb,zneg,zma,zmn,zmc,ze,zs,zka,zkn,zkc,zva,zvn,zvc⟩:=cv
    unfold Cel.val
    unfold thrP two2 Cel.cells leafC at hWb
    simp only at hWb hvn HVN
    have HWB:=Lib.hid hWb
    clear hWb
    have hm0:((m:Int)+1 == 0)=false:=by rw [beq_eq_false_iff_ne];omega
    go_enter Tryd.func28,Tryd.ntmps28
    go_upto_region 3 with fail
    rw [HWB.out]
    obtain ⟨wr,hwr⟩:∃ x,Wb=x:=⟨_,rfl⟩
    subst hwr
    go_cut [8,9] from 13 to 69 (fun p q W=>Cut3 t s Wb p q W)
    case first =>
      rename_i J K hJ hK
      have HJ:=Lib.hid hJ
      refine rc_first J hK ?_
      clear hJ hK
      refine rl_start (S:=fun _ W=>Below Wb.heap.size Wb W) (by kernel_rfl) (below_drew (Below.refl _ _)) (fun hC hS=>?_)
      have hB:=hS
      refine rl_loadM 0 _ 28 (.tmp 3) b 0 (⟨tk,tb,tneg,tma,tmn,tmc,te,ts,tka,tkn,tkc,tva,tvn,tvc⟩:Cel).cells _ (some 18) rfl (by kernel_rfl) (by kernel_rfl) (by kernel_rfl) (by kernel_rfl) (fun _ _ _ h=>h) (fun _ _=>Iff.rfl) (by kernel_rfl) rfl (by kernel_rfl) Tryd.underlying28 rfl (by kernel_rfl) (fun L W hC h1 hS=>box_range (HBX.out W hS).1) hC hS (fun hC hS=>?_)
      refine rl_pure 1 _ (.slice (some ⟨bk,o,none⟩) (m+1) cap) (some 19) rfl (by kernel_rfl) (by kernel_rfl) (by kernel_rfl) (by kernel_rfl) (fun _ _ _ h=>h) (fun _ _=>Iff.rfl) (by kernel_rfl) (fun w=>by kernel_rfl) hC hS (fun hC hS=>?_)
      refine rl_pure 2 _ (.pointer (some ⟨bk,o+0,none⟩)) (some 20) rfl (by kernel_rfl) (by kernel_rfl) (by kernel_rfl) (by kernel_rfl) (fun _ _ _ h=>h) (fun _ _=>Iff.rfl) (by kernel_rfl) (fun w=>rl_idx w _ _ _ _ _ 9 bk o (m+1) cap 0 0 1 rfl (by kernel_rfl) (by kernel_rfl) Tryd.underlying22 (by kernel_rfl) (by omega) rfl) hC hS (fun hC hS=>?_)
      refine rl_load1 3 _ 9 (.tmp 20) ⟨bk,o+0,none⟩ (.string s) _ (some 21) rfl (by kernel_rfl) (by kernel_rfl) (by kernel_rfl) (by kernel_rfl) (fun _ _ _ h=>h) (fun _ _=>Iff.rfl) (by kernel_rfl) rfl (by kernel_rfl) Tryd.underlying9 rfl (fun L W hC h1 hS=>HCS.out W (HB0.out.trans (hS.mono HB0.out.size))) hC hS (fun hC hS=>?_)
      refine rl_all [4,8] (by kernel_rfl) (by simp) hC (rl_two _ _ ?_ ?_)
      · skip
        refine rc_call 4 _ 55 _ _ _ _ #[(⟨tk,tb,tneg,tma,tmn,tmc,te,ts,tka,tkn,tkc,tva,tvn,tvc⟩:Cel).val,.string s] (some 22) rfl (by kernel_rfl) (by kernel_rfl) rfl (by kernel_rfl) Tryd.func55 (by kernel_rfl) (by kernel_rfl) (by kernel_rfl) (KCH.out _ (HB0.out.trans (hB.mono HB0.out.size))) ?_
        rintro r' W1 ⟨cx,bb,rfl,hcs,hq1⟩
        replace hB:=hB.trans (hq1.mono hB.size)
        refine ⟨_,rfl,?_⟩
        refine rl_and hB (fun hS hC=>?_)
        refine rl_pure 5 _ (.tuple #[cx.val,.bool bb]) (some 17) rfl (by kernel_rfl) (by kernel_rfl) (by kernel_rfl) (by kernel_rfl) (fun _ _ _ h=>h) (fun _ _=>Iff.rfl) (by kernel_rfl) (fun w=>by kernel_rfl) hC hS (fun hC hS=>?_)
        refine rl_pure 6 _ (cx.val) (some 23) rfl (by kernel_rfl) (by kernel_rfl) (by kernel_rfl) (by kernel_rfl) (fun _ _ _ h=>h) (fun _ _=>Iff.rfl) (by kernel_rfl) (fun w=>by kernel_rfl) hC hS (fun hC hS=>?_)
        refine rl_pure 7 _ (.bool bb) (some 24) rfl (by kernel_rfl) (by kernel_rfl) (by kernel_rfl) (by kernel_rfl) (fun _ _ _ h=>h) (fun _ _=>Iff.rfl) (by kernel_rfl) (fun w=>by kernel_rfl) hC hS (fun hC hS=>?_)
        refine rl_all [8] (by kernel_rfl) (by simp) hC (rl_one _ ?_)
        have hq2:Below W1.heap.size W1 (W1.alloc (.cells #[.int .i64 0,.bool false,.bool false,.slice none 0 0,.int .i64 0,.string ⟨#[]⟩,.slice none 0 0,.slice none 0 0] 28)):=(Below.refl _ _).alloc (Nat.le_refl _) _
        have hbs:=hB.size
        replace hB:=hB.trans (hq2.mono hB.size)
        have hbox:BoxT (W1.alloc (.cells #[.int .i64 0,.bool false,.bool false,.slice none 0 0,.int .i64 0,.string ⟨#[]⟩,.slice none 0 0,.slice none 0 0] 28)) W1.heap.size (leafC 0 false ⟨#[]⟩):=heap_alloc_new W1 (.cells #[.int .i64 0,.bool false,.bool false,.slice none 0 0,.int .i64 0,.string ⟨#[]⟩,.slice none 0 0,.slice none 0 0] 28)
        refine rl_val 8 _ (.pointer (some ⟨W1.heap.size,0,none⟩)) (W1.alloc (.cells #[.int .i64 0,.bool false,.bool false,.slice none 0 0,.int .i64 0,.string ⟨#[]⟩,.slice none 0 0,.slice none 0 0] 28)) (some 8) rfl (by kernel_rfl) (by kernel_rfl) (by kernel_rfl) ?_
        refine rl_and hB (fun hS hC=>?_)
        generalize W1.alloc (.cells #[.int .i64 0,.bool false,.bool false,.slice none 0 0,.int .i64 0,.string ⟨#[]⟩,.slice none 0 0,.slice none 0 0] 28)=W2 at *
        generalize W1.heap.size=bx at *
        refine rl_all [9] (by kernel_rfl) (by simp) hC (rl_one _ ?_)
        refine rl_storeT 9 _ 28 (.tmp 8) (.tmp 23) bx cx (leafC 0 false ⟨#[]⟩) (TypeDesc.struct #[]) rfl (by kernel_rfl) (by kernel_rfl) rfl (by kernel_rfl) (by kernel_rfl) (by kernel_rfl) hbox ?_
        have hbx2:=put0_box hbox (c:=cx)
        replace hB:=hB.trans ((put0_but W2 bx cx).below hbs hB.size)
        refine rl_and hB (fun hS hC=>?_)
        refine rl_pure 10 _ (.bool bb) (some 9) rfl (by kernel_rfl) (by kernel_rfl) (by kernel_rfl) (by kernel_rfl) (fun _ _ _ h=>h) (fun _ _=>Iff.rfl) (by kernel_rfl) (fun w=>by kernel_rfl) hC hS (fun hC hS=>?_)
        refine rl_done (by kernel_rfl) ?_ _
        refine HJ.out _ _ ?_
        clear HJ
        simp only [Act.put,List.setIfInBounds_toArray,List.set_cons_zero,List.set_cons_succ]
        (repeat apply Exists.intro)
        exact ⟨⟨bx,cx,bb,rfl,rfl,hbx2,hcs,hbs,hB⟩,rfl⟩
      · skip
        have hq4:Below Wb.drew.heap.size Wb.drew (Wb.drew.alloc (.cells #[.int .i64 0,.bool false,.bool false,.slice none 0 0,.int .i64 0,.string ⟨#[]⟩,.slice none 0 0,.slice none 0 0] 28)):=(Below.refl _ _).alloc (Nat.le_refl _) _
        have hbs:=hB.size
        replace hB:=hB.trans (hq4.mono hB.size)
        have hbox:BoxT (Wb.drew.alloc (.cells #[.int .i64 0,.bool false,.bool false,.slice none 0 0,.int .i64 0,.string ⟨#[]⟩,.slice none 0 0,.slice none 0 0] 28)) Wb.drew.heap.size (leafC 0 false ⟨#[]⟩):=heap_alloc_new Wb.drew (.cells #[.int .i64 0,.bool false,.bool false,.slice none 0 0,.int .i64 0,.string ⟨#[]⟩,.slice none 0 0,.slice none 0 0] 28)
        refine rl_val 8 _ (.pointer (some ⟨Wb.drew.heap.size,0,none⟩)) (Wb.drew.alloc (.cells #[.int .i64 0,.bool false,.bool false,.slice none 0 0,.int .i64 0,.string ⟨#[]⟩,.slice none 0 0,.slice none 0 0] 28)) (some 8) rfl (by kernel_rfl) (by kernel_rfl) (by kernel_rfl) ?_
        refine rl_and hB (fun hS hC=>?_)
        generalize Wb.drew.alloc (.cells #[.int .i64 0,.bool false,.bool false,.slice none 0 0,.int .i64 0,.string ⟨#[]⟩,.slice none 0 0,.slice none 0 0] 28)=W4 at *
        generalize Wb.drew.heap.size=bx at *
        refine rl_all [4] (by kernel_rfl) (by simp) hC (rl_one _ ?_)
        refine rc_call 4 _ 55 _ _ _ _ #[(⟨tk,tb,tneg,tma,tmn,tmc,te,ts,tka,tkn,tkc,tva,tvn,tvc⟩:Cel).val,.string s] (some 22) rfl (by kernel_rfl) (by kernel_rfl) rfl (by kernel_rfl) Tryd.func55 (by kernel_rfl) (by kernel_rfl) (by kernel_rfl) (KCH.out _ (HB0.out.trans (hB.mono HB0.out.size))) ?_
        rintro r' W5 ⟨cx,bb,rfl,hcs,hq5⟩
        replace hbox:=hbox.on (hq5.block _ hbox.lt)
        replace hB:=hB.trans (hq5.mono hB.size)
        refine ⟨_,rfl,?_⟩
        refine rl_and hB (fun hS hC=>?_)
        refine rl_pure 5 _ (.tuple #[cx.val,.bool bb]) (some 17) rfl (by kernel_rfl) (by kernel_rfl) (by kernel_rfl) (by kernel_rfl) (fun _ _ _ h=>h) (fun _ _=>Iff.rfl) (by kernel_rfl) (fun w=>by kernel_rfl) hC hS (fun hC hS=>?_)
        refine rl_pure 6 _ (cx.val) (some 23) rfl (by kernel_rfl) (by kernel_rfl) (by kernel_rfl) (by kernel_rfl) (fun _ _ _ h=>h) (fun _ _=>Iff.rfl) (by kernel_rfl) (fun w=>by kernel_rfl) hC hS (fun hC hS=>?_)
        refine rl_pure 7 _ (.bool bb) (some 24) rfl (by kernel_rfl) (by kernel_rfl) (by kernel_rfl) (by kernel_rfl) (fun _ _ _ h=>h) (fun _ _=>Iff.rfl) (by kernel_rfl) (fun w=>by kernel_rfl) hC hS (fun hC hS=>?_)
        refine rl_all [9] (by kernel_rfl) (by simp) hC (rl_one _ ?_)
        refine rl_storeT 9 _ 28 (.tmp 8) (.tmp 23) bx cx (leafC 0 false ⟨#[]⟩) (TypeDesc.struct #[]) rfl (by kernel_rfl) (by kernel_rfl) rfl (by kernel_rfl) (by kernel_rfl) (by kernel_rfl) hbox ?_
        have hbx2:=put0_box hbox (c:=cx)
        replace hB:=hB.trans ((put0_but W5 bx cx).below hbs hB.size)
        refine rl_and hB (fun hS hC=>?_)
        refine rl_pure 10 _ (.bool bb) (some 9) rfl (by kernel_rfl) (by kernel_rfl) (by kernel_rfl) (by kernel_rfl) (fun _ _ _ h=>h) (fun _ _=>Iff.rfl) (by kernel_rfl) (fun w=>by kernel_rfl) hC hS (fun hC hS=>?_)
        refine rl_done (by kernel_rfl) ?_ _
        refine HJ.out _ _ ?_
        clear HJ
        simp only [Act.put,List.setIfInBounds_toArray,List.set_cons_zero,List.set_cons_succ]
        (repeat apply Exists.intro)
        exact ⟨⟨bx,cx,bb,rfl,rfl,hbx2,hcs,hbs,hB⟩,rfl⟩
    case rest =>
      obtain ⟨bx,cx,bb,rfl,rfl,hbx,hcs,hbs,hB⟩:=hcut
      have HXB:=Lib.hid hbx
      have HB3:=Lib.hid hB
      clear hB
      rcases hcs with ⟨x,hx,rfl,rfl⟩ | ⟨hx,rfl⟩
      case inr =>
        have hx3:=(HBX.out wc HB3.out).2.2
        have hb5:=HB0.out.trans (HB3.out.mono HB0.out.size)
        have HE:=Lib.hid (show RPutP X t (s::l) v w (.returned (.tuple #[zeroV,.bool false])) (put0 wc (b+1+1) (leafC 0 false ⟨#[]⟩)) from ⟨.inl ⟨by rw [getM,hx];rfl,rfl⟩,hb5.trans ((put0_but _ _ _).below (by have:=HBB.out;omega) hb5.size)⟩)
        obtain ⟨⟨g0,g1,g2,g3,g4,g5,g6,g7⟩,f0,f1,f2,f3,f4,f5,f6,f7⟩:=hx3.var
        have hbz:=(put0_box hx3 (c:=leafC 0 false ⟨#[]⟩)).cells
        unfold put0 leafC at hbz HE
        unfold zeroV at HE
        simp only [leafC] at hbz HE g0 g1 g2 g3 g4 g5 g6 g7
        obtain ⟨d0,d1,d2,d3,d4,d5,d6,d7⟩:=hbz
        clear hx3 hb5 hx hbx hbs
        go_wp2_with fail
        exact bodyPost_ret (v:=.tuple #[.agg #[.int .i64 0,.bool false,.bool false,.slice none 0 0,.int .i64 0,.string ⟨#[]⟩,.slice none 0 0,.slice none 0 0],.bool false]) (by simp [results,Tryd.results28,go_sem,d0,d1,d2,d3,d4,d5,d6,d7]) rfl HE.out
      case inl =>
        obtain ⟨q,hq,hxq⟩:=step_place hx
        have hqv:=placeM_lt hq
        have hxv:q<t.v.length:=by have:=HVN.out;rw [HCT.out] at hqv;simp only at hqv;omega
        have HST:=Lib.hid hx
        have HQ:=Lib.hid hq
        have HXQ:=Lib.hid hxq
        have hbw:=HB0.out.trans (HB3.out.mono HB0.out.size)
        have KP:=Lib.hid (fun W (h:Below w.heap.size w W)=>(by
          have hbW:=h
          have hs2:=h.size
          have:=HIH.out (fun k=>X k∨(w.heap.size≤k∧k<W.heap.size)) x v ad2 m (cap - 1) W (fun k hk=>by rcases hk with hk | hk;(have:=HX0.out k hk;omega);omega) (by rw [hxq];exact ind_part (ind_more HR0.out.1 hbW) hxv) (ind_more HR0.out.2 hbW) (by rw [hxq];exact HSM.out.part (by simp [List.getD,hxv])) (by rw [hxq];exact HOB.out.part (by simp [List.getD,hxv])) HML.out (HR2.out W hbW) (by omega) (by omega) (fun z hz=>HSS.out z (by simp [hz]))
          rw [HCV.out] at this
          exact this.mono (fun e w' h=>h.cel):Calls Tryd.prog 28 #[x.c.val,.slice ad2 m (cap - 1),(⟨zk,zb,zneg,zma,zmn,zmc,ze,zs,zka,zkn,zkc,zva,zvn,zvc⟩:Cel).val] W fun e w'=>∃ (cx:Cel) (bb:Bool),e=.returned (.tuple #[cx.val,.bool bb])∧((∃ y,PutQ x l v y∧cx=y.c∧bb=true∧Ind (fun k=>X k∨(w.heap.size≤k∧k<W.heap.size)) w' (fun W=>Rep W y))∨(getM x l=none∧bb=false))∧Below W.heap.size W w'))
        have HBW:=Lib.hid hbw
        have hltx:=hbx.lt
        clear hx hq hqv hxq hbx hbw
        obtain ⟨xc,hxc⟩:∃ c,x.c=c:=⟨_,rfl⟩
        have HXC:=Lib.hid hxc
        rw [hxc] at KP HXB
        clear hxc
        go_upto_region 6 with fail
        go_cut [9] from 13 to 69 (fun p W=>Cut6 X x l v bx w p W∧Below Wb.heap.size Wb W)
        case first =>
          rename_i J K hJ hK
          have HJ:=Lib.hid hJ
          refine rc_first J hK ?_
          clear hJ hK
          refine rl_start (S:=fun L W=>Below Wb.heap.size Wb W∧(L.getD 8 false=false→BoxT W bx xc)) (by kernel_rfl) (⟨below_drew HB3.out,fun _=>HXB.out⟩) (fun hC hS=>?_)
          have hB:=hS
          refine rl_loadM 0 _ 28 (.tmp 8) bx 0 xc.cells _ (some 29) rfl (by kernel_rfl) (by kernel_rfl) (by kernel_rfl) (by kernel_rfl) (fun _ _ _ h=>h) (fun L W=>si1 0 8 rfl _) (by kernel_rfl) rfl (by kernel_rfl) Tryd.underlying28 rfl (by kernel_rfl) (fun L W hC h1 hS=>box_range (hS.2 (cl_no hC 0 8 _ rfl (by kernel_rfl) h1))) hC hS (fun hC hS=>?_)
          refine rl_loadM 3 _ 28 (.tmp 5) (b+1) 0 (⟨zk,zb,zneg,zma,zmn,zmc,ze,zs,zka,zkn,zkc,zva,zvn,zvc⟩:Cel).cells _ (some 32) rfl (by kernel_rfl) (by kernel_rfl) (by kernel_rfl) (by kernel_rfl) (fun _ _ _ h=>h) (fun L W=>si1 3 8 rfl _) (by kernel_rfl) rfl (by kernel_rfl) Tryd.underlying28 rfl (by kernel_rfl) (fun L W hC h1 hS=>box_range (HBX.out W hS.1).2.1) hC hS (fun hC hS=>?_)
          refine rl_pure 1 _ (.slice (some ⟨bk,o,none⟩) (m+1) cap) (some 30) rfl (by kernel_rfl) (by kernel_rfl) (by kernel_rfl) (by kernel_rfl) (fun _ _ _ h=>h) (fun L W=>si1 1 8 rfl _) (by kernel_rfl) (fun w=>by kernel_rfl) hC hS (fun hC hS=>?_)
          refine rl_pure 2 _ (.slice ad2 m (cap - 1)) (some 31) rfl (by kernel_rfl) (by kernel_rfl) (by kernel_rfl) (by kernel_rfl) (fun _ _ _ h=>h) (fun L W=>si1 2 8 rfl _) (by kernel_rfl) (fun w=>by rw [← HA2.out];exact rd_slice w _ _ _ _ _ _ (some ⟨bk,o,none⟩) (m+1) cap 1 rfl (by kernel_rfl) (by kernel_rfl) Tryd.underlying22 (by kernel_rfl) (by omega) hcap) hC hS (fun hC hS=>?_)
          refine rl_all [4] (by kernel_rfl) (by simp) hC (rl_one _ ?_)
          have hBw:=HB0.out.trans (hB.1.mono HB0.out.size)
          have hs4:=hBw.size
          have hbx4:=hB.2 rfl
          have hlt4:=hbx4.lt
          refine rc_call 4 _ 28 _ _ _ _ #[xc.val,.slice ad2 m (cap - 1),(⟨zk,zb,zneg,zma,zmn,zmc,ze,zs,zka,zkn,zkc,zva,zvn,zvc⟩:Cel).val] (some 33) rfl (by kernel_rfl) (by kernel_rfl) rfl (by kernel_rfl) Tryd.func28 (by kernel_rfl) (by kernel_rfl) (by kernel_rfl) (KP.out _ hBw) ?_
          rintro r' W5 ⟨cy,bb,rfl,hcs,hq5⟩
          have hbox:=hbx4.on (hq5.block _ hlt4)
          have hB5:=hB.1.trans (hq5.mono hB.1.size)
          have hs5:=hq5.size
          refine ⟨_,rfl,?_⟩
          refine rl_and ⟨hB5,fun _=>hbox⟩ (fun hS hC=>?_)
          refine rl_pure 5 _ (.tuple #[cy.val,.bool bb]) (some 28) rfl (by kernel_rfl) (by kernel_rfl) (by kernel_rfl) (by kernel_rfl) (fun _ _ _ h=>h) (fun L W=>si1 5 8 rfl _) (by kernel_rfl) (fun w=>by kernel_rfl) hC hS (fun hC hS=>?_)
          refine rl_pure 6 _ (cy.val) (some 34) rfl (by kernel_rfl) (by kernel_rfl) (by kernel_rfl) (by kernel_rfl) (fun _ _ _ h=>h) (fun L W=>si1 6 8 rfl _) (by kernel_rfl) (fun w=>by kernel_rfl) hC hS (fun hC hS=>?_)
          refine rl_pure 7 _ (.bool bb) (some 35) rfl (by kernel_rfl) (by kernel_rfl) (by kernel_rfl) (by kernel_rfl) (fun _ _ _ h=>h) (fun L W=>si1 7 8 rfl _) (by kernel_rfl) (fun w=>by kernel_rfl) hC hS (fun hC hS=>?_)
          refine rl_all [8] (by kernel_rfl) (by simp) hC (rl_one _ ?_)
          refine rl_storeT 8 _ 28 (.tmp 8) (.tmp 34) bx cy xc (TypeDesc.struct #[]) rfl (by kernel_rfl) (by kernel_rfl) rfl (by kernel_rfl) (by kernel_rfl) (by kernel_rfl) hbox ?_
          have hbx2:=put0_box hbox (c:=cy)
          have hbut:=put0_but W5 bx cy
          have hB9:=hB5.trans (hbut.below hbs hB5.size)
          have hs9:(put0 W5 bx cy).heap.size=W5.heap.size:=by simp [put0,World.setCell]
          refine rl_and ⟨hB9,fun h=>Bool.noConfusion (show true=false from h)⟩ (fun hS hC=>?_)
          refine rl_pure 9 _ (.bool bb) (some 9) rfl (by kernel_rfl) (by kernel_rfl) (by kernel_rfl) (by kernel_rfl) (fun _ _ _ h=>h) (fun L W=>si1 9 8 rfl _) (by kernel_rfl) (fun w=>by kernel_rfl) hC hS (fun hC hS=>?_)
          refine rl_done (by kernel_rfl) ?_ _
          refine HJ.out _ _ ?_
          clear HJ
          simp only [Act.put,List.setIfInBounds_toArray,List.set_cons_zero,List.set_cons_succ]
          (repeat apply Exists.intro)
          refine ⟨⟨⟨cy,bb,_,rfl,hbx2,?_,hs4,by rw [hs9];exact hs5,hlt4⟩,hB9⟩,rfl⟩
          rcases hcs with ⟨y,h1,h2,h3,h4⟩ | h1
          · exact .inl ⟨y,h1,h2,h3,h4.to (Nat.le_of_eq hs9.symm) (fun k hk hx=>hbut.block k hk (fun e=>hx (.inr ⟨by subst e;have:=HB0.out.size;omega,by subst e;exact hlt4⟩))) (fun k hk h=>h) (fun _ h=>h)⟩
          · exact .inr h1
        case rest =>
          obtain ⟨⟨cy,bb,m4,rfl,hbxy,hcy,hm4,hm5,hbm⟩,hB6⟩:=hcut
          have HXY:=Lib.hid hbxy
          have HB6:=Lib.hid hB6
          have HBW6:=Lib.hid (HB0.out.trans (hB6.mono HB0.out.size))
          clear hB6 hbxy
          rcases hcy with ⟨y,hy,rfl,rfl,hyi⟩ | ⟨hy,rfl⟩
          case inr =>
            have hx3:=(HBX.out wc HB6.out).2.2
            have hb5:=HBW6.out
            have HE:=Lib.hid (show RPutP X t (s::l) v w (.returned (.tuple #[zeroV,.bool false])) (put0 wc (b+1+1) (leafC 0 false ⟨#[]⟩)) from ⟨.inl ⟨by rw [getM,HST.out];exact hy,rfl⟩,hb5.trans ((put0_but _ _ _).below (by have:=HBB.out;omega) hb5.size)⟩)
            obtain ⟨⟨g0,g1,g2,g3,g4,g5,g6,g7⟩,f0,f1,f2,f3,f4,f5,f6,f7⟩:=hx3.var
            have hbz:=(put0_box hx3 (c:=leafC 0 false ⟨#[]⟩)).cells
            unfold put0 leafC at hbz HE
            unfold zeroV at HE
            simp only [leafC] at hbz HE g0 g1 g2 g3 g4 g5 g6 g7
            obtain ⟨d0,d1,d2,d3,d4,d5,d6,d7⟩:=hbz
            clear hx3 hb5 hy hbs
            go_wp2_with fail
            exact bodyPost_ret (v:=.tuple #[.agg #[.int .i64 0,.bool false,.bool false,.slice none 0 0,.int .i64 0,.string ⟨#[]⟩,.slice none 0 0,.slice none 0 0],.bool false]) (by simp [results,Tryd.results28,go_sem,d0,d1,d2,d3,d4,d5,d6,d7]) rfl HE.out
          case inl =>
            have HY:=Lib.hid hy
            have HYI:=Lib.hid hyi
            have hm8:=HBW6.out.size
            have HTI:=Lib.hid (fun W (h:Below w.heap.size w W)=>(ind_more HR0.out.1 (m:=m4) h:Ind (fun k=>X k∨(w.heap.size≤k∧k<m4)) W (fun W=>Rep W t)))
            obtain ⟨yc,hyc⟩:∃ c,y.c=c:=⟨_,rfl⟩
            have HYC:=Lib.hid hyc
            rw [hyc] at HXY
            clear hy hyi hyc
            obtain ⟨c0,c1,c2,c3,c4,c5,c6,c7⟩:=(HBX.out wc HB6.out).1.cells
            simp only at c0
            clear c1 c2 c3 c4 c5 c6 c7
            by_cases h7:tk=7
            · subst h7
              obtain ⟨ho,hbl⟩:=HOB.out t t.sub_refl (by rw [HCT.out])
              have hsp:=place_spl (by rw [HCT.out]) ho HQ.out
              have KSET:=Lib.hid (fun W (h:Below wc.heap.size wc W)=>(by
                have hbW:=HBW6.out.trans (h.mono HBW6.out.size)
                have hsz:=h.size
                have:=refSet_any t y s q (q+1) (fun k=>X k∨(w.heap.size≤k∧k<m4)) W (fun k hk=>by rcases hk with hk | hk;(have:=HX0.out k hk;omega);omega) (HTI.out W hbW) (HYI.out.below h) ho hsp.1 (by have:=HSS.out s (by simp);unfold maxLen;omega)
                rw [HCT.out,HYC.out] at this
                exact this:Calls Tryd.prog 57 #[(⟨7,tb,tneg,tma,tmn,tmc,te,ts,tka,tkn,tkc,tva,tvn,tvc⟩:Cel).val,.string s,yc.val] W (SetPost t y s q (q+1) (fun k=>X k∨(w.heap.size≤k∧k<m4)) W)))
              have HSB:=Lib.hid (fun (u:MT) (ka va:Option Addr) (kc vc:Nat) (hc:u.c=objC7 ka u.k.length kc va u.k.length vc) (hm:u.m=[]) (hk:u.k=put1 t.k q (q+1) s) (hv:u.v=put1 t.v q (q+1) y)=>(show u.bare=(setV t y q 0).bare from set_bare (by rw [HCT.out]) hbl ho hsp.1 hsp.2 hc hm hk hv))
              clear ho hbl hsp
              go_upto_region 10 with fail
              go_cut [7] from 13 to 69 (fun p W=>p=.bool true∧∃ u:MT,PutQ t (s::l) v u∧BoxT W (b+1+1) u.c∧Ind X W (fun W=>Rep W u)∧Below w.heap.size w W)
              case first =>
                rename_i J K hJ hK
                have HJ:=Lib.hid hJ
                refine rc_first J hK ?_
                clear hJ hK
                refine rl_start (S:=fun L W=>Below w.heap.size w W∧(L.getD 6 false=false→Below wc.heap.size wc W)) (by kernel_rfl) (⟨below_drew HBW6.out,fun _=>below_drew (Below.refl _ _)⟩) (fun hC hS=>?_)
                have hB:=hS
                refine rl_loadM 0 _ 28 (.tmp 3) b 0 (⟨7,tb,tneg,tma,tmn,tmc,te,ts,tka,tkn,tkc,tva,tvn,tvc⟩:Cel).cells _ (some 42) rfl (by kernel_rfl) (by kernel_rfl) (by kernel_rfl) (by kernel_rfl) (fun _ _ _ h=>h) (fun L W=>si1 0 6 rfl _) (by kernel_rfl) rfl (by kernel_rfl) Tryd.underlying28 rfl (by kernel_rfl) (fun L W hC h1 hS=>box_range (HBX.out W (HB6.out.trans ((hS.2 (cl_no hC 0 6 _ rfl (by kernel_rfl) h1)).mono HB6.out.size))).1) hC hS (fun hC hS=>?_)
                refine rl_loadM 4 _ 28 (.tmp 8) bx 0 yc.cells _ (some 46) rfl (by kernel_rfl) (by kernel_rfl) (by kernel_rfl) (by kernel_rfl) (fun _ _ _ h=>h) (fun L W=>si1 4 6 rfl _) (by kernel_rfl) rfl (by kernel_rfl) Tryd.underlying28 rfl (by kernel_rfl) (fun L W hC h1 hS=>box_range (HXY.out.on ((hS.2 (cl_no hC 4 6 _ rfl (by kernel_rfl) h1)).block _ HXY.out.lt))) hC hS (fun hC hS=>?_)
                refine rl_pure 1 _ (.slice (some ⟨bk,o,none⟩) (m+1) cap) (some 43) rfl (by kernel_rfl) (by kernel_rfl) (by kernel_rfl) (by kernel_rfl) (fun _ _ _ h=>h) (fun L W=>si1 1 6 rfl _) (by kernel_rfl) (fun w=>by kernel_rfl) hC hS (fun hC hS=>?_)
                refine rl_pure 2 _ (.pointer (some ⟨bk,o+0,none⟩)) (some 44) rfl (by kernel_rfl) (by kernel_rfl) (by kernel_rfl) (by kernel_rfl) (fun _ _ _ h=>h) (fun L W=>si1 2 6 rfl _) (by kernel_rfl) (fun w=>rl_idx w _ _ _ _ _ 9 bk o (m+1) cap 0 0 1 rfl (by kernel_rfl) (by kernel_rfl) Tryd.underlying22 (by kernel_rfl) (by omega) rfl) hC hS (fun hC hS=>?_)
                refine rl_load1 3 _ 9 (.tmp 44) ⟨bk,o+0,none⟩ (.string s) _ (some 45) rfl (by kernel_rfl) (by kernel_rfl) (by kernel_rfl) (by kernel_rfl) (fun _ _ _ h=>h) (fun L W=>si1 3 6 rfl _) (by kernel_rfl) rfl (by kernel_rfl) Tryd.underlying9 rfl (fun L W hC h1 hS=>HCS.out W hS.1) hC hS (fun hC hS=>?_)
                refine rl_all [5] (by kernel_rfl) (by simp) hC (rl_one _ ?_)
                have hBw:=hB.1
                have hBc:=hB.2 rfl
                refine rc_call 5 _ 57 _ _ _ _ #[(⟨7,tb,tneg,tma,tmn,tmc,te,ts,tka,tkn,tkc,tva,tvn,tvc⟩:Cel).val,.string s,yc.val] (some 47) rfl (by kernel_rfl) (by kernel_rfl) rfl (by kernel_rfl) Tryd.func57 (by kernel_rfl) (by kernel_rfl) (by kernel_rfl) (KSET.out _ hBc) ?_
                rintro r' W5 ⟨u,rfl,⟨ka,kc,va,vc,hc⟩,hm,hk,hv,hui,hq5⟩
                have hBc5:=hBc.trans (hq5.mono hBc.size)
                have hBw5:=HBW6.out.trans (hBc5.mono HBW6.out.size)
                have hbox:=(HBX.out W5 (HB6.out.trans (hBc5.mono HB6.out.size))).2.2
                refine ⟨_,rfl,?_⟩
                refine rl_and ⟨hBw5,fun _=>hBc5⟩ (fun hS hC=>?_)
                refine rl_all [6] (by kernel_rfl) (by simp) hC (rl_one _ ?_)
                refine rl_storeT 6 _ 28 (.tmp 6) (.tmp 47) (b+1+1) u.c (leafC 0 false ⟨#[]⟩) (TypeDesc.struct #[]) rfl (by kernel_rfl) (by kernel_rfl) rfl (by kernel_rfl) (by kernel_rfl) (by kernel_rfl) hbox ?_
                have hbx2:=put0_box hbox (c:=u.c)
                have hbut:=put0_but W5 (b+1+1) u.c
                have hB9:=hBw5.trans (hbut.below (by have:=HBB.out;omega) hBw5.size)
                have hs9:(put0 W5 (b+1+1) u.c).heap.size=W5.heap.size:=by simp [put0,World.setCell]
                refine rl_and ⟨hB9,fun h=>Bool.noConfusion (show true=false from h)⟩ (fun hS hC=>?_)
                refine rl_pure 7 _ (.bool true) (some 7) rfl (by kernel_rfl) (by kernel_rfl) (by kernel_rfl) (by kernel_rfl) (fun _ _ _ h=>h) (fun L W=>si1 7 6 rfl _) (by kernel_rfl) (fun w=>by kernel_rfl) hC hS (fun hC hS=>?_)
                refine rl_done (by kernel_rfl) ?_ _
                refine HJ.out _ _ ?_
                clear HJ
                simp only [Act.put,List.setIfInBounds_toArray,List.set_cons_zero,List.set_cons_succ]
                (repeat apply Exists.intro)
                refine ⟨⟨rfl,u,⟨q,y,HQ.out,by rw [← HXQ.out];exact HY.out,HSB.out u ka va kc vc hc hm hk hv⟩,hbx2,?_,hB9⟩,rfl⟩
                exact hui.to (Nat.le_of_eq hs9.symm) (fun k hk hx=>hbut.block k hk (fun e=>hx (.inr ⟨by subst e;have:=HBB.out;omega,by subst e;omega⟩))) (fun k hk h=>.inl h) (fun _ h=>h)
              case rest =>
                obtain ⟨rfl,u,hu,hbz,hui,hB⟩:=hcut
                have HE:=Lib.hid (show RPutP X t (s::l) v w (.returned (.tuple #[u.c.val,.bool true])) wc from ⟨.inr ⟨u,hu,rfl,hui⟩,hB⟩)
                obtain ⟨d0,d1,d2,d3,d4,d5,d6,d7⟩:=hbz.cells
                clear hu hui hB hbz
                generalize u.c=uc at *
                obtain ⟨uk,ub,uneg,uma,umn,umc,ue,us,uka,ukn,ukc,uva,uvn,uvc⟩:=uc
                unfold Cel.val at HE
                simp only at HE d0 d1 d2 d3 d4 d5 d6 d7
                go_wp2_with fail
                exact bodyPost_ret (v:=.tuple #[.agg #[.int .i64 uk,.bool ub,.bool uneg,.slice uma umn umc,.int .i64 ue,.string us,.slice uka ukn ukc,.slice uva uvn uvc],.bool true]) (by simp [results,Tryd.results28,go_sem,d0,d1,d2,d3,d4,d5,d6,d7]) rfl HE.out
            · have h7b:(tk == 7)=false:=by rw [beq_eq_false_iff_ne];exact h7
              obtain ⟨h6,q2,hi,hq2,_⟩:=step_kind HST.out (by rw [HCT.out];exact h7)
              obtain rfl:q2=q:=by rw [HQ.out] at hq2;exact (Option.some.inj hq2).symm
              rw [HCT.out] at hi
              simp only at hi
              have hqz:=idxL_lt hi
              have hql:q2<tvn:=by omega
              have KIX:=Lib.hid (fun W=>(refIndexA_any s ((tvn:Int) - 1) W (by omega)).mono (fun e w' (h:RIdx s.data.toList ((tvn:Int) - 1) W e w')=>(by obtain ⟨rfl,rfl⟩:=h;rw [hi];exact ⟨rfl,Below.refl _ _⟩:e=.returned (.tuple #[.int .i64 (q2:Int),.bool true])∧Below W.heap.size W w')))
              have HRV0:=Lib.hid (fun W (h:Below w.heap.size w W)=>((by
                have:=(HR0.out.1.below h).here.own.vr
                rw [HCT.out] at this;exact this):RdV W tva (flat (t.v.map MT.c))))
              obtain ⟨va0,rfl⟩:∃ a,tva=some a:=by
                obtain ⟨b1,o1,e1,_⟩:=HRV0.out w (Below.refl _ _) 0 (by rw [flat_len,List.length_map];have:=HVN.out;omega)
                exact ⟨_,e1⟩
              clear h7 h6 hq2 hi hqz
              go_upto_region 11 with fail
              clear c0
              go_cut [10,11] from 13 to 69 (fun p p2 W=>p=.int .i64 (q2:Int)∧Below wc.heap.size wc W)
              case first =>
                rename_i J K hJ hK
                have HJ:=Lib.hid hJ
                refine rc_first J hK ?_
                clear hJ hK
                refine rl_start (S:=fun _ W=>Below wc.heap.size wc W) (by kernel_rfl) (below_drew (Below.refl _ _)) (fun hC hS=>?_)
                have hB:=hS
                refine rl_pure 0 _ (.slice (some ⟨bk,o,none⟩) (m+1) cap) (some 49) rfl (by kernel_rfl) (by kernel_rfl) (by kernel_rfl) (by kernel_rfl) (fun _ _ _ h=>h) (fun _ _=>Iff.rfl) (by kernel_rfl) (fun w=>by kernel_rfl) hC hS (fun hC hS=>?_)
                refine rl_pure 1 _ (.pointer (some ⟨bk,o+0,none⟩)) (some 50) rfl (by kernel_rfl) (by kernel_rfl) (by kernel_rfl) (by kernel_rfl) (fun _ _ _ h=>h) (fun _ _=>Iff.rfl) (by kernel_rfl) (fun w=>rl_idx w _ _ _ _ _ 9 bk o (m+1) cap 0 0 1 rfl (by kernel_rfl) (by kernel_rfl) Tryd.underlying22 (by kernel_rfl) (by omega) rfl) hC hS (fun hC hS=>?_)
                refine rl_load1 2 _ 9 (.tmp 50) ⟨bk,o+0,none⟩ (.string s) _ (some 51) rfl (by kernel_rfl) (by kernel_rfl) (by kernel_rfl) (by kernel_rfl) (fun _ _ _ h=>h) (fun _ _=>Iff.rfl) (by kernel_rfl) rfl (by kernel_rfl) Tryd.underlying9 rfl (fun L W hC h1 hS=>HCS.out W (HBW6.out.trans (hS.mono HBW6.out.size))) hC hS (fun hC hS=>?_)
                refine rl_pure 3 _ (.pointer (some ⟨b,7,none⟩)) (some 52) rfl (by kernel_rfl) (by kernel_rfl) (by kernel_rfl) (by kernel_rfl) (fun _ _ _ h=>h) (fun _ _=>Iff.rfl) (by kernel_rfl) (fun w=>by kernel_rfl) hC hS (fun hC hS=>?_)
                refine rl_load1 4 _ 26 (.tmp 52) ⟨b,7,none⟩ (.slice (some va0) tvn tvc) _ (some 53) rfl (by kernel_rfl) (by kernel_rfl) (by kernel_rfl) (by kernel_rfl) (fun _ _ _ h=>h) (fun _ _=>Iff.rfl) (by kernel_rfl) rfl (by kernel_rfl) Tryd.underlying26 rfl (fun L W hC h1 hS=>(HBX.out W (HB6.out.trans (hS.mono HB6.out.size))).1.cells.2.2.2.2.2.2.2) hC hS (fun hC hS=>?_)
                refine rl_pure 5 _ (.int .i64 (tvn:Int)) (some 54) rfl (by kernel_rfl) (by kernel_rfl) (by kernel_rfl) (by kernel_rfl) (fun _ _ _ h=>h) (fun _ _=>Iff.rfl) (by kernel_rfl) (fun w=>by kernel_rfl) hC hS (fun hC hS=>?_)
                refine rl_pure 6 _ (.int .i64 ((tvn:Int) - 1)) (some 55) rfl (by kernel_rfl) (by kernel_rfl) (by kernel_rfl) (by kernel_rfl) (fun _ _ _ h=>h) (fun _ _=>Iff.rfl) (by kernel_rfl) (fun w=>rd_sub w _ _ _ _ _ _ (tvn:Int) 1 _ rfl (by kernel_rfl) (by kernel_rfl) rfl (by omega) (by omega)) hC hS (fun hC hS=>?_)
                refine rl_all [7] (by kernel_rfl) (by simp) hC (rl_one _ ?_)
                refine rc_call 7 _ 16 _ _ _ _ #[.string s,.int .i64 ((tvn:Int) - 1)] (some 56) rfl (by kernel_rfl) (by kernel_rfl) rfl (by kernel_rfl) Tryd.func16 (by kernel_rfl) (by kernel_rfl) (by kernel_rfl) (KIX.out _) ?_
                rintro r' W5 ⟨rfl,hq5⟩
                replace hB:=hB.trans (hq5.mono hB.size)
                refine ⟨_,rfl,?_⟩
                refine rl_and hB (fun hS hC=>?_)
                refine rl_pure 8 _ (.tuple #[.int .i64 (q2:Int),.bool true]) (some 48) rfl (by kernel_rfl) (by kernel_rfl) (by kernel_rfl) (by kernel_rfl) (fun _ _ _ h=>h) (fun _ _=>Iff.rfl) (by kernel_rfl) (fun w=>by kernel_rfl) hC hS (fun hC hS=>?_)
                refine rl_pure 9 _ (.int .i64 (q2:Int)) (some 57) rfl (by kernel_rfl) (by kernel_rfl) (by kernel_rfl) (by kernel_rfl) (fun _ _ _ h=>h) (fun _ _=>Iff.rfl) (by kernel_rfl) (fun w=>by kernel_rfl) hC hS (fun hC hS=>?_)
                refine rl_pure 10 _ (.bool true) (some 58) rfl (by kernel_rfl) (by kernel_rfl) (by kernel_rfl) (by kernel_rfl) (fun _ _ _ h=>h) (fun _ _=>Iff.rfl) (by kernel_rfl) (fun w=>by kernel_rfl) hC hS (fun hC hS=>?_)
                refine rl_pure 11 _ (.int .i64 (q2:Int)) (some 10) rfl (by kernel_rfl) (by kernel_rfl) (by kernel_rfl) (by kernel_rfl) (fun _ _ _ h=>h) (fun _ _=>Iff.rfl) (by kernel_rfl) (fun w=>by kernel_rfl) hC hS (fun hC hS=>?_)
                refine rl_pure 12 _ (.bool true) (some 11) rfl (by kernel_rfl) (by kernel_rfl) (by kernel_rfl) (by kernel_rfl) (fun _ _ _ h=>h) (fun _ _=>Iff.rfl) (by kernel_rfl) (fun w=>by kernel_rfl) hC hS (fun hC hS=>?_)
                refine rl_done (by kernel_rfl) ?_ _
                refine HJ.out _ _ ?_
                clear HJ
                simp only [Act.put,List.setIfInBounds_toArray,List.set_cons_zero,List.set_cons_succ]
                (repeat apply Exists.intro)
                exact ⟨⟨rfl,hB⟩,rfl⟩
              case rest =>
                obtain ⟨rfl,hb11⟩:=hcut
                have hB6:=HB6.out.trans (hb11.mono HB6.out.size)
                have HBW:=Lib.hid (HBW6.out.trans (hb11.mono HBW6.out.size))
                have hbxs:=(HBX.out wc hB6)
                have hxy:=HXY.out.on (hb11.block _ HXY.out.lt)
                have HYJ:=Lib.hid (HYI.out.below hb11)
                have hm6:=hb11.size
                obtain ⟨W4,hW4⟩:∃ x,wc.alloc (.cells #[.int .i64 tk,.bool tb,.bool tneg,.slice tma tmn tmc,.int .i64 te,.string ts,.slice tka tkn tkc,.slice (some va0) tvn tvc] 28)=x:=⟨_,rfl⟩
                have hb4:Below wc.heap.size wc W4:=by rw [← hW4];exact (Below.refl _ _).alloc (Nat.le_refl _) _
                have hs4:W4.heap.size=wc.heap.size+1:=by rw [← hW4];simp
                have HXU:=Lib.hid (show BoxT W4 wc.heap.size ⟨tk,tb,tneg,tma,tmn,tmc,te,ts,tka,tkn,tkc,some va0,tvn,tvc⟩ by rw [← hW4];exact heap_alloc_new wc _)
                obtain ⟨c0,c1,c2,c3,c4,c5,c6,c7⟩:=hbxs.1.cells
                simp only at c0 c1 c2 c3 c4 c5 c6 c7
                have HW4:=Lib.hid hW4
                have HB4:=Lib.hid hb4
                have HX4:=Lib.hid (fun W (h:Below W4.heap.size W4 W)=>(⟨(HBX.out W (hB6.trans ((hb4.trans (h.mono (by omega))).mono hB6.size))),hxy.on ((hb4.trans (h.mono (by omega))).block _ hxy.lt),HXU.out.on (h.block _ HXU.out.lt)⟩:(BoxT W b ⟨tk,tb,tneg,tma,tmn,tmc,te,ts,tka,tkn,tkc,some va0,tvn,tvc⟩∧_∧BoxT W (b+1+1) (leafC 0 false ⟨#[]⟩))∧BoxT W bx yc∧BoxT W wc.heap.size ⟨tk,tb,tneg,tma,tmn,tmc,te,ts,tka,tkn,tkc,some va0,tvn,tvc⟩))
                clear hb11 hbxs hW4 hb4
                have hbc:b+1+1<wc.heap.size:=(HBX.out wc hB6).2.2.lt
                have hxc:bx<wc.heap.size:=hxy.lt
                clear hB6 hxy
                go_upto_region 13 with fail
                rw [HW4.out]
                clear c0 c1 c2 c3 c4 c5 c6 c7 HW4
                have c7:=(HX4.out W4 (Below.refl _ _)).1.1.cells.2.2.2.2.2.2.2
                simp only at c7
                have HRV:=Lib.hid (HRV0.out W4 (HBW.out.trans (HB4.out.mono HBW.out.size)))
                have HLEN:=Lib.hid (show (flat (t.v.map MT.c)).length=tvn*8 by rw [flat_len,List.length_map,HVN.out])
                go_upto_region 14 with (at_builtin;refine wpl_appV Tryd.underlying26 info_tree rfl (by decide) (by decide) _ rfl _ _ rfl W4.heap.size (.slice none 0 0) 0 [] rfl ⟨by simp,.inl ⟨rfl,rfl⟩⟩ (some va0) tvn tvc (flat (t.v.map MT.c)) rfl HLEN.out HRV.out (flat_oneC _) (fun h=>by cases h) (by omega) (Nat.le_refl _) ?_;intro v5 w5 ho5 hg5;rw [Nat.zero_add,List.nil_append] at ho5;obtain ⟨g,cap5,r5,rfl,hgc,hgm,hgb,hgk⟩:=own_pad ho5 (by omega);have hb5:Below W4.heap.size W4 w5:=(Below.refl _ _).grown hg5 (Nat.le_refl _) (fun k h=>by cases h);have z7:=(HX4.out w5 hb5).2.2.cells.2.2.2.2.2.2.2;have f7:=(HX4.out w5 hb5).2.2.free 7;simp only at z7;clear ho5 hg5)
                have hbu:But wc.heap.size w5 (w5.setCell ⟨wc.heap.size,7,none⟩ (.slice (some ⟨g,0,none⟩) tvn cap5)):=(But.refl _ _).setCell _ _
                have hx4:=HX4.out w5 hb5
                have HXU6:=Lib.hid (box_set7 hx4.2.2 (some ⟨g,0,none⟩) tvn cap5)
                have HXY6:=Lib.hid (hx4.2.1.on (hbu.block _ hx4.2.1.lt (by omega)))
                have HXR6:=Lib.hid (hx4.1.2.2.on (hbu.block _ hx4.1.2.2.lt (by omega)))
                have HG6:=Lib.hid (hbu.blk hgk (by omega))
                have HB6':=Lib.hid ((HB4.out.trans (hb5.mono (by omega))).trans (hbu.below (Nat.le_refl _) (by have:=hb5.size;omega)))
                obtain ⟨W6,hW6⟩:∃ x,w5.setCell ⟨wc.heap.size,7,none⟩ (.slice (some ⟨g,0,none⟩) tvn cap5)=x:=⟨_,rfl⟩
                rw [hW6] at HXU6 HXY6 HXR6 HG6 HB6' ⊢
                have hgu:wc.heap.size<g:=by omega
                clear hx4 hbu hb5 z7 f7 hgk c7 hW6
                have hql2:q2<(t.v.map MT.c).length:=by rw [List.length_map,HVN.out];exact hql
                obtain ⟨⟨p0,o0⟩,⟨p1,o1⟩,⟨p2,o2⟩,⟨p3,o3⟩,⟨p4,o4⟩,⟨p5,o5⟩,⟨p6,o6⟩,⟨p7,o7⟩⟩:=pad_olds HG6.out hql2
                have y0:=HG6.out.free (q2*8)
                have y1:=HG6.out.free (q2*8+1)
                have y2:=HG6.out.free (q2*8+2)
                have y3:=HG6.out.free (q2*8+3)
                have y4:=HG6.out.free (q2*8+4)
                have y5:=HG6.out.free (q2*8+5)
                have y6:=HG6.out.free (q2*8+6)
                have y7:=HG6.out.free (q2*8+7)
                have hszT:(Tryd.prog.info? 28).map (·.size)=some 8:=by kernel_rfl
                have hqz1:(q2:Int)<(tvn:Int):=by omega
                have hqz0:(0:Int)≤(q2:Int):=by omega
                have u7:=HXU6.out.cells.2.2.2.2.2.2.2
                obtain ⟨e0,e1,e2,e3,e4,e5,e6,e7⟩:=HXY6.out.cells
                have HYC2:=Lib.hid HYC.out
                have hp8:=put8_but W6 g (q2*8) yc
                have HG7:=Lib.hid (put8_pad HG6.out q2 hql2 yc)
                have HXU7:=Lib.hid (HXU6.out.on (hp8.block _ HXU6.out.lt (by omega)))
                have HXR7:=Lib.hid (HXR6.out.on (hp8.block _ HXR6.out.lt (by omega)))
                have HB7:=Lib.hid (HB6'.out.trans (hp8.below (by omega) HB6'.out.size))
                obtain ⟨W7,hW7⟩:∃ x,put8 W6 g (q2*8) yc=x:=⟨_,rfl⟩
                rw [hW7] at HG7 HXU7 HXR7 HB7
                have HE0:=Lib.hid (show RPutP X t (s::l) v w (.returned (.tuple #[(⟨tk,tb,tneg,tma,tmn,tmc,te,ts,tka,tkn,tkc,some ⟨g,0,none⟩,tvn,cap5⟩:Cel).val,.bool true])) (put0 W7 (b+1+1) ⟨tk,tb,tneg,tma,tmn,tmc,te,ts,tka,tkn,tkc,some ⟨g,0,none⟩,tvn,cap5⟩) from by
                  have hp9:=put0_but W7 (b+1+1) ⟨tk,tb,tneg,tma,tmn,tmc,te,ts,tka,tkn,tkc,some ⟨g,0,none⟩,tvn,cap5⟩
                  have hbw7:=HBW.out.trans (HB7.out.mono HBW.out.size)
                  have hB9:=hbw7.trans (hp9.below (by have:=HBB.out;omega) hbw7.size)
                  have hs9:(put0 W7 (b+1+1) ⟨tk,tb,tneg,tma,tmn,tmc,te,ts,tka,tkn,tkc,some ⟨g,0,none⟩,tvn,cap5⟩).heap.size=W7.heap.size:=by simp [put0,World.setCell]
                  have hs7:=HB7.out.size
                  have hg9:=hp9.blk HG7.out (by omega)
                  refine ⟨.inr ⟨setA t y q2 g cap5,⟨q2,y,HQ.out,by rw [← HXQ.out];exact HY.out,setA_bare _ _ _ _ _⟩,by unfold setA;rw [HCT.out];rfl,?_⟩,hB9⟩
                  have hrt:Ind X _ (fun W=>Rep W t):=HR0.out.1.below hB9
                  have hry:Ind X (put0 W7 (b+1+1) ⟨tk,tb,tneg,tma,tmn,tmc,te,ts,tka,tkn,tkc,some ⟨g,0,none⟩,tvn,cap5⟩) (fun W=>Rep W y):=HYJ.out.to (by rw [hs9];exact hs7) (fun k hk hx=>(hp9.block k (by omega) (fun e=>hx (.inr ⟨by subst e;have:=HBB.out;omega,by subst e;omega⟩))).trans (HB7.out.block k hk)) (fun k hk h=>.inl h) (fun _ h=>h)
                  intro W a1 a2
                  refine setA_rep (hrt W a1 a2) (hry W a1 a2) (by rw [HCT.out];exact hgc) ?_
                  rw [set_map,HYC.out]
                  exact ind_rdv (X:=X) (pad_rd hg9) (fun a e hx=>by cases e;have h1:g<w.heap.size:=HX0.out _ hx;have:=HBW.out.size;omega) W a1 a2)
                obtain ⟨yk,yb,yneg,yma,ymn,ymc,ye,ys,yka,ykn,ykc,yva,yvn,yvc⟩:=yc
                unfold put8 at hW7
                simp only at hW7 u7 e0 e1 e2 e3 e4 e5 e6 e7
                have HW7:=Lib.hid hW7
                clear hW7 hp8
                go_upto_region 15 with fail
                rw [HW7.out]
                clear HW7 o0 o1 o2 o3 o4 o5 o6 o7 y0 y1 y2 y3 y4 y5 y6 y7 e0 e1 e2 e3 e4 e5 e6 e7 u7
                obtain ⟨c0,c1,c2,c3,c4,c5,c6,c7⟩:=HXU7.out.cells
                simp only at c0 c1 c2 c3 c4 c5 c6 c7
                obtain ⟨⟨g0,g1,g2,g3,g4,g5,g6,g7⟩,f0,f1,f2,f3,f4,f5,f6,f7⟩:=HXR7.out.var
                simp only [leafC] at g0 g1 g2 g3 g4 g5 g6 g7
                have hbz:=(put0_box HXR7.out (c:=⟨tk,tb,tneg,tma,tmn,tmc,te,ts,tka,tkn,tkc,some ⟨g,0,none⟩,tvn,cap5⟩)).cells
                have HE:=HE0
                unfold put0 at hbz HE
                unfold Cel.val at HE
                simp only at hbz HE
                obtain ⟨d0,d1,d2,d3,d4,d5,d6,d7⟩:=hbz
                clear HE0
                go_wp2_with fail
                exact bodyPost_ret (v:=.tuple #[.agg #[.int .i64 tk,.bool tb,.bool tneg,.slice tma tmn tmc,.int .i64 te,.string ts,.slice tka tkn tkc,.slice (some ⟨g,0,none⟩) tvn cap5],.bool true]) (by simp [results,Tryd.results28,go_sem,d0,d1,d2,d3,d4,d5,d6,d7]) rfl HE.out
abbrev lfT:MT:=leafT 0 false ⟨#[]⟩
theorem bare_bare (t:MT):t.bare.bare=t.bare:=MT.ind (P:=fun t=>t.bare.bare=t.bare) (fun t ih=>by
  obtain ⟨c,m,k,v⟩:=t
  rw [MT.bare,MT.bareL_map,MT.bare,MT.bareL_map,List.map_map]
  congr 1
  refine List.map_congr_left fun x hx=>ih x hx) t
theorem bare_c (t:MT):t.bare.c=t.c.bare:=by obtain ⟨c,m,k,v⟩:=t;rfl
theorem bare_m (t:MT):t.bare.m=t.m:=by obtain ⟨c,m,k,v⟩:=t;rfl
theorem bare_k (t:MT):t.bare.k=t.k:=by obtain ⟨c,m,k,v⟩:=t;rfl
theorem bare_v (t:MT):t.bare.v=t.v.map MT.bare:=by obtain ⟨c,m,k,v⟩:=t;rw [MT.bare,MT.bareL_map];rfl
theorem bare_mk (c:Cel) (m:List Nat) (k:List ByteArray) (v:List MT):(MT.mk c m k v).bare=.mk c.bare m k (v.map MT.bare):=by rw [MT.bare,MT.bareL_map]
theorem bare_leaf:lfT.bare=lfT:=by
  show (MT.mk (leafC 0 false ⟨#[]⟩) [] [] []).bare=_
  rw [bare_mk];rfl
theorem getD_bare (l:List MT) (j:Nat):(l.map MT.bare).getD j lfT=(l.getD j lfT).bare:=by
  simp only [List.getD,List.getElem?_map]
  cases l[j]? with
  | none=>exact bare_leaf.symm
  | some x=>rfl
theorem place_bare (t:MT) (s:ByteArray):placeM t.bare s=placeM t s:=by
  unfold placeM
  rw [bare_c,bare_k]
  rfl
def putF:MT→List ByteArray→MT→Option MT
  | _,[],v=>some v
  | t,s::r,v=>(placeM t s).bind fun j=>(putF (t.v.getD j lfT) r v).map fun y=>.mk t.c t.m t.k (t.v.set j y)
theorem putF_none:∀ (l:List ByteArray) (t v:MT),getM t l=none→putF t.bare l v.bare=none:=by
  intro l
  induction l with
  | nil=>intro t v h;simp [getM] at h
  | cons s l ih =>
    intro t v h
    rw [getM] at h
    rw [putF,place_bare]
    unfold stepM at h
    cases hp:placeM t s with
    | none=>rfl
    | some j =>
      rw [hp] at h
      simp only [Option.map_some] at h
      simp only [Option.bind_some]
      rw [bare_v,getD_bare,ih _ v h]
      rfl
theorem putF_some:∀ (l:List ByteArray) (t v u:MT),PutR t l v u→putF t.bare l v.bare=some u.bare:=by
  intro l
  induction l with
  | nil=>intro t v u h;rw [PutR] at h;rw [putF,h]
  | cons s l ih =>
    intro t v u h
    obtain ⟨j,g,y,h1,h2,h3⟩:=h
    rw [putF,place_bare,h1]
    simp only [Option.bind_some]
    rw [bare_v,getD_bare,ih _ v y h2,h3,setV_bare,bare_c,bare_m,bare_k]
    rfl
structure PathV where
  ad:Option Addr
  n:Nat
  cap:Nat
  l:List ByteArray
def PathV.val (p:PathV):Value:=.slice p.ad p.n p.cap
structure PathV.Ok (w:World) (p:PathV):Prop where
  ln:p.l.length=p.n
  lc:p.n≤p.cap
  lm:p.n≤9223372036854775807
  rd:RdV w p.ad (sv p.l)
theorem PathV.Ok.on {w w':World} {p:PathV} (h:p.Ok w) (hb:Below w.heap.size w w'):p.Ok w':=⟨h.ln,h.lc,h.lm,h.rd.on hb⟩
def ShortF (P:List PathV):Prop:=∀ p∈P,p.n≤80∧∀ x∈p.l,x.size≤2100
def ShP (P:List PathV) (w:World) (e:Ending) (w':World):Prop:=∃ b:Bool,e=.returned (.bool b)∧(b=true→ShortF P)∧w'=w
def SL1 (P:List PathV) (w:World) (n k:Nat) (i:Value) (wr:World):Prop :=
  ∃ j:Nat,j≤n∧n - j≤k∧i=.int .i64 (j:Int)∧ShortF (P.take j)∧wr=w
def SL2 (l:List ByteArray) (w:World) (n k:Nat) (i:Value) (wr:World):Prop :=
  ∃ j:Nat,j≤n∧n - j≤k∧i=.int .i64 (j:Int)∧(∀ x∈l.take j,x.size≤2100)∧wr=w
theorem ptShort_any (P:List PathV) (b n:Nat) (w:World) (hn:P.length=n) (hn7:n≤70) (hc:∀ j p,P[j]? = some p→w.cell? ⟨b,j,none⟩=some p.val) (hP:∀ p∈P,p.Ok w) :
    Calls Tryd.prog 10 #[.slice (some ⟨b,0,none⟩) n n] w (ShP P w):=by
  have HC:=Lib.hid hc
  have HP:=Lib.hid hP
  have HN:=Lib.hid hn
  have HNO:=Lib.hid (show ShP P w (.returned (.bool false)) w from ⟨false,rfl,(fun h=>by cases h),rfl⟩)
  clear hc hP hn
  have hn7z:(n:Int)≤70:=by omega
  go_enter Tryd.func10,Tryd.ntmps10
  go_wp2
  go_loopg [3] n (fun k i wr=>SL1 P w n k i wr)
  case atStart=>exact ⟨0,by omega,by omega,rfl,fun p h=>by simp at h,rfl⟩
  case round =>
    obtain ⟨j,hj,hk,rfl,hs,rfl⟩:=hrel
    by_cases hjn:j<n
    case neg =>
      obtain rfl:j=n:=by omega
      have hjz:¬ (j:Int)<(j:Int):=by omega
      rw [← HN.out,List.take_length] at hs
      have HF:=Lib.hid (show ShP P wr (.returned (.bool true)) wr from ⟨true,rfl,fun _=>hs,rfl⟩)
      clear hs
      go_wp2
      go_ret
      exact HF.out
    obtain ⟨k,rfl⟩:∃ k,gk=k+1:=⟨gk - 1,by omega⟩
    have hjz:(j:Int)<(n:Int):=by omega
    have hj7:(j:Int)<70:=by omega
    have hjl:j<P.length:=by rw [HN.out];exact hjn
    have hpj:P[j]? = some P[j]:=List.getElem?_eq_getElem hjl
    have hc1:=HC.out j _ hpj
    have hpo:=HP.out P[j] (List.getElem_mem hjl)
    have htk:P.take (j+1)=P.take j++[P[j]]:=by rw [List.take_add_one,hpj];rfl
    have HS1:=Lib.hid (fun (h:P[j].n≤80∧∀ x∈P[j].l,x.size≤2100)=>(show ShortF (P.take (j+1)) from by
      rw [htk];intro p hp
      rcases List.mem_append.1 hp with hp | hp
      · exact hs p hp
      · rw [List.mem_singleton] at hp;subst hp;exact h))
    clear hs hpj htk
    generalize P[j]=p at *
    obtain ⟨ad,m,cap,l⟩:=p
    obtain ⟨h1,h2,h3,h4⟩:=hpo
    simp only [PathV.val] at hc1 h1 h2 h3 h4 HS1
    by_cases h80:m≤80
    case neg =>
      have h80z:(80:Int)<(m:Int):=by omega
      clear h4
      go_wp2
      go_ret
      exact HNO.out
    have h80z:¬ (80:Int)<(m:Int):=by omega
    have HR:=Lib.hid h4
    have HL:=Lib.hid h1
    clear h4 h1
    go_wp2
    go_loopg [4] m (fun k2 i2 wr2=>SL2 l wr m k2 i2 wr2)
    case atStart=>exact ⟨0,by omega,by omega,rfl,fun p h=>by simp at h,rfl⟩
    case round =>
      obtain ⟨t,ht,hk2,rfl,hs2,rfl⟩:=hrel
      by_cases htm:t<m
      · obtain ⟨k2,rfl⟩:∃ k,gk=k+1:=⟨gk - 1,by omega⟩
        have htz:(t:Int)<(m:Int):=by omega
        have htl:t<l.length:=by rw [HL.out];exact htm
        obtain ⟨bk,o,rfl,_,hcx⟩:=HR.out t (by rw [sv_len];exact htl)
        rw [sv_get _ _ htl] at hcx
        have htk:l.take (t+1)=l.take t++[l.getD t ByteArray.empty]:=by rw [List.take_add_one];simp [List.getD,htl]
        generalize l.getD t ByteArray.empty=x at *
        by_cases hx:x.size≤2100
        · have hxz:¬ (2100:Int)<(x.size:Int):=by omega
          have HN2:=Lib.hid (show SL2 l wr m k2 (.int .i64 ((t:Int)+1)) wr from ⟨t+1,by omega,by omega,rfl,by
            rw [htk];intro y hy
            rcases List.mem_append.1 hy with hy | hy
            · exact hs2 y hy
            · rw [List.mem_singleton] at hy;subst hy;exact hx,rfl⟩)
          clear hs2 htk
          go_wp2
          go_roundg k2
          case rel=>exact HN2.out
          case measure=>omega
        · have hxz:(2100:Int)<(x.size:Int):=by omega
          clear hs2 htk
          go_wp2
          go_ret
          exact HNO.out
      · obtain rfl:t=m:=by omega
        have htz:¬ (t:Int)<(t:Int):=by omega
        rw [← HL.out,List.take_length] at hs2
        have HN2:=Lib.hid (show SL1 P wr n k (.int .i64 ((j:Int)+1)) wr from ⟨j+1,by omega,by omega,rfl,HS1.out ⟨h80,hs2⟩,rfl⟩)
        clear hs2
        go_wp2
        go_roundg k
        case rel=>exact HN2.out
        case measure=>omega
end Go.Proofs.YticgggjfmhiilaaDoor
