/- Texts of the claim. -/
import Derived.Test.YtijaphbccnadbaaGreatDoorUK
set_option linter.unusedVariables false
set_option linter.unusedSimpArgs false
set_option maxHeartbeats 8000000
set_option maxRecDepth 100000
namespace Go.Proofs.YtijaphbccnadbaaGreatDoor
open Go.Shelf Go.RowKit Go.Lib
def SameN:Prop:=∀ (neg:Bool) (ma ma':Option Addr) (mn mc mc':Nat) (m:List Nat) (e:Int) (W:World),NumOk W neg ma mn mc m e→NumOk W neg ma' mn mc' m e→Calls Tryz.prog 41 #[.agg #[.bool neg,.slice ma mn mc,.int .i64 e],.agg #[.bool neg,.slice ma' mn mc',.int .i64 e]] W (BoolBelow true W)
theorem rdv_str {w:World} {ad:Option Addr} {l:List ByteArray} {b o:Nat} (h:RdV w ad (sv l)) (e:ad=some ⟨b,o,none⟩) (i:Nat) (hi:i<l.length):w.cell? ⟨b,o+i,none⟩=some (.string (l.getD i ByteArray.empty)):=by
  subst e
  rw [h.at i (by rw [sv_len];exact hi),sv_get _ _ hi]
theorem bare_cells {t u:MT} (h:t.bare=u.bare):t.c.bare=u.c.bare∧t.m=u.m∧t.k=u.k∧t.v.map MT.bare=u.v.map MT.bare:=by
  rw [MT.bare_eq,MT.bare_eq] at h
  injection h with h1 h2 h3 h4
  exact ⟨h1,h2,h3,h4⟩
theorem sound_arr0 {t:MT} (hc:Coh t) (k:t.c.k=6) (h:soundB t=true):t.c.kn=0:=by
  obtain ⟨⟨ck,b,neg,ma,mn,mc,e,s,ka,kn,kc,va,vn,vc⟩,m,ks,vs⟩:=t
  simp only [MT.c] at k
  subst k
  have h':(decide (vn≤300) && blankB ⟨6,b,neg,ma,mn,mc,e,s,ka,kn,kc,none,0,0⟩)=true:=h
  rw [Bool.and_eq_true] at h'
  exact (blank_facts h'.2).2.2.2.2.2.1
theorem refSame_any (KN:SameN) (t:MT):∀ (u:MT) (d:Nat) (w:World),t.bare=u.bare→SndD t d→Rep w t→Rep w u→Calls Tryz.prog 17 #[t.c.val,u.c.val] w (BoolBelow true w):=by
  refine MT.ind (P:=fun t=>∀ (u:MT) (d:Nat) (w:World),t.bare=u.bare→SndD t d→Rep w t→Rep w u→Calls Tryz.prog 17 #[t.c.val,u.c.val] w (BoolBelow true w)) ?_ t
  intro t ih u d w hbe hs hR hU
  have own:=hR.own
  have own2:=hU.own
  have hco:=Coh.of hR
  obtain ⟨e1,e2,e3,e4⟩:=bare_cells hbe
  have hso:=hs.own.2
  obtain ⟨Wb,hWb⟩:∃ x,two2 w t.c u.c=x:=⟨_,rfl⟩
  have hb0:Below w.heap.size w Wb:=by rw [← hWb];exact two_below2 _ _ _
  have hsz:Wb.heap.size=w.heap.size+2:=by rw [← hWb,two2_size]
  have ya:BoxT Wb w.heap.size t.c:=by rw [← hWb];exact (two2_box w t.c u.c).1
  have yb:BoxT Wb (w.heap.size+1) u.c:=by rw [← hWb];exact (two2_box w t.c u.c).2
  have HB:=Lib.hid hb0
  have HZ:=Lib.hid hsz
  have KNN:=Lib.hid (fun (h3:t.c.k=3) (W:World) (h:Below w.heap.size w W)=>(by
    have hck:=(bare_num hco h3 hso).1
    have n1:NumOk W t.c.neg t.c.ma t.c.mn t.c.mc t.m t.c.e:=⟨own.mn,own.mc,own.mo,own.mr.below h,hck⟩
    have f1:u.c.neg=t.c.neg:=(by have:=congrArg Cel.neg e1.symm;exact this)
    have f2:u.c.mn=t.c.mn:=(by have:=congrArg Cel.mn e1.symm;exact this)
    have f3:u.c.e=t.c.e:=(by have:=congrArg Cel.e e1.symm;exact this)
    have n2:NumOk W t.c.neg u.c.ma t.c.mn u.c.mc t.m t.c.e:=⟨own.mn,by rw [← f2];exact own2.mc,own.mo,by rw [e2];exact own2.mr.below h,hck⟩
    exact KN _ _ _ _ _ _ _ _ W n1 n2:Calls Tryz.prog 41 #[.agg #[.bool t.c.neg,.slice t.c.ma t.c.mn t.c.mc,.int .i64 t.c.e],.agg #[.bool t.c.neg,.slice u.c.ma t.c.mn u.c.mc,.int .i64 t.c.e]] W (BoolBelow true W)))
  have HK1:=Lib.hid (fun W (h:Below w.heap.size w W)=>own.kr.on h)
  have HK2:=Lib.hid (fun W (h:Below w.heap.size w W)=>(by have:=own2.kr.on h;rwa [← e3] at this:RdV W u.c.ka (sv t.k)))
  have HV1:=Lib.hid (fun W (h:Below w.heap.size w W)=>own.vr.on h)
  have HV2:=Lib.hid (fun W (h:Below w.heap.size w W)=>own2.vr.on h)
  have HVL:=Lib.hid own.vn
  have HKL:=Lib.hid own.kn
  have hlen:t.v.length=u.v.length:=by have:=congrArg List.length e4;rwa [List.length_map,List.length_map] at this
  have HVU:=Lib.hid hlen
  have HLM:=Lib.hid own.lm
  have HA0:=Lib.hid (fun (h6:t.c.k=6)=>sound_arr0 hco h6 hso)
  have HKD:=Lib.hid (show t.c.k=1∨t.c.k=2∨t.c.k=3∨t.c.k=4∨t.c.k=5∨t.c.k=6∨t.c.k=7 by
    by_cases h5:t.c.k=5
    · omega
    · have:=sound_kinds hso h5;omega)
  have KI:=Lib.hid (fun (j:Nat) (hj:j<t.v.length) (W:World) (h:Below w.heap.size w W)=>ih (t.v.getD j (leafT 0 false ⟨#[]⟩)) (by simp [List.getD,hj]) (u.v.getD j (leafT 0 false ⟨#[]⟩)) (d+1) W
    (by
      have:=congrArg (fun l=>l.getD j (leafT 0 false ⟨#[]⟩).bare) e4
      simpa [List.getD,hj,(by omega:j<u.v.length)] using this)
    (hs.part (by simp [List.getD,hj])) ((hR.part (by simp [List.getD,hj])).on h) ((hU.part (by simp [List.getD,(by omega:j<u.v.length)])).on h))
  have hwb:=hWb
  have g1:u.c.k=t.c.k:=(by have:=congrArg Cel.k e1.symm;exact this)
  have g2:u.c.b=t.c.b:=(by have:=congrArg Cel.b e1.symm;exact this)
  have g3:u.c.neg=t.c.neg:=(by have:=congrArg Cel.neg e1.symm;exact this)
  have g4:u.c.mn=t.c.mn:=(by have:=congrArg Cel.mn e1.symm;exact this)
  have g5:u.c.e=t.c.e:=(by have:=congrArg Cel.e e1.symm;exact this)
  have g6:u.c.s=t.c.s:=(by have:=congrArg Cel.s e1.symm;exact this)
  have g7:u.c.kn=t.c.kn:=(by have:=congrArg Cel.kn e1.symm;exact this)
  have g8:u.c.vn=t.c.vn:=(by have:=congrArg Cel.vn e1.symm;exact this)
  clear hb0 hsz own own2 hbe hs hR hU ih hWb e1 e2 e3 e4 hso hco hlen KN
  generalize t.k=names at *
  generalize t.v=vals at *
  generalize u.v=vals' at *
  generalize t.m=limbs at *
  generalize t.c=c at *
  generalize u.c=c' at *
  obtain ⟨k,b0,neg,ma,mn,mc,e,st,ka,kn,kc,va,vn,vc⟩:=c
  obtain ⟨k',b0',neg',ma',mn',mc',e',st',ka',kn',kc',va',vn',vc'⟩:=c'
  simp only at g1 g2 g3 g4 g5 g6 g7 g8
  subst g1 g2 g3 g4 g5 g6 g7 g8
  unfold Cel.val
  obtain ⟨a0,a1,a2,a3,a4,a5,a6,a7⟩:=ya.cells
  obtain ⟨b0,b1,b2,b3,b4,b5,b6,b7⟩:=yb.cells
  simp only at a0 a1 a2 a3 a4 a5 a6 a7 b0 b1 b2 b3 b4 b5 b6 b7
  have HLA:=Lib.hid ya.lt;have HLB:=Lib.hid yb.lt
  clear ya yb
  unfold two2 Cel.cells at hwb
  simp only at hwb KNN HK1 HK2 HV1 HV2 HVL HKL HLM HA0 HKD
  have HWB:=Lib.hid hwb
  clear hwb
  have hkd:=HKD.out
  have hnn:∀ x:Nat,((x:Int) != (x:Int))=false:=fun x=>by simp
  have hn1:=hnn vn'
  have hn2:=hnn kn'
  clear hnn
  rcases hkd with hk | hk | hk | hk | hk | hk | hk
  iterate 2
    · subst hk
      go_enter Tryz.func17,Tryz.ntmps17
      go_upto_region 1 with fail
      rw [HWB.out]
      go_wp2
      go_ret
      exact BoolBelow.mk (by simp) HB.out
  · subst hk
    have KNX:=Lib.hid (KNN.out rfl)
    go_enter Tryz.func17,Tryz.ntmps17
    go_upto_region 1 with fail
    rw [HWB.out]
    go_wp2_with fail
    refine (KNX.out _ HB.out).mono ?_
    rintro r w5 ⟨rfl,hb5⟩
    have HF:=Lib.hid (HB.out.trans (hb5.mono HB.out.size))
    clear hb5
    go_wp2
    go_ret
    exact BoolBelow.mk rfl HF.out
  iterate 2
    · subst hk
      go_enter Tryz.func17,Tryz.ntmps17
      go_upto_region 1 with fail
      rw [HWB.out]
      go_wp2
      go_ret
      exact BoolBelow.mk (by simp) HB.out
  · subst hk
    have hkn:=HA0.out rfl
    subst hkn
    have hvn:vn'≤1000000000000000:=HLM.out.2.2
    go_enter Tryz.func17,Tryz.ntmps17
    go_upto_region 1 with fail
    rw [HWB.out]
    go_wp2
    go_loopg [5] 0 (fun g i wr=>∃ q d:Nat,q≤0∧0 - q≤g∧i=.int .i64 (q:Int)∧wr=Wb.drewN d)
    case atStart=>exact ⟨0,0,Nat.zero_le _,by omega,rfl,rfl⟩
    case round =>
      obtain ⟨q,d,hq,hgq,rfl,hd⟩:=hrel
      obtain rfl:q=0:=by omega
      have HW:=Lib.hid (below_drewN (Below.refl Wb.heap.size Wb) d)
      subst hd
      go_wp2
      go_loopg [6] vn' (fun g i wr=>∃ q:Nat,q≤vn'∧vn' - q≤g∧i=.int .i64 (q:Int)∧Below Wb.heap.size Wb wr)
      case atStart=>exact ⟨0,Nat.zero_le _,by omega,rfl,HW.out⟩
      case round =>
        clear HW
        obtain ⟨q,hq,hgq,rfl,hb⟩:=hrel
        have HBW:=Lib.hid hb
        have HF:=Lib.hid (HB.out.trans (hb.mono HB.out.size))
        obtain ⟨hc,hf⟩:=bcell hb
        have a7':=(hc w.heap.size 7 HLA.out).trans a7
        have b7':=(hc (w.heap.size+1) 7 HLB.out).trans b7
        by_cases hlt:q<vn'
        · obtain ⟨g,rfl⟩:∃ g,gk=g+1:=⟨gk - 1,by omega⟩
          have i1:(q:Int)<(vn':Int):=by omega
          have i2:(0:Int)≤(q:Int):=by omega
          have hqv:q<vals.length:=by rw [HVL.out];exact hlt
          have hqu:q<vals'.length:=by rw [← HVU.out];exact hqv
          have hr1:=HV1.out wr HF.out
          have hr2:=HV2.out wr HF.out
          obtain ⟨xb,xo,rfl,_⟩:=hr1.shape (by rw [flat_len,List.length_map];omega)
          obtain ⟨zb,zo,rfl,_⟩:=hr2.shape (by rw [flat_len,List.length_map];omega)
          obtain ⟨p0,p1,p2,p3,p4,p5,p6,p7⟩:=flat_at hr1 q (by rw [List.length_map];exact hqv) (c:=(vals.getD q (leafT 0 false ⟨#[]⟩)).c) (getD_mapc hqv _)
          obtain ⟨z0,z1,z2,z3,z4,z5,z6,z7⟩:=flat_at hr2 q (by rw [List.length_map];exact hqu) (c:=(vals'.getD q (leafT 0 false ⟨#[]⟩)).c) (getD_mapc hqu _)
          have KS:=Lib.hid (KI.out q hqv)
          generalize (vals.getD q (leafT 0 false ⟨#[]⟩)).c=cx at *
          generalize (vals'.getD q (leafT 0 false ⟨#[]⟩)).c=cz at *
          obtain ⟨xk,xbb,xneg,xma,xmn,xmc,xe,xs,xka,xkn,xkc,xva,xvn,xvc⟩:=cx
          obtain ⟨zk,zbb,zneg,zma,zmn,zmc,ze,zs,zka,zkn,zkc,zva,zvn,zvc⟩:=cz
          unfold Cel.val at KS
          simp only at p0 p1 p2 p3 p4 p5 p6 p7 z0 z1 z2 z3 z4 z5 z6 z7
          clear hc hf hb hr1 hr2
          go_wp2
          go_still_tail 10,(by kernel_rfl)
          change wpList _ _ _ _ _ wr.drew
          have HBD:=Lib.hid HBW.out.drew
          generalize wr.drew=W at HBD ⊢
          go_wp2_with fail
          refine (KS.out _ (HB.out.trans (HBD.out.mono HB.out.size))).mono ?_
          rintro r w5 ⟨rfl,hb5⟩
          have HB5:=Lib.hid (below_on HBD.out hb5)
          clear hb5
          go_wp2
          go_roundg g
          case rel=>exact ⟨q+1,by omega,by omega,by simp,HB5.out⟩
          case measure=>omega
        · have i1:¬ (q:Int)<(vn':Int):=by omega
          clear hc hf hb
          go_wp2
          go_ret
          exact BoolBelow.mk rfl HF.out
  · subst hk
    have hvn:vn'≤1000000000000000:=HLM.out.2.2
    have hkn6:kn'≤1000000000000000:=HLM.out.2.1
    go_enter Tryz.func17,Tryz.ntmps17
    go_upto_region 1 with fail
    rw [HWB.out]
    go_wp2
    go_loopg [5] kn' (fun g i wr=>∃ q d:Nat,q≤kn'∧kn' - q≤g∧i=.int .i64 (q:Int)∧wr=Wb.drewN d)
    case atStart=>exact ⟨0,0,Nat.zero_le _,by omega,rfl,rfl⟩
    case round =>
      obtain ⟨q,d,hq,hgq,rfl,hd⟩:=hrel
      by_cases hlk:q<kn'
      · obtain ⟨g,rfl⟩:∃ g,gk=g+1:=⟨gk - 1,by omega⟩
        have i1:(q:Int)<(kn':Int):=by omega
        have i2:(0:Int)≤(q:Int):=by omega
        have hqk:q<names.length:=by rw [HKL.out];exact hlk
        have hr1:=HK1.out Wb HB.out
        have hr2:=HK2.out Wb HB.out
        obtain ⟨xb,xo,rfl,_⟩:=hr1.shape (by rw [sv_len];omega)
        obtain ⟨zb,zo,rfl,_⟩:=hr2.shape (by rw [sv_len];omega)
        have c1:=rdv_str hr1 rfl q hqk
        have c2:=rdv_str hr2 rfl q hqk
        generalize names.getD q ByteArray.empty=x at c1 c2
        have hx:(x.toList != x.toList)=false:=by simp
        clear hr1 hr2
        subst hd
        go_wp2
        go_quiet (fail)
        go_wp2
        go_roundg g
        case rel=>exact ⟨q+1,_,by omega,by omega,by simp,rfl⟩
        case measure=>omega
      · have i1:¬ (q:Int)<(kn':Int):=by omega
        have HW:=Lib.hid (below_drewN (Below.refl Wb.heap.size Wb) d)
        subst hd
        go_wp2
        go_loopg [6] vn' (fun g i wr=>∃ q:Nat,q≤vn'∧vn' - q≤g∧i=.int .i64 (q:Int)∧Below Wb.heap.size Wb wr)
        case atStart=>exact ⟨0,Nat.zero_le _,by omega,rfl,HW.out⟩
        case round =>
          clear HW
          obtain ⟨q,hq,hgq,rfl,hb⟩:=hrel
          have HBW:=Lib.hid hb
          have HF:=Lib.hid (HB.out.trans (hb.mono HB.out.size))
          obtain ⟨hc,hf⟩:=bcell hb
          have a7':=(hc w.heap.size 7 HLA.out).trans a7
          have b7':=(hc (w.heap.size+1) 7 HLB.out).trans b7
          by_cases hlt:q<vn'
          · obtain ⟨g,rfl⟩:∃ g,gk=g+1:=⟨gk - 1,by omega⟩
            have i1:(q:Int)<(vn':Int):=by omega
            have i2:(0:Int)≤(q:Int):=by omega
            have hqv:q<vals.length:=by rw [HVL.out];exact hlt
            have hqu:q<vals'.length:=by rw [← HVU.out];exact hqv
            have hr1:=HV1.out wr HF.out
            have hr2:=HV2.out wr HF.out
            obtain ⟨xb,xo,rfl,_⟩:=hr1.shape (by rw [flat_len,List.length_map];omega)
            obtain ⟨zb,zo,rfl,_⟩:=hr2.shape (by rw [flat_len,List.length_map];omega)
            obtain ⟨p0,p1,p2,p3,p4,p5,p6,p7⟩:=flat_at hr1 q (by rw [List.length_map];exact hqv) (c:=(vals.getD q (leafT 0 false ⟨#[]⟩)).c) (getD_mapc hqv _)
            obtain ⟨z0,z1,z2,z3,z4,z5,z6,z7⟩:=flat_at hr2 q (by rw [List.length_map];exact hqu) (c:=(vals'.getD q (leafT 0 false ⟨#[]⟩)).c) (getD_mapc hqu _)
            have KS:=Lib.hid (KI.out q hqv)
            generalize (vals.getD q (leafT 0 false ⟨#[]⟩)).c=cx at *
            generalize (vals'.getD q (leafT 0 false ⟨#[]⟩)).c=cz at *
            obtain ⟨xk,xbb,xneg,xma,xmn,xmc,xe,xs,xka,xkn,xkc,xva,xvn,xvc⟩:=cx
            obtain ⟨zk,zbb,zneg,zma,zmn,zmc,ze,zs,zka,zkn,zkc,zva,zvn,zvc⟩:=cz
            unfold Cel.val at KS
            simp only at p0 p1 p2 p3 p4 p5 p6 p7 z0 z1 z2 z3 z4 z5 z6 z7
            clear hc hf hb hr1 hr2
            go_wp2
            go_still_tail 10,(by kernel_rfl)
            change wpList _ _ _ _ _ wr.drew
            have HBD:=Lib.hid HBW.out.drew
            generalize wr.drew=W at HBD ⊢
            go_wp2_with fail
            refine (KS.out _ (HB.out.trans (HBD.out.mono HB.out.size))).mono ?_
            rintro r w5 ⟨rfl,hb5⟩
            have HB5:=Lib.hid (below_on HBD.out hb5)
            clear hb5
            go_wp2
            go_roundg g
            case rel=>exact ⟨q+1,by omega,by omega,by simp,HB5.out⟩
            case measure=>omega
          · have i1:¬ (q:Int)<(vn':Int):=by omega
            clear hc hf hb
            go_wp2
            go_ret
            exact BoolBelow.mk rfl HF.out
end Go.Proofs.YtijaphbccnadbaaGreatDoor
