/- Texts of the claim. -/
import Derived.Test.YticgggjfmhiilaaDoorLx
import Derived.Test.YticgggjfmhiilaaDoorTie
import Derived.ProofKit
import Derived.OpenShut
import Derived.LaidMore
import Derived.Lay
import Derived.Lib.LaidU8T
import Derived.HandedShaped
set_option linter.unusedVariables false
set_option linter.unusedSimpArgs false
set_option maxHeartbeats 32000000
set_option maxRecDepth 100000
namespace Go.Proofs.YticgggjfmhiilaaDoor
open Go.RowKit Go.Shelf
def CutA (t v:MT) (la:List ByteArray) (wr:World) (p q:Value) (W:World):Prop :=
  ∃ (bx:Nat) (x:MT),p=.pointer (some ⟨bx,0,none⟩)∧q=.bool (pY t la v)∧BoxT W bx x.c∧x.bare=pB t la v∧Rep W x∧Below wr.heap.size wr W
theorem pB_of {t v ct cv:MT} {la:List ByteArray} (h1:ct.bare=t.bare) (h2:cv.bare=v.bare):pB ct la cv=pB t la v∧pY ct la cv=pY t la v:=by
  unfold pB pY;rw [h1,h2];exact ⟨rfl,rfl⟩
theorem gB_of {t ct:MT} {la:List ByteArray} (h1:ct.bare=t.bare):gB ct la=gB t la∧gY ct la=gY t la:=by
  unfold gB gY;rw [h1];exact ⟨rfl,rfl⟩
theorem pointerAll_walk (s:ByteArray) (aa:Option Addr) (an ac:Nat) (la:List ByteArray) (ba:Option Addr) (bn bc:Nat) (lb:List ByteArray) (tok:ByteArray) (most:Int) (t v:MT) (w:World)
    (hs:s.size≤maxLen) (hla:la.length=an) (hac:an≤ac) (han:an≤9223372036854775807) (har:RdV w aa (sv la)) (hlb:lb.length=bn) (hbc:bn≤bc) (hbn:bn≤9223372036854775807) (hbr:RdV w ba (sv lb)) (htok:tok.size≤maxLen) (hmost:-9223372036854775808≤most∧most≤9223372036854775807) (hR:Rep w t) (hV:Rep w v) (hT:UT w) (hM:ML w) :
    Calls Tryd.prog 3 #[.string s,.slice aa an ac,.slice ba bn bc,.string tok,.int .i64 most,t.c.val,v.c.val] w fun e w'=>e=.returned (.bool true)∧Below w.heap.size w w':=by
  obtain ⟨Wb,hWb⟩:∃ x,two2 w t.c v.c=x:=⟨_,rfl⟩
  have hb0:Below w.heap.size w Wb:=by rw [← hWb];exact two_below2 _ _ _
  have hbx:BoxT Wb w.heap.size t.c∧BoxT Wb (w.heap.size+1) v.c:=by rw [← hWb];exact two2_box w t.c v.c
  obtain ⟨W1,hW1⟩:∃ x,Wb.alloc (.cells #[.slice aa an ac,.slice ba bn bc] 22)=x:=⟨_,rfl⟩
  have hb1:Below Wb.heap.size Wb W1:=by rw [← hW1];exact (Below.refl _ _).alloc (Nat.le_refl _) _
  have hw1:=hb0.trans (hb1.mono hb0.size)
  have KS:=Lib.hid (ptShort_any [⟨aa,an,ac,la⟩,⟨ba,bn,bc,lb⟩] Wb.heap.size 2 W1 rfl (by decide) (by
    have hh:W1.heap[Wb.heap.size]? = some (.cells #[.slice aa an ac,.slice ba bn bc] 22):=by rw [← hW1];exact heap_alloc_new Wb _
    intro j p hj
    match j,hj with
    | 0,hj=>simp at hj;subst hj;simp [World.cell?,hh,PathV.val]
    | 1,hj=>simp at hj;subst hj;simp [World.cell?,hh,PathV.val]
    | j+2,hj=>simp at hj) (by
    intro p hp'
    simp at hp'
    rcases hp' with rfl | rfl
    · exact ⟨hla,hac,han,har.on hw1⟩
    · exact ⟨hlb,hbc,hbn,hbr.on hw1⟩))
  rw [show Wb.heap.size=w.heap.size+1+1 by rw [← hWb];exact two2_size w t.c v.c] at KS
  have HW:=Lib.hid (fun W (h:Below Wb.heap.size Wb W)=>(hb0.trans (h.mono hb0.size):Below w.heap.size w W))
  have KAW:=Lib.hid (fun W (h:Below Wb.heap.size Wb W)=>awake14_any W (hT.below (HW.out W h)) (hM.below (HW.out W h)))
  have HBX:=Lib.hid (fun W (h:Below Wb.heap.size Wb W)=>(⟨hbx.1.on (h.block _ hbx.1.lt),hbx.2.on (h.block _ hbx.2.lt)⟩:BoxT W w.heap.size t.c∧BoxT W (w.heap.size+1) v.c))
  have HRT:=Lib.hid (fun W (h:Below Wb.heap.size Wb W)=>(⟨hR.on (HW.out W h),hV.on (HW.out W h)⟩:Rep W t∧Rep W v))
  have HRA:=Lib.hid (fun W (h:Below Wb.heap.size Wb W)=>(⟨har.on (HW.out W h),hbr.on (HW.out W h)⟩:RdV W aa (sv la)∧RdV W ba (sv lb)))
  have HUM:=Lib.hid (fun W (h:Below Wb.heap.size Wb W)=>(⟨hT.below (HW.out W h),hM.below (HW.out W h)⟩:UT W∧ML W))
  have HLA:=Lib.hid (And.intro hla hlb)
  have HMO:=Lib.hid hmost
  have hlt2:=hbx.2.lt
  obtain ⟨b,hb⟩:∃ b,w.heap.size=b:=⟨_,rfl⟩
  have HBB:=Lib.hid hb
  rw [hb] at HBX hlt2 KS
  have HB1:=Lib.hid hb1
  have HW1:=Lib.hid hW1
  unfold maxLen at hs htok
  clear hR hV hb0 hbx hb1 hw1 hW1 hT hM har hbr hla hlb hmost
  obtain ⟨ct,hct⟩:∃ c,t.c=c:=⟨_,rfl⟩
  obtain ⟨cv,hcv⟩:∃ c,v.c=c:=⟨_,rfl⟩
  have HCT:=Lib.hid hct
  have HCV:=Lib.hid hcv
  rw [hct] at hWb HBX ⊢
  rw [hcv] at hWb HBX ⊢
  clear hct hcv
  obtain ⟨tk,tb,tneg,tma,tmn,tmc,te,ts,tka,tkn,tkc,tva,tvn,tvc⟩:=ct
  obtain ⟨zk,zb,zneg,zma,zmn,zmc,ze,zs,zka,zkn,zkc,zva,zvn,zvc⟩:=cv
  unfold Cel.val
  unfold two2 Cel.cells at hWb
  simp only at hWb
  have HWB:=Lib.hid hWb
  clear hWb
  have HFA:=Lib.hid (fun (e:Ending) W W' (h:Below Wb.heap.size Wb W) (h2:Below W.heap.size W W')=>(HW.out W' (h.trans (h2.mono h.size)):Below w.heap.size w W'))
  go_enter Tryd.func3,Tryd.ntmps3
  by_cases hs3:s.size≤3000
  case neg =>
    have hs3z:(3000:Int)<(s.size:Int):=by omega
    go_wp2_with fail
    rw [HWB.out]
    refine (KAW.out _ (Below.refl Wb.heap.size Wb)).mono ?_
    rintro r wz ⟨rfl,hz⟩
    have HF:=Lib.hid (HW.out _ ((Below.refl Wb.heap.size Wb).trans (hz.mono ((Below.refl Wb.heap.size Wb)).size)))
    clear hz
    go_wp2
    go_ret
    exact ⟨rfl,HF.out⟩
  have hs3z:¬ (3000:Int)<(s.size:Int):=by omega
  go_wp2_with fail
  rw [HWB.out,HW1.out]
  refine KS.out.mono ?_
  rintro r w2 ⟨bb,rfl,hsh,hw⟩
  replace hw:=hw.symm
  subst hw
  cases bb with
  | false =>
    go_wp2_with fail
    refine (KAW.out _ HB1.out).mono ?_
    rintro r wz ⟨rfl,hz⟩
    have HF:=Lib.hid (HW.out _ (HB1.out.trans (hz.mono (HB1.out).size)))
    clear hz
    go_wp2
    go_ret
    exact ⟨rfl,HF.out⟩
  | true =>
    obtain ⟨⟨ha80,hxa⟩,hb80,hxb⟩:(an≤80∧∀ x∈la,x.size≤2100)∧(bn≤80∧∀ x∈lb,x.size≤2100):=⟨hsh rfl ⟨aa,an,ac,la⟩ (by simp),hsh rfl ⟨ba,bn,bc,lb⟩ (by simp)⟩
    have HXA:=Lib.hid (And.intro hxa hxb)
    clear hsh hxa hxb KS HW1
    by_cases ht1:tok.size≤100
    case neg =>
      have ht1z:(100:Int)<(tok.size:Int):=by omega
      go_wp2_with fail
      refine (KAW.out _ HB1.out).mono ?_
      rintro r wz ⟨rfl,hz⟩
      have HF:=Lib.hid (HW.out _ (HB1.out.trans (hz.mono (HB1.out).size)))
      clear hz
      go_wp2
      go_ret
      exact ⟨rfl,HF.out⟩
    have ht1z:¬ (100:Int)<(tok.size:Int):=by omega
    obtain ⟨c0,c1,c2,c3,c4,c5,c6,c7⟩:=(HBX.out _ HB1.out).1.cells
    simp only at c0 c1 c2 c3 c4 c5 c6 c7
    have KL:=Lib.hid (lightF_any t 100 W1 (by decide) (by decide) (HRT.out _ HB1.out).1)
    rw [HCT.out] at KL
    unfold Cel.val at KL
    simp only at KL
    go_wp2_with fail
    refine KL.out.mono ?_
    rintro r w3 ⟨bb,rfl,hL,h3⟩
    have HB3:=Lib.hid (HB1.out.trans (h3.mono HB1.out.size))
    clear h3 KL
    clear c0 c1 c2 c3 c4 c5 c6 c7
    cases bb with
    | false =>
      go_wp2_with fail
      refine (KAW.out _ HB3.out).mono ?_
      rintro r wz ⟨rfl,hz⟩
      have HF:=Lib.hid (HW.out _ (HB3.out.trans (hz.mono (HB3.out).size)))
      clear hz
      go_wp2
      go_ret
      exact ⟨rfl,HF.out⟩
    | true =>
      have HLT:=Lib.hid (hL rfl).1
      clear hL
      obtain ⟨e0,e1,e2,e3,e4,e5,e6,e7⟩:=(HBX.out _ HB3.out).2.cells
      simp only at e0 e1 e2 e3 e4 e5 e6 e7
      have KL:=Lib.hid (lightF_any v 40 w3 (by decide) (by decide) (HRT.out _ HB3.out).2)
      rw [HCV.out] at KL
      unfold Cel.val at KL
      simp only at KL
      go_wp2_with fail
      refine KL.out.mono ?_
      rintro r w4 ⟨bb,rfl,hL,h4⟩
      have HB4:=Lib.hid (HB3.out.trans (h4.mono HB3.out.size))
      clear h4 KL
      clear e0 e1 e2 e3 e4 e5 e6 e7
      cases bb with
      | false =>
        go_wp2_with fail
        refine (KAW.out _ HB4.out).mono ?_
        rintro r wz ⟨rfl,hz⟩
        have HF:=Lib.hid (HW.out _ (HB4.out.trans (hz.mono (HB4.out).size)))
        clear hz
        go_wp2
        go_ret
        exact ⟨rfl,HF.out⟩
      | true =>
        have HLV:=Lib.hid (hL rfl).1
        clear hL
        have KP:=Lib.hid ((parseP_any s w4 (HUM.out _ HB4.out).1 (HUM.out _ HB4.out).2 (by omega)).mono fun e w' h=>parseA_cel h)
        have KQ:=Lib.hid (fun W=>(refParseP_any s W (by omega)).mono fun e w' h=>parseA_cel h)
        unfold ParC at KP KQ
        generalize pN s.data.toList=PN at *
        obtain ⟨pl,px⟩:=PN
        simp only at KP KQ
        go_wp2_with fail
        refine KP.out.mono ?_
        rintro r w5 ⟨pad,pcap,rfl,hpc,hp6,hpr,h5⟩
        have HB5:=Lib.hid (HB4.out.trans (h5.mono HB4.out.size))
        have HPR:=Lib.hid (fun W (h:Below w5.heap.size w5 W)=>hpr.on h)
        clear h5 KP hpr
        go_wp2_with fail
        refine (KQ.out _).mono ?_
        rintro r w6 ⟨qad,qcap,rfl,hqc,_,hqr,h6⟩
        have HB6:=Lib.hid (HB5.out.trans (h6.mono HB5.out.size))
        have HP6:=Lib.hid (HPR.out _ h6)
        have HQ6:=Lib.hid hqr
        have KI:=Lib.hid (ptIndex_any tok most w6 HMO.out (by omega))
        have KJ:=Lib.hid (fun W=>refIndexA_any tok most W HMO.out)
        unfold IdxP at KI
        unfold RIdx at KJ
        clear h6 KQ hqr HPR
        generalize idxV (idxL tok.data.toList most)=iv at *
        generalize (idxL tok.data.toList most).isSome=ib at *
        go_wp2_with fail
        refine KI.out.mono ?_
        rintro r w7 ⟨rfl,h7⟩
        have HB7:=Lib.hid (HB6.out.trans (h7.mono HB6.out.size))
        have HSM:=Lib.hid ((sameStrP_any pad pl.length pcap pl qad qcap w7 rfl hpc hqc (by omega) (HP6.out.on h7) (HQ6.out.on h7)).mono fun e w' h=>(⟨h.1,by obtain ⟨q,rfl⟩:=h.2;exact below_drewN (Below.refl _ _) q⟩:e=.returned (.bool true)∧Below w7.heap.size w7 w'))
        clear h7 KI HP6 HQ6
        go_wp2_with fail
        refine (KJ.out _).mono ?_
        rintro r w8 ⟨rfl,hw⟩
        replace hw:=hw.symm
        subst hw
        clear KJ
        go_wp2_with fail
        refine HSM.out.mono ?_
        rintro r w8 ⟨rfl,h8⟩
        have HB8:=Lib.hid (HB7.out.trans (h8.mono HB7.out.size))
        clear h8 HSM
        have KC:=Lib.hid (strings_cel aa an ac la w8 HLA.out.1 (by omega) (HRA.out _ HB8.out).1)
        go_wp2_with fail
        refine KC.out.mono ?_
        rintro r w9 ⟨cad,ccap,rfl,hcc,hcr,h9⟩
        have HB9:=Lib.hid (HB8.out.trans (h9.mono HB8.out.size))
        have KX:=Lib.hid (ptText_any cad an ccap la w9 (HUM.out _ HB9.out).2 HLA.out.1 hcc (by omega) (fun x hx=>by have:=HXA.out.1 x hx;omega) hcr)
        have KY:=Lib.hid (fun W (h:Below Wb.heap.size Wb W)=>refText_any aa an ac la W HLA.out.1 hac (by omega) (fun x hx=>by have:=HXA.out.1 x hx;omega) (HRA.out _ h).1)
        generalize mkB (txtPt (ldat la))=tx at *
        clear h9 KC hcr hcc
        go_wp2_with fail
        refine KX.out.mono ?_
        rintro r w10 ⟨rfl,h10⟩
        have HB10:=Lib.hid (HB9.out.trans (h10.mono HB9.out.size))
        clear h10 KX
        go_wp2_with fail
        refine (KY.out _ HB10.out).mono ?_
        rintro r w11 ⟨rfl,hw⟩
        replace hw:=hw.symm
        subst hw
        clear KY
        have KS1:=Lib.hid ((starts_any aa an ac la ba bn bc lb w10 HLA.out.1 HLA.out.2 hac hbc (by omega) (by omega) (HRA.out _ HB10.out).1 (HRA.out _ HB10.out).2).mono fun e w' h=>(⟨h.1,by obtain ⟨q,rfl⟩:=h.2;exact below_drewN (Below.refl _ _) q⟩:e=.returned (.bool (startsB la lb))∧Below w10.heap.size w10 w'))
        have KS2:=Lib.hid (fun W (h:Below Wb.heap.size Wb W)=>(refStarts_any aa an ac la ba bn bc lb W HLA.out.1 HLA.out.2 hac hbc (by omega) (by omega) (HRA.out _ h).1 (HRA.out _ h).2).mono fun e w' h=>(⟨h.1,by obtain ⟨q,rfl⟩:=h.2;exact below_drewN (Below.refl _ _) q⟩:e=.returned (.bool (startsB la lb))∧Below W.heap.size W w'))
        generalize startsB la lb=sb at *
        go_wp2_with fail
        refine KS1.out.mono ?_
        rintro r w12 ⟨rfl,h12⟩
        have HB12:=Lib.hid (HB10.out.trans (h12.mono HB10.out.size))
        clear h12 KS1
        go_wp2_with fail
        refine (KS2.out _ HB12.out).mono ?_
        rintro r w13 ⟨rfl,h13⟩
        have HB13:=Lib.hid (HB12.out.trans (h13.mono HB12.out.size))
        clear h13 KS2
        obtain ⟨c0,c1,c2,c3,c4,c5,c6,c7⟩:=(HBX.out _ HB13.out).1.cells
        simp only at c0 c1 c2 c3 c4 c5 c6 c7
        have KK:=Lib.hid (refCheckA_any t w13 (HRT.out _ HB13.out).1 HLT.out.lgt)
        rw [HCT.out] at KK
        unfold Cel.val at KK
        simp only at KK
        go_wp2_with fail
        refine KK.out.mono ?_
        rintro r w14 ⟨hr14,h14⟩
        have HB14:=Lib.hid (HB13.out.trans (h14.mono HB13.out.size))
        clear h14 KK
        clear c0 c1 c2 c3 c4 c5 c6 c7
        cases hck:checkB t with
        | false =>
          rw [hck] at hr14
          subst hr14
          go_wp2_with fail
          refine (KAW.out _ HB14.out).mono ?_
          rintro r wz ⟨rfl,hz⟩
          have HF:=Lib.hid (HW.out _ (HB14.out.trans (hz.mono (HB14.out).size)))
          clear hz
          go_wp2
          go_ret
          exact ⟨rfl,HF.out⟩
        | true =>
          rw [hck] at hr14
          subst hr14
          have HCK:=Lib.hid hck
          clear hck
          obtain ⟨e0,e1,e2,e3,e4,e5,e6,e7⟩:=(HBX.out _ HB14.out).2.cells
          simp only at e0 e1 e2 e3 e4 e5 e6 e7
          have KK:=Lib.hid (refCheckA_any v w14 (HRT.out _ HB14.out).2 HLV.out.lgt)
          rw [HCV.out] at KK
          unfold Cel.val at KK
          simp only at KK
          go_wp2_with fail
          refine KK.out.mono ?_
          rintro r w15 ⟨hr15,h15⟩
          have HB15:=Lib.hid (HB14.out.trans (h15.mono HB14.out.size))
          clear h15 KK
          clear e0 e1 e2 e3 e4 e5 e6 e7
          cases hck:checkB v with
          | false =>
            rw [hck] at hr15
            subst hr15
            go_wp2_with fail
            refine (KAW.out _ HB15.out).mono ?_
            rintro r wz ⟨rfl,hz⟩
            have HF:=Lib.hid (HW.out _ (HB15.out.trans (hz.mono (HB15.out).size)))
            clear hz
            go_wp2
            go_ret
            exact ⟨rfl,HF.out⟩
          | true =>
            rw [hck] at hr15
            subst hr15
            clear hck
            have HOB:=Lib.hid (check_objs (HRT.out _ HB15.out).1 HCK.out HLT.out)
            have KCT:=Lib.hid (fun W (h:Below Wb.heap.size Wb W)=>((by have:=copy_any t W HLT.out.sml (HRT.out _ h).1;rw [HCT.out] at this;exact this):Calls Tryd.prog 25 #[(⟨tk,tb,tneg,tma,tmn,tmc,te,ts,tka,tkn,tkc,tva,tvn,tvc⟩:Cel).val] W (CopyPost t W)))
            have KCV:=Lib.hid (fun W (h:Below Wb.heap.size Wb W)=>((by have:=copy_any v W HLV.out.sml (HRT.out _ h).2;rw [HCV.out] at this;exact this):Calls Tryd.prog 25 #[(⟨zk,zb,zneg,zma,zmn,zmc,ze,zs,zka,zkn,zkc,zva,zvn,zvc⟩:Cel).val] W (CopyPost v W)))
            have KSA:=Lib.hid (fun W (h:Below Wb.heap.size Wb W)=>strings_cel aa an ac la W HLA.out.1 (by omega) (HRA.out _ h).1)
            have KRG:=Lib.hid (fun W (h:Below Wb.heap.size Wb W)=>((by have:=(refGet_any t aa an ac la W (HRT.out _ h).1 HLA.out.1 (HRA.out _ h).1 (by omega) hac).mono (fun e w' hg=>getP_cel (HRT.out _ h).1 HLT.out.sml hg);rw [HCT.out] at this;exact this):Calls Tryd.prog 26 #[(⟨tk,tb,tneg,tma,tmn,tmc,te,ts,tka,tkn,tkc,tva,tvn,tvc⟩:Cel).val,.slice aa an ac] W (GetC t la W)))
            have KRP:=Lib.hid (fun W (h:Below Wb.heap.size Wb W)=>((by have:=(refPutT_any la (fun _=>False) t v aa an ac W (fun k h=>h.elim) (rep_ind0 (HRT.out _ h).1) (rep_ind0 (HRT.out _ h).2) HLT.out.sml HOB.out HLA.out.1 (HRA.out _ h).1 (by omega) hac (fun x hx=>by have:=HXA.out.1 x hx;omega)).mono (fun e w' h=>rPutP_cel h);rw [HCT.out,HCV.out] at this;exact this):Calls Tryd.prog 28 #[(⟨tk,tb,tneg,tma,tmn,tmc,te,ts,tka,tkn,tkc,tva,tvn,tvc⟩:Cel).val,.slice aa an ac,(⟨zk,zb,zneg,zma,zmn,zmc,ze,zs,zka,zkn,zkc,zva,zvn,zvc⟩:Cel).val] W (PutC (fun _=>False) t la v W)))
            obtain ⟨c0,c1,c2,c3,c4,c5,c6,c7⟩:=(HBX.out _ HB15.out).1.cells
            simp only at c0 c1 c2 c3 c4 c5 c6 c7
            have KA:=Lib.hid (KCT.out _ HB15.out)
            unfold Cel.val at KA
            simp only at KA
            go_wp2_with fail
            refine KA.out.mono ?_
            rintro r w16 ⟨u1,rfl,hu1,hub1,h16⟩
            have HB16:=Lib.hid (HB15.out.trans (h16.mono HB15.out.size))
            have HU1:=Lib.hid (fun W (h:Below w16.heap.size w16 W)=>(hu1.below h).here)
            have HUB1:=Lib.hid hub1
            clear h16 KA hu1 hub1
            clear c0 c1 c2 c3 c4 c5 c6 c7
            go_wp2_with fail
            refine (KSA.out _ HB16.out).mono ?_
            rintro r w17 ⟨sad,scap,rfl,hsc,hsr,h17⟩
            have HB17:=Lib.hid (HB16.out.trans (h17.mono HB16.out.size))
            have KG:=Lib.hid ((get_t u1 sad an scap la w17 (HU1.out _ h17) HLA.out.1 hsr (by omega) hsc (fun x hx=>by have:=HXA.out.1 x hx;omega)).mono (fun e w' h=>getP_cel (HU1.out _ h17) (smlP_bare t u1 HUB1.out.symm HLT.out.sml) h))
            unfold GetC at KG
            rw [(gB_of HUB1.out).1,(gB_of HUB1.out).2] at KG
            clear h17 hsr hsc
            go_wp2_with fail
            refine KG.out.mono ?_
            rintro r w18 ⟨x1,rfl,hxb1,hx1,hxs1,h18⟩
            have HB18:=Lib.hid (HB17.out.trans (h18.mono HB17.out.size))
            have HX1:=Lib.hid (And.intro hxb1 hxs1)
            obtain ⟨dz,hdz⟩:∃ c,x1.c=c:=⟨_,rfl⟩
            have HC1:=Lib.hid hdz
            have hboxn:BoxT (w18.alloc (.cells dz.cells.toArray 28)) w18.heap.size dz:=heap_alloc_new w18 _
            obtain ⟨w19,hw19⟩:∃ x,w18.alloc (.cells dz.cells.toArray 28)=x:=⟨_,rfl⟩
            have h19:Below w18.heap.size w18 w19:=by rw [← hw19];exact (Below.refl _ _).alloc (Nat.le_refl _) _
            have HB19:=Lib.hid (HB18.out.trans (h19.mono HB18.out.size))
            have HR19:=Lib.hid (fun W (h:Below w19.heap.size w19 W)=>((hx1.on h19).on h:Rep W x1))
            obtain ⟨n18,hn18⟩:∃ q,w18.heap.size=q:=⟨_,rfl⟩
            have HN18:=Lib.hid hn18
            have HX19:=Lib.hid (show BoxT w19 n18 dz by rw [← hw19,← hn18];exact hboxn)
            rw [hdz]
            clear hdz hx1 hxb1 hxs1 h18 h19 hboxn KG hn18
            obtain ⟨xk,xb,xneg,xma,xmn,xmc,xe,xs,xka,xkn,xkc,xva,xvn,xvc⟩:=dz
            unfold Cel.cells at hw19
            simp only at hw19
            have HW19:=Lib.hid hw19
            clear hw19
            unfold Cel.val
            simp only
            go_upto_region 12 with fail
            rw [HW19.out,HN18.out]
            clear HW19 HN18
            obtain ⟨c0,c1,c2,c3,c4,c5,c6,c7⟩:=(HBX.out _ HB19.out).1.cells
            simp only at c0 c1 c2 c3 c4 c5 c6 c7
            have KG:=Lib.hid (KRG.out _ HB19.out)
            unfold Cel.val GetC at KG
            simp only at KG
            go_wp2_with fail
            refine KG.out.mono ?_
            rintro r w20 ⟨x2,rfl,hxb2,hx2,hxs2,h20⟩
            have HB20:=Lib.hid (HB19.out.trans (h20.mono HB19.out.size))
            have HX2:=Lib.hid hxb2
            have HX20:=Lib.hid (HX19.out.on (h20.block _ HX19.out.lt))
            have HR20:=Lib.hid (fun W (h:Below w20.heap.size w20 W)=>(HR19.out W (h20.trans (h.mono h20.size)):Rep W x1))
            obtain ⟨dz,hdz⟩:∃ c,x2.c=c:=⟨_,rfl⟩
            have HC2:=Lib.hid hdz
            have hboxn:BoxT (w20.alloc (.cells dz.cells.toArray 28)) w20.heap.size dz:=heap_alloc_new w20 _
            obtain ⟨w21,hw21⟩:∃ x,w20.alloc (.cells dz.cells.toArray 28)=x:=⟨_,rfl⟩
            have h21:Below w20.heap.size w20 w21:=by rw [← hw21];exact (Below.refl _ _).alloc (Nat.le_refl _) _
            have HB21:=Lib.hid (HB20.out.trans (h21.mono HB20.out.size))
            have HR21:=Lib.hid (fun W (h:Below w21.heap.size w21 W)=>(⟨HR20.out W (h21.trans (h.mono h21.size)),(hx2.on h21).on h⟩:Rep W x1∧Rep W x2))
            obtain ⟨n20,hn20⟩:∃ q,w20.heap.size=q:=⟨_,rfl⟩
            have HN20:=Lib.hid hn20
            have HX21:=Lib.hid (show BoxT w21 n18 _∧BoxT w21 n20 dz from ⟨HX20.out.on (h21.block _ HX20.out.lt),by rw [← hw21,← hn20];exact hboxn⟩)
            rw [hdz]
            clear hdz hx2 hxb2 hxs2 h20 h21 hboxn KG HR19 HR20 HX19 HX20 hn20
            clear c0 c1 c2 c3 c4 c5 c6 c7
            obtain ⟨yk,yb,yneg,yma,ymn,ymc,ye,ys,yka,ykn,ykc,yva,yvn,yvc⟩:=dz
            unfold Cel.cells at hw21
            simp only at hw21
            have HW21:=Lib.hid hw21
            clear hw21
            unfold Cel.val
            simp only
            go_upto_region 13 with fail
            rw [HW21.out,HN20.out]
            clear HW21 HN20
            go_cut [27,28] from 31 to 175 (fun p q W=>CutA t v la w21 p q W)
            case first =>
              rename_i J K hJ hK
              have HJ:=Lib.hid hJ
              refine rc_first J hK ?_
              clear hJ hK
              refine rl_start (S:=fun _ W=>Below w21.heap.size w21 W) (by kernel_rfl) (below_drew (Below.refl _ _)) (fun hC hS=>?_)
              have hB:=hS
              refine rl_loadM 0 _ 28 (.tmp 12) b 0 (⟨tk,tb,tneg,tma,tmn,tmc,te,ts,tka,tkn,tkc,tva,tvn,tvc⟩:Cel).cells _ (some 139) rfl (by kernel_rfl) (by kernel_rfl) (by kernel_rfl) (by kernel_rfl) (fun _ _ _ h=>h) (fun _ _=>Iff.rfl) (by kernel_rfl) rfl (by kernel_rfl) Tryd.underlying28 rfl (by kernel_rfl) (fun L W hC h1 hS=>box_range (HBX.out W (HB21.out.trans (hS.mono HB21.out.size))).1) hC hS (fun hC hS=>?_)
              refine rl_loadM 4 _ 28 (.tmp 13) (b+1) 0 (⟨zk,zb,zneg,zma,zmn,zmc,ze,zs,zka,zkn,zkc,zva,zvn,zvc⟩:Cel).cells _ (some 143) rfl (by kernel_rfl) (by kernel_rfl) (by kernel_rfl) (by kernel_rfl) (fun _ _ _ h=>h) (fun _ _=>Iff.rfl) (by kernel_rfl) rfl (by kernel_rfl) Tryd.underlying28 rfl (by kernel_rfl) (fun L W hC h1 hS=>box_range (HBX.out W (HB21.out.trans (hS.mono HB21.out.size))).2) hC hS (fun hC hS=>?_)
              refine rl_pure 2 _ (.slice aa an ac) (some 141) rfl (by kernel_rfl) (by kernel_rfl) (by kernel_rfl) (by kernel_rfl) (fun _ _ _ h=>h) (fun _ _=>Iff.rfl) (by kernel_rfl) (fun w=>by kernel_rfl) hC hS (fun hC hS=>?_)
              refine rl_all [1,10] (by kernel_rfl) (by simp) hC (rl_two _ _ ?_ ?_)
              · skip
                have hsz1:=hB.size
                refine rc_call 1 _ 25 _ _ _ _ #[(⟨tk,tb,tneg,tma,tmn,tmc,te,ts,tka,tkn,tkc,tva,tvn,tvc⟩:Cel).val] (some 140) rfl (by kernel_rfl) (by kernel_rfl) rfl (by kernel_rfl) Tryd.func25 (by kernel_rfl) (by kernel_rfl) (by kernel_rfl) (KCT.out _ (HB21.out.trans (hB.mono HB21.out.size))) ?_
                rintro r' W1 ⟨ca,rfl,hca,hcab,hq1⟩
                replace hB:=hB.trans (hq1.mono hB.size)
                have ga:=Below.refl W1.heap.size W1
                refine ⟨_,rfl,?_⟩
                refine rl_and hB (fun hS hC=>?_)
                refine rl_all [3,10] (by kernel_rfl) (by simp) hC (rl_two _ _ ?_ ?_)
                · skip
                  have hsz2:=hB.size
                  refine rc_call 3 _ 19 _ _ _ _ #[.slice aa an ac] (some 142) rfl (by kernel_rfl) (by kernel_rfl) rfl (by kernel_rfl) Tryd.func19 (by kernel_rfl) (by kernel_rfl) (by kernel_rfl) (KSA.out _ (HB21.out.trans (hB.mono HB21.out.size))) ?_
                  rintro r' W2 ⟨sad,scap,rfl,hsc,hsr,hq2⟩
                  replace ga:=ga.trans (hq2.mono ga.size)
                  replace hB:=hB.trans (hq2.mono hB.size)
                  refine ⟨_,rfl,?_⟩
                  refine rl_and hB (fun hS hC=>?_)
                  refine rl_all [5,10] (by kernel_rfl) (by simp) hC (rl_two _ _ ?_ ?_)
                  · skip
                    have hsz3:=hB.size
                    refine rc_call 5 _ 25 _ _ _ _ #[(⟨zk,zb,zneg,zma,zmn,zmc,ze,zs,zka,zkn,zkc,zva,zvn,zvc⟩:Cel).val] (some 144) rfl (by kernel_rfl) (by kernel_rfl) rfl (by kernel_rfl) Tryd.func25 (by kernel_rfl) (by kernel_rfl) (by kernel_rfl) (KCV.out _ (HB21.out.trans (hB.mono HB21.out.size))) ?_
                    rintro r' W3 ⟨cc,rfl,hcc,hccb,hq3⟩
                    replace ga:=ga.trans (hq3.mono ga.size)
                    replace hsr:=hsr.on hq3
                    replace hB:=hB.trans (hq3.mono hB.size)
                    have gc:=Below.refl W3.heap.size W3
                    refine ⟨_,rfl,?_⟩
                    refine rl_and hB (fun hS hC=>?_)
                    refine rl_all [6,10] (by kernel_rfl) (by simp) hC (rl_two _ _ ?_ ?_)
                    · skip
                      have hsz4:=hB.size
                      have KPT:=((put_t an (fun _=>False) ca cc sad scap la W3 (fun k h=>h.elim) (ind_none hca ga) (ind_none hcc gc) (smlP_bare t ca hcab.symm HLT.out.sml) HLA.out.1 hsr (by omega) hsc (fun x hx=>by have:=HXA.out.1 x hx;omega)).mono (fun e w' h=>putP_cel h))
                      unfold PutC at KPT
                      rw [(pB_of hcab hccb).1,(pB_of hcab hccb).2] at KPT
                      refine rc_call 6 _ 27 _ _ _ _ #[ca.c.val,.slice sad an scap,cc.c.val] (some 145) rfl (by kernel_rfl) (by kernel_rfl) rfl (by kernel_rfl) Tryd.func27 (by kernel_rfl) (by kernel_rfl) (by kernel_rfl) KPT ?_
                      rintro r' W4 ⟨x,rfl,hxb,hxi,hq4⟩
                      replace ga:=ga.trans (hq4.mono ga.size)
                      replace gc:=gc.trans (hq4.mono gc.size)
                      replace hsr:=hsr.on hq4
                      replace hB:=hB.trans (hq4.mono hB.size)
                      refine ⟨_,rfl,?_⟩
                      refine rl_and hB (fun hS hC=>?_)
                      refine rl_pure 7 _ (.tuple #[x.c.val,.bool (pY t la v)]) (some 138) rfl (by kernel_rfl) (by kernel_rfl) (by kernel_rfl) (by kernel_rfl) (fun _ _ _ h=>h) (fun _ _=>Iff.rfl) (by kernel_rfl) (fun w=>by kernel_rfl) hC hS (fun hC hS=>?_)
                      refine rl_pure 8 _ (x.c.val) (some 146) rfl (by kernel_rfl) (by kernel_rfl) (by kernel_rfl) (by kernel_rfl) (fun _ _ _ h=>h) (fun _ _=>Iff.rfl) (by kernel_rfl) (fun w=>by kernel_rfl) hC hS (fun hC hS=>?_)
                      refine rl_pure 9 _ (.bool (pY t la v)) (some 147) rfl (by kernel_rfl) (by kernel_rfl) (by kernel_rfl) (by kernel_rfl) (fun _ _ _ h=>h) (fun _ _=>Iff.rfl) (by kernel_rfl) (fun w=>by kernel_rfl) hC hS (fun hC hS=>?_)
                      refine rl_all [10] (by kernel_rfl) (by simp) hC (rl_one _ ?_)
                      have hq5:Below W4.heap.size W4 (W4.alloc (.cells #[.int .i64 0,.bool false,.bool false,.slice none 0 0,.int .i64 0,.string ⟨#[]⟩,.slice none 0 0,.slice none 0 0] 28)):=(Below.refl _ _).alloc (Nat.le_refl _) _
                      have hbs:=hB.size
                      have oa:=ga.size
                      have oc:=gc.size
                      have hxl:=fun (W2:World) (h1:W4.heap.size+1≤W2.heap.size) (h2:∀ k,k<W4.heap.size+1→k ≠ W4.heap.size→W2.heap[k]? = (W4.alloc (.cells #[.int .i64 0,.bool false,.bool false,.slice none 0 0,.int .i64 0,.string ⟨#[]⟩,.slice none 0 0,.slice none 0 0] 28)).heap[k]?)=>(hxi W2 (by omega) (fun k hk _=>(h2 k (by omega) (by omega)).trans (hq5.block k hk)):Rep W2 x)
                      replace ga:=ga.trans (hq5.mono ga.size)
                      replace gc:=gc.trans (hq5.mono gc.size)
                      replace hsr:=hsr.on hq5
                      replace hB:=hB.trans (hq5.mono hB.size)
                      have hbox:BoxT (W4.alloc (.cells #[.int .i64 0,.bool false,.bool false,.slice none 0 0,.int .i64 0,.string ⟨#[]⟩,.slice none 0 0,.slice none 0 0] 28)) W4.heap.size (leafC 0 false ⟨#[]⟩):=heap_alloc_new W4 (.cells #[.int .i64 0,.bool false,.bool false,.slice none 0 0,.int .i64 0,.string ⟨#[]⟩,.slice none 0 0,.slice none 0 0] 28)
                      refine rl_val 10 _ (.pointer (some ⟨W4.heap.size,0,none⟩)) (W4.alloc (.cells #[.int .i64 0,.bool false,.bool false,.slice none 0 0,.int .i64 0,.string ⟨#[]⟩,.slice none 0 0,.slice none 0 0] 28)) (some 27) rfl (by kernel_rfl) (by kernel_rfl) (by kernel_rfl) ?_
                      refine rl_and hB (fun hS hC=>?_)
                      generalize W4.alloc (.cells #[.int .i64 0,.bool false,.bool false,.slice none 0 0,.int .i64 0,.string ⟨#[]⟩,.slice none 0 0,.slice none 0 0] 28)=W5 at *
                      refine rl_all [11] (by kernel_rfl) (by simp) hC (rl_one _ ?_)
                      refine rl_storeT 11 _ 28 (.tmp 27) (.tmp 146) (W4.heap.size) x.c (leafC 0 false ⟨#[]⟩) (TypeDesc.struct #[]) rfl (by kernel_rfl) (by kernel_rfl) rfl (by kernel_rfl) (by kernel_rfl) (by kernel_rfl) hbox ?_
                      have hbx2:=put0_box hbox (c:=x.c)
                      have hbt:=put0_but W5 (W4.heap.size) x.c
                      have hsp:(put0 W5 (W4.heap.size) x.c).heap.size=W5.heap.size:=by simp [put0,World.setCell]
                      have hxr:=hxl _ (by rw [hsp];exact hbox.lt) (fun k hk hx=>hbt.block k (by have:=hbox.lt;omega) hx)
                      replace hB:=hB.trans (hbt.below hbs hB.size)
                      refine rl_and hB (fun hS hC=>?_)
                      refine rl_pure 12 _ (.bool (pY t la v)) (some 28) rfl (by kernel_rfl) (by kernel_rfl) (by kernel_rfl) (by kernel_rfl) (fun _ _ _ h=>h) (fun _ _=>Iff.rfl) (by kernel_rfl) (fun w=>by kernel_rfl) hC hS (fun hC hS=>?_)
                      refine rl_done (by kernel_rfl) ?_ _
                      refine HJ.out _ _ ?_
                      clear HJ
                      simp only [Act.put,List.setIfInBounds_toArray,List.set_cons_zero,List.set_cons_succ]
                      (repeat apply Exists.intro)
                      exact ⟨⟨_,x,rfl,rfl,hbx2,hxb,hxr,hB⟩,rfl⟩
                    · skip
                      have hq7:Below W3.heap.size W3 (W3.alloc (.cells #[.int .i64 0,.bool false,.bool false,.slice none 0 0,.int .i64 0,.string ⟨#[]⟩,.slice none 0 0,.slice none 0 0] 28)):=(Below.refl _ _).alloc (Nat.le_refl _) _
                      have hbs:=hB.size
                      have oa:=ga.size
                      have oc:=gc.size
                      replace ga:=ga.trans (hq7.mono ga.size)
                      replace gc:=gc.trans (hq7.mono gc.size)
                      replace hsr:=hsr.on hq7
                      replace hB:=hB.trans (hq7.mono hB.size)
                      have hbox:BoxT (W3.alloc (.cells #[.int .i64 0,.bool false,.bool false,.slice none 0 0,.int .i64 0,.string ⟨#[]⟩,.slice none 0 0,.slice none 0 0] 28)) W3.heap.size (leafC 0 false ⟨#[]⟩):=heap_alloc_new W3 (.cells #[.int .i64 0,.bool false,.bool false,.slice none 0 0,.int .i64 0,.string ⟨#[]⟩,.slice none 0 0,.slice none 0 0] 28)
                      refine rl_val 10 _ (.pointer (some ⟨W3.heap.size,0,none⟩)) (W3.alloc (.cells #[.int .i64 0,.bool false,.bool false,.slice none 0 0,.int .i64 0,.string ⟨#[]⟩,.slice none 0 0,.slice none 0 0] 28)) (some 27) rfl (by kernel_rfl) (by kernel_rfl) (by kernel_rfl) ?_
                      refine rl_and hB (fun hS hC=>?_)
                      generalize W3.alloc (.cells #[.int .i64 0,.bool false,.bool false,.slice none 0 0,.int .i64 0,.string ⟨#[]⟩,.slice none 0 0,.slice none 0 0] 28)=W7 at *
                      refine rl_all [6] (by kernel_rfl) (by simp) hC (rl_one _ ?_)
                      have hsz8:=hB.size
                      have KPT:=((put_t an (fun k=>k=W3.heap.size) ca cc sad scap la W7 (fun k h=>by have e:k=W3.heap.size:=h;have:=hbox.lt;omega) (ind_pick hca ga (by omega)) (ind_pick hcc gc (by omega)) (smlP_bare t ca hcab.symm HLT.out.sml) HLA.out.1 hsr (by omega) hsc (fun x hx=>by have:=HXA.out.1 x hx;omega)).mono (fun e w' h=>putP_cel h))
                      unfold PutC at KPT
                      rw [(pB_of hcab hccb).1,(pB_of hcab hccb).2] at KPT
                      refine rc_call 6 _ 27 _ _ _ _ #[ca.c.val,.slice sad an scap,cc.c.val] (some 145) rfl (by kernel_rfl) (by kernel_rfl) rfl (by kernel_rfl) Tryd.func27 (by kernel_rfl) (by kernel_rfl) (by kernel_rfl) KPT ?_
                      rintro r' W8 ⟨x,rfl,hxb,hxi,hq8⟩
                      replace ga:=ga.trans (hq8.mono ga.size)
                      replace gc:=gc.trans (hq8.mono gc.size)
                      replace hsr:=hsr.on hq8
                      replace hbox:=hbox.on (hq8.block _ hbox.lt)
                      replace hB:=hB.trans (hq8.mono hB.size)
                      refine ⟨_,rfl,?_⟩
                      refine rl_and hB (fun hS hC=>?_)
                      refine rl_pure 7 _ (.tuple #[x.c.val,.bool (pY t la v)]) (some 138) rfl (by kernel_rfl) (by kernel_rfl) (by kernel_rfl) (by kernel_rfl) (fun _ _ _ h=>h) (fun _ _=>Iff.rfl) (by kernel_rfl) (fun w=>by kernel_rfl) hC hS (fun hC hS=>?_)
                      refine rl_pure 8 _ (x.c.val) (some 146) rfl (by kernel_rfl) (by kernel_rfl) (by kernel_rfl) (by kernel_rfl) (fun _ _ _ h=>h) (fun _ _=>Iff.rfl) (by kernel_rfl) (fun w=>by kernel_rfl) hC hS (fun hC hS=>?_)
                      refine rl_pure 9 _ (.bool (pY t la v)) (some 147) rfl (by kernel_rfl) (by kernel_rfl) (by kernel_rfl) (by kernel_rfl) (fun _ _ _ h=>h) (fun _ _=>Iff.rfl) (by kernel_rfl) (fun w=>by kernel_rfl) hC hS (fun hC hS=>?_)
                      refine rl_all [11] (by kernel_rfl) (by simp) hC (rl_one _ ?_)
                      refine rl_storeT 11 _ 28 (.tmp 27) (.tmp 146) (W3.heap.size) x.c (leafC 0 false ⟨#[]⟩) (TypeDesc.struct #[]) rfl (by kernel_rfl) (by kernel_rfl) rfl (by kernel_rfl) (by kernel_rfl) (by kernel_rfl) hbox ?_
                      have hbx2:=put0_box hbox (c:=x.c)
                      have hbt:=put0_but W8 (W3.heap.size) x.c
                      have hsp:(put0 W8 (W3.heap.size) x.c).heap.size=W8.heap.size:=by simp [put0,World.setCell]
                      have hxr:=hxi _ (Nat.le_of_eq hsp.symm) (fun k hk hx=>hbt.block k hk hx)
                      replace hB:=hB.trans (hbt.below hbs hB.size)
                      refine rl_and hB (fun hS hC=>?_)
                      refine rl_pure 12 _ (.bool (pY t la v)) (some 28) rfl (by kernel_rfl) (by kernel_rfl) (by kernel_rfl) (by kernel_rfl) (fun _ _ _ h=>h) (fun _ _=>Iff.rfl) (by kernel_rfl) (fun w=>by kernel_rfl) hC hS (fun hC hS=>?_)
                      refine rl_done (by kernel_rfl) ?_ _
                      refine HJ.out _ _ ?_
                      clear HJ
                      simp only [Act.put,List.setIfInBounds_toArray,List.set_cons_zero,List.set_cons_succ]
                      (repeat apply Exists.intro)
                      exact ⟨⟨_,x,rfl,rfl,hbx2,hxb,hxr,hB⟩,rfl⟩
                  · skip
                    have hq10:Below W2.heap.size W2 (W2.alloc (.cells #[.int .i64 0,.bool false,.bool false,.slice none 0 0,.int .i64 0,.string ⟨#[]⟩,.slice none 0 0,.slice none 0 0] 28)):=(Below.refl _ _).alloc (Nat.le_refl _) _
                    have hbs:=hB.size
                    have oa:=ga.size
                    replace ga:=ga.trans (hq10.mono ga.size)
                    replace hsr:=hsr.on hq10
                    replace hB:=hB.trans (hq10.mono hB.size)
                    have hbox:BoxT (W2.alloc (.cells #[.int .i64 0,.bool false,.bool false,.slice none 0 0,.int .i64 0,.string ⟨#[]⟩,.slice none 0 0,.slice none 0 0] 28)) W2.heap.size (leafC 0 false ⟨#[]⟩):=heap_alloc_new W2 (.cells #[.int .i64 0,.bool false,.bool false,.slice none 0 0,.int .i64 0,.string ⟨#[]⟩,.slice none 0 0,.slice none 0 0] 28)
                    refine rl_val 10 _ (.pointer (some ⟨W2.heap.size,0,none⟩)) (W2.alloc (.cells #[.int .i64 0,.bool false,.bool false,.slice none 0 0,.int .i64 0,.string ⟨#[]⟩,.slice none 0 0,.slice none 0 0] 28)) (some 27) rfl (by kernel_rfl) (by kernel_rfl) (by kernel_rfl) ?_
                    refine rl_and hB (fun hS hC=>?_)
                    generalize W2.alloc (.cells #[.int .i64 0,.bool false,.bool false,.slice none 0 0,.int .i64 0,.string ⟨#[]⟩,.slice none 0 0,.slice none 0 0] 28)=W10 at *
                    refine rl_all [5] (by kernel_rfl) (by simp) hC (rl_one _ ?_)
                    have hsz11:=hB.size
                    have oc:=hbox.lt
                    refine rc_call 5 _ 25 _ _ _ _ #[(⟨zk,zb,zneg,zma,zmn,zmc,ze,zs,zka,zkn,zkc,zva,zvn,zvc⟩:Cel).val] (some 144) rfl (by kernel_rfl) (by kernel_rfl) rfl (by kernel_rfl) Tryd.func25 (by kernel_rfl) (by kernel_rfl) (by kernel_rfl) (KCV.out _ (HB21.out.trans (hB.mono HB21.out.size))) ?_
                    rintro r' W11 ⟨cc,rfl,hcc,hccb,hq11⟩
                    replace ga:=ga.trans (hq11.mono ga.size)
                    replace hsr:=hsr.on hq11
                    replace hbox:=hbox.on (hq11.block _ hbox.lt)
                    replace hB:=hB.trans (hq11.mono hB.size)
                    have gc:=Below.refl W11.heap.size W11
                    refine ⟨_,rfl,?_⟩
                    refine rl_and hB (fun hS hC=>?_)
                    refine rl_all [6] (by kernel_rfl) (by simp) hC (rl_one _ ?_)
                    have hsz12:=hB.size
                    have KPT:=((put_t an (fun k=>k=W2.heap.size) ca cc sad scap la W11 (fun k h=>by have e:k=W2.heap.size:=h;have:=hbox.lt;omega) (ind_pick hca ga (by omega)) (ind_pick hcc gc (by omega)) (smlP_bare t ca hcab.symm HLT.out.sml) HLA.out.1 hsr (by omega) hsc (fun x hx=>by have:=HXA.out.1 x hx;omega)).mono (fun e w' h=>putP_cel h))
                    unfold PutC at KPT
                    rw [(pB_of hcab hccb).1,(pB_of hcab hccb).2] at KPT
                    refine rc_call 6 _ 27 _ _ _ _ #[ca.c.val,.slice sad an scap,cc.c.val] (some 145) rfl (by kernel_rfl) (by kernel_rfl) rfl (by kernel_rfl) Tryd.func27 (by kernel_rfl) (by kernel_rfl) (by kernel_rfl) KPT ?_
                    rintro r' W12 ⟨x,rfl,hxb,hxi,hq12⟩
                    replace ga:=ga.trans (hq12.mono ga.size)
                    replace gc:=gc.trans (hq12.mono gc.size)
                    replace hsr:=hsr.on hq12
                    replace hbox:=hbox.on (hq12.block _ hbox.lt)
                    replace hB:=hB.trans (hq12.mono hB.size)
                    refine ⟨_,rfl,?_⟩
                    refine rl_and hB (fun hS hC=>?_)
                    refine rl_pure 7 _ (.tuple #[x.c.val,.bool (pY t la v)]) (some 138) rfl (by kernel_rfl) (by kernel_rfl) (by kernel_rfl) (by kernel_rfl) (fun _ _ _ h=>h) (fun _ _=>Iff.rfl) (by kernel_rfl) (fun w=>by kernel_rfl) hC hS (fun hC hS=>?_)
                    refine rl_pure 8 _ (x.c.val) (some 146) rfl (by kernel_rfl) (by kernel_rfl) (by kernel_rfl) (by kernel_rfl) (fun _ _ _ h=>h) (fun _ _=>Iff.rfl) (by kernel_rfl) (fun w=>by kernel_rfl) hC hS (fun hC hS=>?_)
                    refine rl_pure 9 _ (.bool (pY t la v)) (some 147) rfl (by kernel_rfl) (by kernel_rfl) (by kernel_rfl) (by kernel_rfl) (fun _ _ _ h=>h) (fun _ _=>Iff.rfl) (by kernel_rfl) (fun w=>by kernel_rfl) hC hS (fun hC hS=>?_)
                    refine rl_all [11] (by kernel_rfl) (by simp) hC (rl_one _ ?_)
                    refine rl_storeT 11 _ 28 (.tmp 27) (.tmp 146) (W2.heap.size) x.c (leafC 0 false ⟨#[]⟩) (TypeDesc.struct #[]) rfl (by kernel_rfl) (by kernel_rfl) rfl (by kernel_rfl) (by kernel_rfl) (by kernel_rfl) hbox ?_
                    have hbx2:=put0_box hbox (c:=x.c)
                    have hbt:=put0_but W12 (W2.heap.size) x.c
                    have hsp:(put0 W12 (W2.heap.size) x.c).heap.size=W12.heap.size:=by simp [put0,World.setCell]
                    have hxr:=hxi _ (Nat.le_of_eq hsp.symm) (fun k hk hx=>hbt.block k hk hx)
                    replace hB:=hB.trans (hbt.below hbs hB.size)
                    refine rl_and hB (fun hS hC=>?_)
                    refine rl_pure 12 _ (.bool (pY t la v)) (some 28) rfl (by kernel_rfl) (by kernel_rfl) (by kernel_rfl) (by kernel_rfl) (fun _ _ _ h=>h) (fun _ _=>Iff.rfl) (by kernel_rfl) (fun w=>by kernel_rfl) hC hS (fun hC hS=>?_)
                    refine rl_done (by kernel_rfl) ?_ _
                    refine HJ.out _ _ ?_
                    clear HJ
                    simp only [Act.put,List.setIfInBounds_toArray,List.set_cons_zero,List.set_cons_succ]
                    (repeat apply Exists.intro)
                    exact ⟨⟨_,x,rfl,rfl,hbx2,hxb,hxr,hB⟩,rfl⟩
                · skip
                  have hq14:Below W1.heap.size W1 (W1.alloc (.cells #[.int .i64 0,.bool false,.bool false,.slice none 0 0,.int .i64 0,.string ⟨#[]⟩,.slice none 0 0,.slice none 0 0] 28)):=(Below.refl _ _).alloc (Nat.le_refl _) _
                  have hbs:=hB.size
                  have oa:=ga.size
                  replace ga:=ga.trans (hq14.mono ga.size)
                  replace hB:=hB.trans (hq14.mono hB.size)
                  have hbox:BoxT (W1.alloc (.cells #[.int .i64 0,.bool false,.bool false,.slice none 0 0,.int .i64 0,.string ⟨#[]⟩,.slice none 0 0,.slice none 0 0] 28)) W1.heap.size (leafC 0 false ⟨#[]⟩):=heap_alloc_new W1 (.cells #[.int .i64 0,.bool false,.bool false,.slice none 0 0,.int .i64 0,.string ⟨#[]⟩,.slice none 0 0,.slice none 0 0] 28)
                  refine rl_val 10 _ (.pointer (some ⟨W1.heap.size,0,none⟩)) (W1.alloc (.cells #[.int .i64 0,.bool false,.bool false,.slice none 0 0,.int .i64 0,.string ⟨#[]⟩,.slice none 0 0,.slice none 0 0] 28)) (some 27) rfl (by kernel_rfl) (by kernel_rfl) (by kernel_rfl) ?_
                  refine rl_and hB (fun hS hC=>?_)
                  generalize W1.alloc (.cells #[.int .i64 0,.bool false,.bool false,.slice none 0 0,.int .i64 0,.string ⟨#[]⟩,.slice none 0 0,.slice none 0 0] 28)=W14 at *
                  refine rl_all [3] (by kernel_rfl) (by simp) hC (rl_one _ ?_)
                  have hsz15:=hB.size
                  refine rc_call 3 _ 19 _ _ _ _ #[.slice aa an ac] (some 142) rfl (by kernel_rfl) (by kernel_rfl) rfl (by kernel_rfl) Tryd.func19 (by kernel_rfl) (by kernel_rfl) (by kernel_rfl) (KSA.out _ (HB21.out.trans (hB.mono HB21.out.size))) ?_
                  rintro r' W15 ⟨sad,scap,rfl,hsc,hsr,hq15⟩
                  replace ga:=ga.trans (hq15.mono ga.size)
                  replace hbox:=hbox.on (hq15.block _ hbox.lt)
                  replace hB:=hB.trans (hq15.mono hB.size)
                  refine ⟨_,rfl,?_⟩
                  refine rl_and hB (fun hS hC=>?_)
                  refine rl_all [5] (by kernel_rfl) (by simp) hC (rl_one _ ?_)
                  have hsz16:=hB.size
                  have oc:=hbox.lt
                  refine rc_call 5 _ 25 _ _ _ _ #[(⟨zk,zb,zneg,zma,zmn,zmc,ze,zs,zka,zkn,zkc,zva,zvn,zvc⟩:Cel).val] (some 144) rfl (by kernel_rfl) (by kernel_rfl) rfl (by kernel_rfl) Tryd.func25 (by kernel_rfl) (by kernel_rfl) (by kernel_rfl) (KCV.out _ (HB21.out.trans (hB.mono HB21.out.size))) ?_
                  rintro r' W16 ⟨cc,rfl,hcc,hccb,hq16⟩
                  replace ga:=ga.trans (hq16.mono ga.size)
                  replace hsr:=hsr.on hq16
                  replace hbox:=hbox.on (hq16.block _ hbox.lt)
                  replace hB:=hB.trans (hq16.mono hB.size)
                  have gc:=Below.refl W16.heap.size W16
                  refine ⟨_,rfl,?_⟩
                  refine rl_and hB (fun hS hC=>?_)
                  refine rl_all [6] (by kernel_rfl) (by simp) hC (rl_one _ ?_)
                  have hsz17:=hB.size
                  have KPT:=((put_t an (fun k=>k=W1.heap.size) ca cc sad scap la W16 (fun k h=>by have e:k=W1.heap.size:=h;have:=hbox.lt;omega) (ind_pick hca ga (by omega)) (ind_pick hcc gc (by omega)) (smlP_bare t ca hcab.symm HLT.out.sml) HLA.out.1 hsr (by omega) hsc (fun x hx=>by have:=HXA.out.1 x hx;omega)).mono (fun e w' h=>putP_cel h))
                  unfold PutC at KPT
                  rw [(pB_of hcab hccb).1,(pB_of hcab hccb).2] at KPT
                  refine rc_call 6 _ 27 _ _ _ _ #[ca.c.val,.slice sad an scap,cc.c.val] (some 145) rfl (by kernel_rfl) (by kernel_rfl) rfl (by kernel_rfl) Tryd.func27 (by kernel_rfl) (by kernel_rfl) (by kernel_rfl) KPT ?_
                  rintro r' W17 ⟨x,rfl,hxb,hxi,hq17⟩
                  replace ga:=ga.trans (hq17.mono ga.size)
                  replace gc:=gc.trans (hq17.mono gc.size)
                  replace hsr:=hsr.on hq17
                  replace hbox:=hbox.on (hq17.block _ hbox.lt)
                  replace hB:=hB.trans (hq17.mono hB.size)
                  refine ⟨_,rfl,?_⟩
                  refine rl_and hB (fun hS hC=>?_)
                  refine rl_pure 7 _ (.tuple #[x.c.val,.bool (pY t la v)]) (some 138) rfl (by kernel_rfl) (by kernel_rfl) (by kernel_rfl) (by kernel_rfl) (fun _ _ _ h=>h) (fun _ _=>Iff.rfl) (by kernel_rfl) (fun w=>by kernel_rfl) hC hS (fun hC hS=>?_)
                  refine rl_pure 8 _ (x.c.val) (some 146) rfl (by kernel_rfl) (by kernel_rfl) (by kernel_rfl) (by kernel_rfl) (fun _ _ _ h=>h) (fun _ _=>Iff.rfl) (by kernel_rfl) (fun w=>by kernel_rfl) hC hS (fun hC hS=>?_)
                  refine rl_pure 9 _ (.bool (pY t la v)) (some 147) rfl (by kernel_rfl) (by kernel_rfl) (by kernel_rfl) (by kernel_rfl) (fun _ _ _ h=>h) (fun _ _=>Iff.rfl) (by kernel_rfl) (fun w=>by kernel_rfl) hC hS (fun hC hS=>?_)
                  refine rl_all [11] (by kernel_rfl) (by simp) hC (rl_one _ ?_)
                  refine rl_storeT 11 _ 28 (.tmp 27) (.tmp 146) (W1.heap.size) x.c (leafC 0 false ⟨#[]⟩) (TypeDesc.struct #[]) rfl (by kernel_rfl) (by kernel_rfl) rfl (by kernel_rfl) (by kernel_rfl) (by kernel_rfl) hbox ?_
                  have hbx2:=put0_box hbox (c:=x.c)
                  have hbt:=put0_but W17 (W1.heap.size) x.c
                  have hsp:(put0 W17 (W1.heap.size) x.c).heap.size=W17.heap.size:=by simp [put0,World.setCell]
                  have hxr:=hxi _ (Nat.le_of_eq hsp.symm) (fun k hk hx=>hbt.block k hk hx)
                  replace hB:=hB.trans (hbt.below hbs hB.size)
                  refine rl_and hB (fun hS hC=>?_)
                  refine rl_pure 12 _ (.bool (pY t la v)) (some 28) rfl (by kernel_rfl) (by kernel_rfl) (by kernel_rfl) (by kernel_rfl) (fun _ _ _ h=>h) (fun _ _=>Iff.rfl) (by kernel_rfl) (fun w=>by kernel_rfl) hC hS (fun hC hS=>?_)
                  refine rl_done (by kernel_rfl) ?_ _
                  refine HJ.out _ _ ?_
                  clear HJ
                  simp only [Act.put,List.setIfInBounds_toArray,List.set_cons_zero,List.set_cons_succ]
                  (repeat apply Exists.intro)
                  exact ⟨⟨_,x,rfl,rfl,hbx2,hxb,hxr,hB⟩,rfl⟩
              · skip
                have hq19:Below w21.drew.heap.size w21.drew (w21.drew.alloc (.cells #[.int .i64 0,.bool false,.bool false,.slice none 0 0,.int .i64 0,.string ⟨#[]⟩,.slice none 0 0,.slice none 0 0] 28)):=(Below.refl _ _).alloc (Nat.le_refl _) _
                have hbs:=hB.size
                replace hB:=hB.trans (hq19.mono hB.size)
                have hbox:BoxT (w21.drew.alloc (.cells #[.int .i64 0,.bool false,.bool false,.slice none 0 0,.int .i64 0,.string ⟨#[]⟩,.slice none 0 0,.slice none 0 0] 28)) w21.drew.heap.size (leafC 0 false ⟨#[]⟩):=heap_alloc_new w21.drew (.cells #[.int .i64 0,.bool false,.bool false,.slice none 0 0,.int .i64 0,.string ⟨#[]⟩,.slice none 0 0,.slice none 0 0] 28)
                refine rl_val 10 _ (.pointer (some ⟨w21.drew.heap.size,0,none⟩)) (w21.drew.alloc (.cells #[.int .i64 0,.bool false,.bool false,.slice none 0 0,.int .i64 0,.string ⟨#[]⟩,.slice none 0 0,.slice none 0 0] 28)) (some 27) rfl (by kernel_rfl) (by kernel_rfl) (by kernel_rfl) ?_
                refine rl_and hB (fun hS hC=>?_)
                generalize w21.drew.alloc (.cells #[.int .i64 0,.bool false,.bool false,.slice none 0 0,.int .i64 0,.string ⟨#[]⟩,.slice none 0 0,.slice none 0 0] 28)=W19 at *
                refine rl_all [1] (by kernel_rfl) (by simp) hC (rl_one _ ?_)
                have hsz20:=hB.size
                have oa:=hbox.lt
                refine rc_call 1 _ 25 _ _ _ _ #[(⟨tk,tb,tneg,tma,tmn,tmc,te,ts,tka,tkn,tkc,tva,tvn,tvc⟩:Cel).val] (some 140) rfl (by kernel_rfl) (by kernel_rfl) rfl (by kernel_rfl) Tryd.func25 (by kernel_rfl) (by kernel_rfl) (by kernel_rfl) (KCT.out _ (HB21.out.trans (hB.mono HB21.out.size))) ?_
                rintro r' W20 ⟨ca,rfl,hca,hcab,hq20⟩
                replace hbox:=hbox.on (hq20.block _ hbox.lt)
                replace hB:=hB.trans (hq20.mono hB.size)
                have ga:=Below.refl W20.heap.size W20
                refine ⟨_,rfl,?_⟩
                refine rl_and hB (fun hS hC=>?_)
                refine rl_all [3] (by kernel_rfl) (by simp) hC (rl_one _ ?_)
                have hsz21:=hB.size
                refine rc_call 3 _ 19 _ _ _ _ #[.slice aa an ac] (some 142) rfl (by kernel_rfl) (by kernel_rfl) rfl (by kernel_rfl) Tryd.func19 (by kernel_rfl) (by kernel_rfl) (by kernel_rfl) (KSA.out _ (HB21.out.trans (hB.mono HB21.out.size))) ?_
                rintro r' W21 ⟨sad,scap,rfl,hsc,hsr,hq21⟩
                replace ga:=ga.trans (hq21.mono ga.size)
                replace hbox:=hbox.on (hq21.block _ hbox.lt)
                replace hB:=hB.trans (hq21.mono hB.size)
                refine ⟨_,rfl,?_⟩
                refine rl_and hB (fun hS hC=>?_)
                refine rl_all [5] (by kernel_rfl) (by simp) hC (rl_one _ ?_)
                have hsz22:=hB.size
                have oc:=hbox.lt
                refine rc_call 5 _ 25 _ _ _ _ #[(⟨zk,zb,zneg,zma,zmn,zmc,ze,zs,zka,zkn,zkc,zva,zvn,zvc⟩:Cel).val] (some 144) rfl (by kernel_rfl) (by kernel_rfl) rfl (by kernel_rfl) Tryd.func25 (by kernel_rfl) (by kernel_rfl) (by kernel_rfl) (KCV.out _ (HB21.out.trans (hB.mono HB21.out.size))) ?_
                rintro r' W22 ⟨cc,rfl,hcc,hccb,hq22⟩
                replace ga:=ga.trans (hq22.mono ga.size)
                replace hsr:=hsr.on hq22
                replace hbox:=hbox.on (hq22.block _ hbox.lt)
                replace hB:=hB.trans (hq22.mono hB.size)
                have gc:=Below.refl W22.heap.size W22
                refine ⟨_,rfl,?_⟩
                refine rl_and hB (fun hS hC=>?_)
                refine rl_all [6] (by kernel_rfl) (by simp) hC (rl_one _ ?_)
                have hsz23:=hB.size
                have KPT:=((put_t an (fun k=>k=w21.drew.heap.size) ca cc sad scap la W22 (fun k h=>by have e:k=w21.drew.heap.size:=h;have:=hbox.lt;omega) (ind_pick hca ga (by omega)) (ind_pick hcc gc (by omega)) (smlP_bare t ca hcab.symm HLT.out.sml) HLA.out.1 hsr (by omega) hsc (fun x hx=>by have:=HXA.out.1 x hx;omega)).mono (fun e w' h=>putP_cel h))
                unfold PutC at KPT
                rw [(pB_of hcab hccb).1,(pB_of hcab hccb).2] at KPT
                refine rc_call 6 _ 27 _ _ _ _ #[ca.c.val,.slice sad an scap,cc.c.val] (some 145) rfl (by kernel_rfl) (by kernel_rfl) rfl (by kernel_rfl) Tryd.func27 (by kernel_rfl) (by kernel_rfl) (by kernel_rfl) KPT ?_
                rintro r' W23 ⟨x,rfl,hxb,hxi,hq23⟩
                replace ga:=ga.trans (hq23.mono ga.size)
                replace gc:=gc.trans (hq23.mono gc.size)
                replace hsr:=hsr.on hq23
                replace hbox:=hbox.on (hq23.block _ hbox.lt)
                replace hB:=hB.trans (hq23.mono hB.size)
                refine ⟨_,rfl,?_⟩
                refine rl_and hB (fun hS hC=>?_)
                refine rl_pure 7 _ (.tuple #[x.c.val,.bool (pY t la v)]) (some 138) rfl (by kernel_rfl) (by kernel_rfl) (by kernel_rfl) (by kernel_rfl) (fun _ _ _ h=>h) (fun _ _=>Iff.rfl) (by kernel_rfl) (fun w=>by kernel_rfl) hC hS (fun hC hS=>?_)
                refine rl_pure 8 _ (x.c.val) (some 146) rfl (by kernel_rfl) (by kernel_rfl) (by kernel_rfl) (by kernel_rfl) (fun _ _ _ h=>h) (fun _ _=>Iff.rfl) (by kernel_rfl) (fun w=>by kernel_rfl) hC hS (fun hC hS=>?_)
                refine rl_pure 9 _ (.bool (pY t la v)) (some 147) rfl (by kernel_rfl) (by kernel_rfl) (by kernel_rfl) (by kernel_rfl) (fun _ _ _ h=>h) (fun _ _=>Iff.rfl) (by kernel_rfl) (fun w=>by kernel_rfl) hC hS (fun hC hS=>?_)
                refine rl_all [11] (by kernel_rfl) (by simp) hC (rl_one _ ?_)
                refine rl_storeT 11 _ 28 (.tmp 27) (.tmp 146) (w21.drew.heap.size) x.c (leafC 0 false ⟨#[]⟩) (TypeDesc.struct #[]) rfl (by kernel_rfl) (by kernel_rfl) rfl (by kernel_rfl) (by kernel_rfl) (by kernel_rfl) hbox ?_
                have hbx2:=put0_box hbox (c:=x.c)
                have hbt:=put0_but W23 (w21.drew.heap.size) x.c
                have hsp:(put0 W23 (w21.drew.heap.size) x.c).heap.size=W23.heap.size:=by simp [put0,World.setCell]
                have hxr:=hxi _ (Nat.le_of_eq hsp.symm) (fun k hk hx=>hbt.block k hk hx)
                replace hB:=hB.trans (hbt.below hbs hB.size)
                refine rl_and hB (fun hS hC=>?_)
                refine rl_pure 12 _ (.bool (pY t la v)) (some 28) rfl (by kernel_rfl) (by kernel_rfl) (by kernel_rfl) (by kernel_rfl) (fun _ _ _ h=>h) (fun _ _=>Iff.rfl) (by kernel_rfl) (fun w=>by kernel_rfl) hC hS (fun hC hS=>?_)
                refine rl_done (by kernel_rfl) ?_ _
                refine HJ.out _ _ ?_
                clear HJ
                simp only [Act.put,List.setIfInBounds_toArray,List.set_cons_zero,List.set_cons_succ]
                (repeat apply Exists.intro)
                exact ⟨⟨_,x,rfl,rfl,hbx2,hxb,hxr,hB⟩,rfl⟩
            case rest =>
              obtain ⟨b27,x3,rfl,rfl,hbx3,hxb3,hxr3,hB⟩:=hcut
              have HB22:=Lib.hid (HB21.out.trans (hB.mono HB21.out.size))
              have HX22:=Lib.hid (show _∧_∧_ from ⟨HX21.out.1.on (hB.block _ HX21.out.1.lt),HX21.out.2.on (hB.block _ HX21.out.2.lt),hbx3⟩)
              have HR22:=Lib.hid (fun W (h:Below wc.heap.size wc W)=>(⟨(HR21.out W (hB.trans (h.mono hB.size))).1,(HR21.out W (hB.trans (h.mono hB.size))).2,hxr3.on h⟩:Rep W x1∧Rep W x2∧Rep W x3))
              have HXB3:=Lib.hid hxb3
              clear hB hbx3 hxb3 hxr3 HX21 HR21
              obtain ⟨c0,c1,c2,c3,c4,c5,c6,c7⟩:=(HBX.out _ HB22.out).1.cells
              simp only at c0 c1 c2 c3 c4 c5 c6 c7
              obtain ⟨e0,e1,e2,e3,e4,e5,e6,e7⟩:=(HBX.out _ HB22.out).2.cells
              simp only at e0 e1 e2 e3 e4 e5 e6 e7
              have KG:=Lib.hid (KRP.out _ HB22.out)
              unfold Cel.val PutC at KG
              simp only at KG
              go_wp2_with fail
              refine KG.out.mono ?_
              rintro r w23 ⟨x4,rfl,hxb4,hx4,h23⟩
              have HB23:=Lib.hid (HB22.out.trans (h23.mono HB22.out.size))
              have HXB4:=Lib.hid hxb4
              obtain ⟨dz,hdz⟩:∃ c,x4.c=c:=⟨_,rfl⟩
              have HC4:=Lib.hid hdz
              have hboxn:BoxT (w23.alloc (.cells dz.cells.toArray 28)) w23.heap.size dz:=heap_alloc_new w23 _
              obtain ⟨w24,hw24⟩:∃ x,w23.alloc (.cells dz.cells.toArray 28)=x:=⟨_,rfl⟩
              have h24:Below w23.heap.size w23 w24:=by rw [← hw24];exact (Below.refl _ _).alloc (Nat.le_refl _) _
              have HB24:=Lib.hid (HB23.out.trans (h24.mono HB23.out.size))
              have hb3:=h23.trans (h24.mono h23.size)
              have HR24:=Lib.hid (fun W (h:Below w24.heap.size w24 W)=>(⟨(HR22.out W (hb3.trans (h.mono hb3.size))).1,(HR22.out W (hb3.trans (h.mono hb3.size))).2.1,(HR22.out W (hb3.trans (h.mono hb3.size))).2.2,(hx4.here.on h24).on h⟩:Rep W x1∧Rep W x2∧Rep W x3∧Rep W x4))
              obtain ⟨n23,hn23⟩:∃ q,w23.heap.size=q:=⟨_,rfl⟩
              have HN23:=Lib.hid hn23
              have HX24:=Lib.hid (show _∧_∧_∧BoxT w24 n23 dz from ⟨HX22.out.1.on (hb3.block _ HX22.out.1.lt),HX22.out.2.1.on (hb3.block _ HX22.out.2.1.lt),HX22.out.2.2.on (hb3.block _ HX22.out.2.2.lt),by rw [← hw24,← hn23];exact hboxn⟩)
              rw [hdz]
              clear hdz hx4 hxb4 h23 h24 hb3 hboxn KG HR22 HX22 hn23
              clear c0 c1 c2 c3 c4 c5 c6 c7 e0 e1 e2 e3 e4 e5 e6 e7
              obtain ⟨qk,qb,qneg,qma,qmn,qmc,qe,qs,qka,qkn,qkc,qva,qvn,qvc⟩:=dz
              unfold Cel.cells at hw24
              simp only at hw24
              have HW24:=Lib.hid hw24
              clear hw24
              unfold Cel.val
              simp only
              go_upto_region 15 with fail
              rw [HW24.out,HN23.out]
              clear HW24 HN23
              have KS1:=Lib.hid (sameTree_any x1 x2 w24 (by rw [HX1.out.1,HX2.out]) HX1.out.2 (HR24.out _ (Below.refl _ _)).1 (HR24.out _ (Below.refl _ _)).2.1)
              rw [HC1.out,HC2.out] at KS1
              have KS2:=Lib.hid (fun W (h:Below w24.heap.size w24 W)=>sameTree_any x3 x4 W (by rw [HXB3.out,HXB4.out]) (pB_sml HXB3.out HLT.out.sml HLV.out.sml) (HR24.out _ h).2.2.1 (HR24.out _ h).2.2.2)
              rw [HC4.out] at KS2
              obtain ⟨c3,hc3⟩:∃ c,x3.c=c:=⟨_,rfl⟩
              rw [hc3] at KS2 HX24
              have HC3:=Lib.hid hc3
              clear hc3
              obtain ⟨pk,pb,pneg,pma,pmn,pmc,pe,ps,pka,pkn,pkc,pva,pvn,pvc⟩:=c3
              unfold Cel.val at KS1 KS2
              simp only at KS1 KS2
              generalize gY t la=gy at *
              generalize pY t la v=py at *
              obtain ⟨c0,c1,c2,c3,c4,c5,c6,c7⟩:=HX24.out.1.cells
              obtain ⟨e0,e1,e2,e3,e4,e5,e6,e7⟩:=HX24.out.2.1.cells
              simp only at c0 c1 c2 c3 c4 c5 c6 c7 e0 e1 e2 e3 e4 e5 e6 e7
              go_wp2_with fail
              refine KS1.out.mono ?_
              rintro r w25 ⟨rfl,h25⟩
              have HB25:=Lib.hid (HB24.out.trans (h25.mono HB24.out.size))
              have KS3:=Lib.hid (KS2.out _ h25)
              have HX25:=Lib.hid (show _∧_ from ⟨HX24.out.2.2.1.on (h25.block _ HX24.out.2.2.1.lt),HX24.out.2.2.2.on (h25.block _ HX24.out.2.2.2.lt)⟩)
              clear h25 KS1 KS2
              clear c0 c1 c2 c3 c4 c5 c6 c7 e0 e1 e2 e3 e4 e5 e6 e7
              obtain ⟨c0,c1,c2,c3,c4,c5,c6,c7⟩:=HX25.out.1.cells
              obtain ⟨e0,e1,e2,e3,e4,e5,e6,e7⟩:=HX25.out.2.cells
              simp only at c0 c1 c2 c3 c4 c5 c6 c7 e0 e1 e2 e3 e4 e5 e6 e7
              go_wp2_with fail
              refine KS3.out.mono ?_
              rintro r w26 ⟨rfl,h26⟩
              have HB26:=Lib.hid (HB25.out.trans (h26.mono HB25.out.size))
              clear h26 KS3
              clear c0 c1 c2 c3 c4 c5 c6 c7 e0 e1 e2 e3 e4 e5 e6 e7
              go_wp2_with fail
              refine (KAW.out _ HB26.out).mono ?_
              rintro r wz ⟨rfl,hz⟩
              have HF:=Lib.hid (HW.out _ (HB26.out.trans (hz.mono (HB26.out).size)))
              clear hz
              go_wp2
              go_ret
              exact ⟨rfl,HF.out⟩
end Go.Proofs.YticgggjfmhiilaaDoor
namespace Go.Proofs.YticgggjfmhiilaaDoor
open Go.ChangeShapes Go.WideShapes Go.ChangeAt Go.RowKit Go.Shelf
theorem own:ownKnob Tryd.prog.godebug=none:=by kernel_rfl
theorem laidOut:laidOutB Tryd.prog=true:=by kernel_rfl
theorem i64_bd {n:Int} (h:(Lit.int .i64 n).wf=true):-9223372036854775808≤n∧n≤9223372036854775807:=by
  simpa [Lit.wf,IntKind.min,IntKind.max,IntKind.signed,IntKind.bits] using h
theorem hargs_keep {H:Type} {enc:TypeId × Value→H} {t:TypeId} {W W':World} {v:Value} {d:DataW H} {ps:List MemPlace} (hr:Tryd.prog.readableRec t=true) (hrow:t<Tryd.prog.types.size)
    (h:DataW.Trod enc Tryd.prog W 0 (fun _=>true) true t v d ps) (hb:Below W.heap.size W W') (hlt:∀ x∈ps,x.block<W.heap.size) :
    DataW.Trod enc Tryd.prog W' 0 (fun b=>decide (b<W.heap.size)) true t v d ps:=Below.trod laidOut hr hrow h hb hlt
def ren8:Go.Shelf.Ren:=⟨fun n=>n,fun | 5=>5 | 119=>158 | 138=>160 | 139=>161 | n=>n,fun | 3=>1 | 4=>2 | n=>n⟩
theorem types8:U8Types Tryd.prog ren8:={ t5:=Tryd.underlying5,t119:=Tryd.underlying158,t138:=Tryd.underlying160,t139:=Tryd.underlying161 }
theorem extra8:U8Extra Tryd.prog ren8:={ n3:=by kernel_rfl,n4:=by kernel_rfl,y3:=by kernel_rfl,y4:=by kernel_rfl,c5:=by kernel_rfl,c119:=by kernel_rfl,c138:=by kernel_rfl }
theorem first_data:Rows.laid_unicode_utf8_first=Lib.firstData:=by kernel_rfl
theorem accept_data:(Rows.laid_unicode_utf8_acceptRanges:DataW Unit)=Lib.acceptData:=by kernel_rfl
theorem ut_of_laid {l:List (String × DataW Unit)} {W:World} (h:laidMet Tryd.prog l W) (h1:("unicode/utf8.first",Rows.laid_unicode_utf8_first)∈l) (h2:("unicode/utf8.acceptRanges",Rows.laid_unicode_utf8_acceptRanges)∈l):UT W:=by
  have r1:=Lib.laidMet.reads h h1
  have r2:=Lib.laidMet.reads h h2
  rw [first_data] at r1
  rw [accept_data] at r2
  exact utf8Tabs_of_readsT types8 extra8 r1 r2
end Go.Proofs.YticgggjfmhiilaaDoor
namespace Go
theorem returnsInHanded_and_shape {H:Type} {enc:TypeId × Value→H} {a:Assume} {C:Checked} {os:Os} {f:FuncId} {fn:Func} {s:ChangeSpec} {conds:List PathCond} {apart fresh handsOn again:Bool} {X:World→Array Value→Prop}
    (hX:∀ (w w':World) (args:Array Value),w.heap=w'.heap→X w args→X w' args)
    (own:ownKnob C.prog.godebug=none) (started:os.Started) (noInit:C.prog.inits.idxOf? f=none) (hfn:C.prog.funcs[f]? = some fn)
    (witness:∃ (w:World) (tape:Tape) (i:Input),w.os=os∧(w.forCall tape i).Shaped C.prog∧i.vars=[]∧Input.okWide C.prog (w.forCall tape i) .any w.heap.size f i ∧
      ((s.pre enc C.prog fn conds apart (w.forCall tape i).memory i.args∧X (w.forCall tape i).memory i.args)∧sizedMet enc C.prog fn (OpenSpec.ofChange s) apart (w.forCall tape i).memory i.args)∧a.holds C.prog (lone (Frame.enter C.prog f i.args .normal) [] (w.forCall tape i)))
    (contract:∀ (W:World) (base:Nat) (args:Array Value) (ds gs:List (DataW H)) (before:List MemPlace),
      (∀ (j:Nat) t v,fn.params[j]? = some t→args[j]? = some v→Value.okWide C.prog W .any base t v) →
      DataW.Whole enc C.prog fn.params.toList s.vars apart W args.toList ds gs before →
      conds.all (PathCond.test C.prog ⟨fn.params.toList,ds,s.plain.varTypes C.prog,gs⟩)=true →
      (DataW.weightsEach C.prog (fn.params.toList++s.plain.varTypes C.prog) (ds++gs)).all (·≤reachBytes)=true→X W args→W.ShapedOpen C.prog →
      a.holds C.prog (lone (Frame.enter C.prog f args .normal) [] W) →
      Calls C.prog f args W fun e W'=>∃ v,e=.returned v∧s.post enc C.prog fn apart fresh handsOn again W args v W') :
    ReturnsInHanded a C os f .any (fun w args=>(s.pre enc C.prog fn conds apart w args∧X w args)∧sizedMet enc C.prog fn (OpenSpec.ofChange s) apart w args) (s.post enc C.prog fn apart fresh handsOn again):=by
  refine returnsInHanded_of_calls own started noInit witness ?_
  intro w tape i _ hsh _ hok hpre hholds
  obtain ⟨_,_,_,fn',hfn',_,_,_,_,hval⟩:=hok
  have e:fn'=fn:=Option.some.inj (hfn'.symm.trans hfn)
  subst e
  obtain ⟨⟨⟨ds,gs,before,hw,hc⟩,hx⟩,hz⟩:=hpre
  have hw':=DataW.Whole.of_heap (w':=w.forCall tape i) (by rfl) hw
  refine (contract (w.forCall tape i) w.heap.size i.args ds gs before hval hw' hc (hz.weights hw) (hX _ _ _ (by rfl) hx) hsh hholds).mono fun e W' ⟨v,he,hp⟩=>?_
  subst he
  exact ChangeSpec.post_blind hp
end Go
namespace Go.Proofs.YticgggjfmhiilaaDoor
open Go.ChangeShapes Go.WideShapes Go.ChangeAt Go.RowKit Go.Shelf
set_option linter.unusedVariables false
set_option linter.unusedSimpArgs false
theorem ml_of_shape {W:World} (h:W.ShapedOpen Tryd.prog):ML W:=by
  exact cell_of_shapedOpen_int (t:=3) (zero:=#[.int .i64 0]) h (of_decide_eq_true (by kernel_rfl)) (by kernel_rfl) (by kernel_rfl) (by kernel_rfl) (by kernel_rfl) (by kernel_rfl)
theorem cells_stringP:Tryd.prog.cellsOf 9=1:=by kernel_rfl
set_option maxRecDepth 100000 in
/-- An argument that is a slice of texts. -/
theorem texts_argP {H:Type} {enc:TypeId × Value→H} {W:World} {base:Nat} {v:Value} {d:DataW H} {p:List MemPlace}
    (hok:Value.okWide Tryd.prog W .any base 22 v) (h:DataW.Trod enc Tryd.prog W 0 (fun _=>true) true 22 v d p) :
    ∃ ad len cap l,v=.slice ad len cap∧l.length=len∧len≤cap∧len≤maxLen∧RdV W ad (sv l):=by
  obtain ⟨a0,len,cap,rfl⟩:=okWide_slice Tryd.underlying22 hok
  obtain ⟨fuel,hf⟩:=h
  rcases open_strings Tryd.underlying22 Tryd.underlying9 cells_stringP hf with ⟨hcs,hx⟩ | ⟨a,len',cap',ss,hcs,_,hl,hm,hz,hx,hcell,hsz⟩
  · simp [Value.cells] at hcs
    obtain ⟨rfl,rfl,rfl⟩:=hcs
    exact ⟨none,0,0,[],rfl,rfl,Nat.le_refl _,Nat.zero_le _,RdV.nil _ _⟩
  · simp [Value.cells] at hcs
    obtain ⟨rfl,rfl,rfl⟩:=hcs
    simp only [if_true] at hz
    refine ⟨some a,len,cap,ss.take len,rfl,by simp;omega,hl,by omega,?_⟩
    intro i hi
    have hi':i<len:=by simp [sv] at hi;omega
    have hil:i<ss.length:=by omega
    have hc:=hcell i hil
    have h0:=hcell 0 (by omega)
    obtain ⟨b,off,spot⟩:=a
    have hspot:spot=none:=by simpa [Addr.add] using World.cell?_spot h0
    subst hspot
    have e:(Addr.add ⟨b,off,none⟩ i)=⟨b,off+i,none⟩:=by unfold Addr.add;split <;> simp_all
    rw [e] at hc
    refine ⟨b,off,rfl,?_,?_⟩
    · rcases Nat.lt_or_ge b W.heap.size with h1 | h1
      · exact h1
      · simp [World.cell?,Array.getElem?_eq_none h1] at hc
    · rw [hc,sv_get _ _ (by simp;omega)]
      simp [List.getD,hi',hil]
end Go.Proofs.YticgggjfmhiilaaDoor
namespace Go.Proofs.YticgggjfmhiilaaDoor
open Go.ChangeShapes Go.WideShapes Go.ChangeAt Go.RowKit Go.Shelf
theorem cells_u32':Tryd.prog.cellsOf 132=1:=by kernel_rfl
theorem cells_string':Tryd.prog.cellsOf 9=1:=by kernel_rfl
theorem cells_tree:Tryd.prog.cellsOf 28=8:=by kernel_rfl
theorem bytes_u32:Tryd.prog.bytesOf 132=4:=by kernel_rfl
theorem bytes_string:Tryd.prog.bytesOf 9=16:=by kernel_rfl
theorem bytes_tree:Tryd.prog.bytesOf 28=120:=by kernel_rfl
theorem wf_u32' {n:Int} (h:(Lit.int .u32 n).wf=true):0≤n∧n≤4294967295:=by
  simpa [Lit.wf,IntKind.min,IntKind.max,IntKind.signed,IntKind.bits] using h
theorem reach_eq:reachBytes=140737488351232:=rfl
section
variable {H : Type} {enc : TypeId × Value → H} {W : World}
theorem limbs_in {v:Value} {fuel:Nat} {y:DataW H × List MemPlace}
    (hf:DataW.trod enc Tryd.prog W 0 (fun _=>true) true fuel 23 [v]=some y) (hz:∀ n∈y.1.weights Tryd.prog 23,n≤reachBytes) :
    ∃ ad len cap xs,v=.slice ad len cap∧xs.length=len∧len≤cap∧Okl xs∧Rd W ad xs∧len≤1000000000000000:=by
  rcases open_ints Tryd.underlying23 Tryd.underlying132 cells_u32' hf with ⟨hcs,hx⟩ | ⟨a,len',cap',zs,hcs,_,hl,hm,hzl,hx,hcell,hwz⟩
  · simp only [List.cons.injEq,and_true] at hcs
    exact ⟨none,0,0,[],hcs,rfl,Nat.le_refl _,Okl.nil,Rd.nil _ _,Nat.zero_le _⟩
  · simp only [List.cons.injEq,and_true] at hcs
    subst hcs
    simp only [if_true] at hzl
    refine ⟨some a,len',cap',(zs.take len').map Int.toNat,rfl,by simp;omega,hl,?_,?_,?_⟩
    · intro x hx
      obtain ⟨z,hz1,rfl⟩:=List.mem_map.1 hx
      have:=wf_u32' (hwz z (List.mem_of_mem_take hz1))
      rw [B32_eq];omega
    · intro i hi
      have hi':i<len':=by simp at hi;omega
      have hil:i<zs.length:=by omega
      have hc:=hcell i hil
      have h0:=hcell 0 (by omega)
      obtain ⟨b,off,spot⟩:=a
      have hspot:spot=none:=by simpa [Addr.add] using World.cell?_spot h0
      subst hspot
      have e:(Addr.add ⟨b,off,none⟩ i)=⟨b,off+i,none⟩:=by unfold Addr.add;split <;> simp_all
      rw [e] at hc
      refine ⟨b,off,rfl,?_,?_⟩
      · rcases Nat.lt_or_ge b W.heap.size with h1 | h1
        · exact h1
        · simp [World.cell?,Array.getElem?_eq_none h1] at hc
      · rw [hc]
        have hw:=wf_u32' (hwz (zs.getD i 0) (by simp [List.getD,hil]))
        have e2:((zs.take len').map Int.toNat).getD i 0=(zs.getD i 0).toNat:=by
          simp [List.getD,hi',hil]
        rw [e2]
        congr 2;omega
    · rcases DataW.trod_slice Tryd.underlying23 hf with ⟨h0,_⟩ | ⟨a2,len2,cap2,elems,rest,n2,_,h0,hy,_,_,_,h1,_⟩
      · cases h0
      · cases h0
        rw [hy] at hz
        have:=hz ((elems.length+rest.length)*Tryd.prog.bytesOf 132) (by simp [DataW.weights,Tryd.underlying23])
        rw [bytes_u32,reach_eq] at this
        omega
theorem texts_in {v:Value} {fuel:Nat} {y:DataW H × List MemPlace}
    (hf:DataW.trod enc Tryd.prog W 0 (fun _=>true) true fuel 22 [v]=some y) (hz:∀ n∈y.1.weights Tryd.prog 22,n≤reachBytes) :
    ∃ ad len cap l,v=.slice ad len cap∧l.length=len∧len≤cap∧len≤1000000000000000∧(∀ s∈l,s.size≤maxLen)∧RdV W ad (sv l):=by
  rcases open_strings Tryd.underlying22 Tryd.underlying9 cells_string' hf with ⟨hcs,hx⟩ | ⟨a,len',cap',ss,hcs,_,hl,hm,hzl,hx,hcell,hsz⟩
  · simp only [List.cons.injEq,and_true] at hcs
    exact ⟨none,0,0,[],hcs,rfl,Nat.le_refl _,Nat.zero_le _,(fun s hs=>by cases hs),RdV.nil _ _⟩
  · simp only [List.cons.injEq,and_true] at hcs
    subst hcs
    simp only [if_true] at hzl
    refine ⟨some a,len',cap',ss.take len',rfl,by simp;omega,hl,?_,fun s hs=>hsz s (List.mem_of_mem_take hs),?_⟩
    · rcases DataW.trod_slice Tryd.underlying22 hf with ⟨h0,_⟩ | ⟨a2,len2,cap2,elems,rest,n2,_,h0,hy,_,_,_,h1,_⟩
      · cases h0
      · cases h0
        rw [hy] at hz
        have:=hz ((elems.length+rest.length)*Tryd.prog.bytesOf 9) (by simp [DataW.weights,Tryd.underlying22])
        rw [bytes_string,reach_eq] at this
        omega
    · intro i hi
      have hi':i<len':=by simp [sv] at hi;omega
      have hil:i<ss.length:=by omega
      have hc:=hcell i hil
      have h0:=hcell 0 (by omega)
      obtain ⟨b,off,spot⟩:=a
      have hspot:spot=none:=by simpa [Addr.add] using World.cell?_spot h0
      subst hspot
      have e:(Addr.add ⟨b,off,none⟩ i)=⟨b,off+i,none⟩:=by unfold Addr.add;split <;> simp_all
      rw [e] at hc
      refine ⟨b,off,rfl,?_,?_⟩
      · rcases Nat.lt_or_ge b W.heap.size with h1 | h1
        · exact h1
        · simp [World.cell?,Array.getElem?_eq_none h1] at hc
      · rw [hc,sv_get _ _ (by simp;omega)]
        simp [List.getD,hi',hil]
theorem list_of {α:Type} {P:Nat→α→Prop}:∀ n,(∀ i,i<n→∃ x,P i x)→∃ l:List α,l.length=n∧∀ i (h:i<l.length),P i l[i]:=by
  intro n
  induction n with
  | zero=>intro _;exact ⟨[],rfl,fun i h=>by simp at h⟩
  | succ n ih =>
    intro h
    obtain ⟨l,h1,h2⟩:=ih (fun i hi=>h i (by omega))
    obtain ⟨x,hx⟩:=h n (by omega)
    refine ⟨l++[x],by simp [h1],fun i hi=>?_⟩
    by_cases hn:i<l.length
    · rw [List.getElem_append_left hn];exact h2 i hn
    · have:i=l.length:=by simp at hi;omega
      subst this
      simp;rw [h1];exact hx
theorem weights_all_mem {P:Program} {e:TypeId} {d:DataW H} {n:Nat} (hn:n∈d.weights P e):∀ {l:List (DataW H)},d∈l→n∈DataW.weightsAll P e l
  | [],h=>by cases h
  | x::l,h=>by
    rw [DataW.weightsAll,List.mem_append]
    rcases List.mem_cons.1 h with rfl | h
    · exact .inl hn
    · exact .inr (weights_all_mem hn h)
theorem tree_in:∀ (fuel:Nat) (cs:List Value) (y:DataW H × List MemPlace),DataW.trod enc Tryd.prog W 0 (fun _=>true) true fuel 28 cs=some y→(∀ n∈y.1.weights Tryd.prog 28,n≤reachBytes) →
    ∃ t:MT,cs=t.c.cells∧Rep W t:=by
  intro fuel
  induction fuel using Nat.strongRecOn with
  | ind fuel ih =>
    intro cs y hy hz
    obtain ⟨xs,n,rfl,rfl,hcl,hxl,hfs⟩:=DataW.trod_struct Tryd.underlying28 hy
    rw [cells_tree] at hcl
    simp only [List.size_toArray,List.length_cons,List.length_nil] at hxl
    obtain ⟨c0,c1,c2,c3,c4,c5,c6,c7,rfl⟩:∃ c0 c1 c2 c3 c4 c5 c6 c7,cs=[c0,c1,c2,c3,c4,c5,c6,c7]:=by
      match cs,hcl with
      | [c0,c1,c2,c3,c4,c5,c6,c7],_=>exact ⟨c0,c1,c2,c3,c4,c5,c6,c7,rfl⟩
    obtain ⟨x0,x1,x2,x3,x4,x5,rfl⟩:∃ x0 x1 x2 x3 x4 x5,xs=[x0,x1,x2,x3,x4,x5]:=by
      match xs,hxl with
      | [x0,x1,x2,x3,x4,x5],_=>exact ⟨x0,x1,x2,x3,x4,x5,rfl⟩
    have h0:=hfs 0 _ rfl
    have h1:=hfs 1 _ rfl
    have h2:=hfs 2 _ rfl
    have h3:=hfs 3 _ rfl
    have h4:=hfs 4 _ rfl
    have h5:=hfs 5 _ rfl
    have hw:∀ k,k∈DataW.weightsEach Tryd.prog [3,4,25,9,22,26] [x0.1,x1.1,x2.1,x3.1,x4.1,x5.1]→k≤reachBytes:=fun k hk=>hz k (by
      simp only [DataW.weights,Tryd.underlying28];exact hk)
    have hw2:∀ k∈x2.1.weights Tryd.prog 25,k≤reachBytes:=fun k hk=>hw k (by simp [DataW.weightsEach,hk])
    have hw4:∀ k∈x4.1.weights Tryd.prog 22,k≤reachBytes:=fun k hk=>hw k (by simp [DataW.weightsEach,hk])
    have hw5:∀ k∈x5.1.weights Tryd.prog 26,k≤reachBytes:=fun k hk=>hw k (by simp [DataW.weightsEach,hk])
    clear hz hw hfs hy
    replace h0:DataW.trod enc Tryd.prog W 0 (fun _=>true) true n 3 [c0]=some x0:=h0
    replace h1:DataW.trod enc Tryd.prog W 0 (fun _=>true) true n 4 [c1]=some x1:=h1
    replace h2:DataW.trod enc Tryd.prog W 0 (fun _=>true) true n 25 [c2,c3,c4]=some x2:=h2
    replace h3:DataW.trod enc Tryd.prog W 0 (fun _=>true) true n 9 [c5]=some x3:=h3
    replace h4:DataW.trod enc Tryd.prog W 0 (fun _=>true) true n 22 [c6]=some x4:=h4
    replace h5:DataW.trod enc Tryd.prog W 0 (fun _=>true) true n 26 [c7]=some x5:=h5
    obtain ⟨k,hk,_,hkw⟩:=DataW.trod_int Tryd.underlying3 h0
    obtain ⟨b,hb,_⟩:=DataW.trod_bool Tryd.underlying4 h1
    obtain ⟨s,hs,_,hsz⟩:=DataW.trod_string Tryd.underlying9 h3
    obtain ⟨ka,kn,kc,ks,hK,hk1,hk2,hk3,hk4,hk5⟩:=texts_in h4 hw4
    obtain ⟨zs,n2,rfl,rfl,_,hzl,hgs⟩:=DataW.trod_struct Tryd.underlying25 h2
    simp only [List.size_toArray,List.length_cons,List.length_nil] at hzl
    obtain ⟨z0,z1,z2,rfl⟩:∃ x0 x1 x2,zs=[x0,x1,x2]:=by
      match zs,hzl with
      | [x0,x1,x2],_=>exact ⟨x0,x1,x2,rfl⟩
    have g0:=hgs 0 _ rfl
    have g1:=hgs 1 _ rfl
    have g2:=hgs 2 _ rfl
    have hwn:∀ k∈z1.1.weights Tryd.prog 23,k≤reachBytes:=fun k hk=>hw2 k (by
      simp only [DataW.weights,Tryd.underlying25]
      show k∈DataW.weightsEach Tryd.prog [4,23,3] [z0.1,z1.1,z2.1]
      simp [DataW.weightsEach,hk])
    replace g0:DataW.trod enc Tryd.prog W 0 (fun _=>true) true n2 4 [c2]=some z0:=g0
    replace g1:DataW.trod enc Tryd.prog W 0 (fun _=>true) true n2 23 [c3]=some z1:=g1
    replace g2:DataW.trod enc Tryd.prog W 0 (fun _=>true) true n2 3 [c4]=some z2:=g2
    obtain ⟨neg,hneg,_⟩:=DataW.trod_bool Tryd.underlying4 g0
    obtain ⟨ma,mn,mc,ms,hM,hm1,hm2,hm3,hm4,hm5⟩:=limbs_in g1 hwn
    obtain ⟨e,he,_,hew⟩:=DataW.trod_int Tryd.underlying3 g2
    simp only [List.cons.injEq,and_true] at hk hb hs hneg he
    subst hk hb hs hneg he hK hM
    have hkb:=i64_bd hkw
    have heb:=i64_bd hew
    obtain ⟨va,vn,vc,vs,hV,hv1,hv2,hv3,hv4,hv5⟩:∃ va vn vc,∃ vs:List MT,c7=.slice va vn vc∧vs.length=vn∧vn≤vc∧vn≤1000000000000000∧RdV W va (flat (vs.map MT.c))∧∀ t∈vs,Rep W t:=by
      rcases DataW.trod_slice Tryd.underlying26 h5 with ⟨hcs,_⟩ | ⟨a,len,cap,elems,rest,n3,hn3,hcs,hy,_,hlc,_,hel,hat,_⟩
      · simp only [List.cons.injEq,and_true] at hcs
        exact ⟨none,0,0,[],hcs,rfl,Nat.le_refl _,Nat.zero_le _,RdV.nil _ _,nofun⟩
      · simp only [List.cons.injEq,and_true] at hcs
        rw [hy] at hw5
        have hwe:∀ d∈elems,∀ k∈d.1.weights Tryd.prog 28,k≤reachBytes:=fun d hd k hk=>hw5 k (by
          simp only [DataW.weights,Tryd.underlying26]
          rw [List.mem_cons,List.mem_append]
          exact .inr (.inl (weights_all_mem hk (List.mem_map_of_mem hd))))
        have hlen:=hw5 ((elems.length+rest.length)*Tryd.prog.bytesOf 28) (by simp [DataW.weights,Tryd.underlying26])
        rw [bytes_tree,reach_eq] at hlen
        have each:∀ i,i<len→∃ t:MT,W.cells? 0 (a.add (i*8)) 8=some t.c.cells∧Rep W t:=by
          intro i hi
          have h6:=hat i hi
          rw [cells_tree] at h6
          obtain ⟨y6,hy6⟩:∃ y6,elems[i]? = some y6:=⟨elems[i],by simp [hel,hi]⟩
          rw [hy6] at h6
          obtain ⟨cs6,h7,h8⟩:=Option.bind_eq_some_iff.1 h6
          obtain ⟨t,rfl,ht⟩:=ih n3 (by omega) cs6 y6 h8 (hwe y6 (List.mem_of_getElem? hy6))
          exact ⟨t,h7,ht⟩
        obtain ⟨l,hl1,hl2⟩:=list_of len each
        refine ⟨some a,len,cap,l,hcs,hl1,hlc,by omega,?_,?_⟩
        · intro q hq
          rw [flat_len,List.length_map,hl1] at hq
          have hi:q / 8<len:=by omega
          obtain ⟨h9,_⟩:=hl2 (q / 8) (by omega)
          obtain ⟨_,_,h10⟩:=World.cells?_some h9
          have h11:=h10 (q % 8) (Nat.mod_lt _ (by decide))
          obtain ⟨bk,off,spot⟩:=a
          have h12:(l[q / 8]'(by omega)).c.cells[q % 8]? = (flat (l.map MT.c))[q]?:=by
            have:=flat_get (l.map MT.c) (q / 8) (q % 8) (by simp;omega) (Nat.mod_lt _ (by decide))
            rw [show q / 8*8+q % 8=q by omega] at this
            rw [this];simp
          rw [h12] at h11
          have h13:∃ v,(flat (l.map MT.c))[q]? = some v:=⟨(flat (l.map MT.c))[q]'(by rw [flat_len,List.length_map,hl1];exact hq),by simp⟩
          obtain ⟨v13,h13⟩:=h13
          rw [h13] at h11 ⊢
          have hspot:spot=none:=by
            obtain ⟨_,_,k1⟩:=World.cells?_some (hl2 0 (by omega)).1
            have k2:=k1 0 (by decide)
            exact World.cell?_spot (a:=⟨bk,off,spot⟩) k2
          subst hspot
          have e1:(Addr.add (Addr.add ⟨bk,off,none⟩ (q / 8*8)) (q % 8))=⟨bk,off+q,none⟩:=by
            have a1:(Addr.add ⟨bk,off,none⟩ (q / 8*8))=⟨bk,off+q / 8*8,none⟩:=by unfold Addr.add;split <;> simp_all
            have a2:(Addr.add ⟨bk,off+q / 8*8,none⟩ (q % 8))=⟨bk,off+q / 8*8+q % 8,none⟩:=by unfold Addr.add;split <;> simp_all
            rw [a1,a2];congr 1;omega
          rw [e1] at h11
          refine ⟨bk,off,rfl,?_,h11⟩
          rcases Nat.lt_or_ge bk W.heap.size with h1 | h1
          · exact h1
          · simp [World.cell?,Array.getElem?_eq_none h1] at h11
        · intro t ht
          obtain ⟨i,hi,rfl⟩:=List.mem_iff_getElem.1 ht
          exact (hl2 i hi).2
    subst hV
    refine ⟨.mk ⟨k,b,neg,ma,mn,mc,e,s,ka,kn,kc,va,vn,vc⟩ ms ks vs,rfl,Rep.mk ⟨hm1,hm2,hm3,hm4,hk1,hk2,hk5,hv1,hv2,hv4,⟨hm5,hk3,hv3⟩,hsz,hk4,heb,hkb⟩ hv5⟩
/-- An argument that is a tree. -/
theorem tree_arg {base:Nat} {v:Value} {d:DataW H} {p:List MemPlace} (hok:Value.okWide Tryd.prog W .any base 28 v) (h:DataW.Trod enc Tryd.prog W 0 (fun _=>true) true 28 v d p)
    (hz:∀ n∈d.weights Tryd.prog 28,n≤reachBytes):∃ t:MT,v=t.c.val∧Rep W t:=by
  obtain ⟨cs,rfl,_⟩:=okWide_struct Tryd.underlying28 hok
  obtain ⟨fuel,hf⟩:=h
  obtain ⟨t,ht,hr⟩:=tree_in fuel _ _ hf hz
  refine ⟨t,?_,hr⟩
  have:cs.toList=t.c.cells:=ht
  rw [show cs=t.c.cells.toArray by rw [← this]]
  rfl
end
end Go.Proofs.YticgggjfmhiilaaDoor
