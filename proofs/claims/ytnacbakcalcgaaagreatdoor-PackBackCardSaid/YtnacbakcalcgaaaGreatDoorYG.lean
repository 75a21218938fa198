/- Texts of the claim. -/
import Derived.Test.YtnacbakcalcgaaaGreatDoorYF
import Derived.Test.YtnacbakcalcgaaaGreatDoorTie
import Derived.LaidMore
import Derived.Lay
import Derived.Lib.LaidU8T
import Derived.Lib.SmallJoins
set_option linter.unusedVariables false
set_option linter.unusedSimpArgs false
set_option maxHeartbeats 8000000
set_option maxRecDepth 100000
namespace Go.Proofs.YtnacbakcalcgaaaGreatDoor
open Go.RowKit Go.Lib Go.Sort
theorem packBack_walk (ad:Option Addr) (n cap:Nat) (l0:List Nat) (t:MT) (w:World) (hln:l0.length=n) (hcap:n≤cap) (hok:Okb l0) (hrd:RdV w ad (bc l0)) (hz:ad=none→cap=0) (hR:Rep w t) (hU:UT w) (hT:DB w) :
    Calls Tryz.prog 8 #[.slice ad n cap,t.c.val] w (BoolBelow true w):=by
  have AW:=Lib.hid (fun W (h:Below w.heap.size w W)=>show Calls Tryz.prog 25 #[] W (BoolBelow true w) from (awake12_any W (hU.below h) (hT.below h)).mono fun _ _ hp=>⟨hp.1,below_on h hp.2⟩)
  have KL:=Lib.hid (fun W (h:Below w.heap.size w W)=>lightB_any t 150 W (by decide) (by decide) (hR.on h))
  have KE:=Lib.hid (fun W (h:Below w.heap.size w W)=>encode_pk t W (hR.on h) (hU.below h) (hT.below h))
  have KEA:=Lib.hid (fun (t:MT) W (h:Below w.heap.size w W) (hR:Rep W t)=>encode_pk t W hR (hU.below h) (hT.below h))
  have KD:=Lib.hid (fun (l:List Nat) ad n cap W (h:Below w.heap.size w W) (hb:BytA W ad n cap l)=>decode_pk ad n cap l W (hU.below h) hb.ln hb.cp hb.ok hb.rd hb.shp)
  have KS:=Lib.hid (fun (u:MT) (hu:u.bare=t.bare) (hc:checkB t=true) W (h:Below w.heap.size w W) (hU:Rep W u)=>refSame_yesC (t:=u) (u:=t) (d:=1) (w:=W) hu (SndC.of (by rw [← checkB_bareC,hu,checkB_bareC];exact hc)).1 hU (hR.on h))
  have HCO:=Lib.hid (CohC.of hR)
  have HRD:=Lib.hid (fun W (h:Below w.heap.size w W)=>hrd.on h)
  have HOKB:=Lib.hid (fun p (h:checkB t=true) (hp:encP t=some p)=>encP_okb t 1 p (SndC.of h).1 HCO.out hp)
  have HL0:=Lib.hid hok
  clear hR hU hT hrd hok
  have HE:=Lib.hid (fun x=>encoP_err (t:=t) (x:=x))
  have HK:=Lib.hid (fun l=>encoP_inl (t:=t) (l:=l))
  have HDE:=Lib.hid (fun p (h:checkB t=true) (hp:encP t=some p) (h3:p.length≤32768)=>decode_encP h HCO.out hp h3)
  generalize hbt:t.bare=tb at *
  generalize hen:encoP t=en at *
  clear hen
  generalize t.c=c at *
  obtain ⟨qk,qb,qneg,qma,qmn,qmc,qe,qs,qka,qkn,qkc,qva,qvn,qvc⟩:=c
  unfold Cel.val at *
  obtain ⟨W1,hW1⟩:∃ x,w.alloc (.cells #[.int .i64 qk,.bool qb,.bool qneg,.slice qma qmn qmc,.int .i64 qe,.string qs,.slice qka qkn qkc,.slice qva qvn qvc] 29)=x:=⟨_,rfl⟩
  have hb1:Below w.heap.size w W1:=by rw [← hW1];exact below_newC _ _
  have HW1:=Lib.hid hW1;have HB1:=Lib.hid hb1
  have HY:=Lib.hid (fun W (h:Below W1.heap.size W1 W)=>(by rw [← hW1] at h;exact box8C w h:W.cell? ⟨w.heap.size,0,none⟩=some (.int .i64 qk)∧W.cell? ⟨w.heap.size,1,none⟩=some (.bool qb)∧W.cell? ⟨w.heap.size,2,none⟩=some (.bool qneg)∧W.cell? ⟨w.heap.size,3,none⟩=some (.slice qma qmn qmc)∧W.cell? ⟨w.heap.size,4,none⟩=some (.int .i64 qe)∧W.cell? ⟨w.heap.size,5,none⟩=some (.string qs)∧W.cell? ⟨w.heap.size,6,none⟩=some (.slice qka qkn qkc)∧W.cell? ⟨w.heap.size,7,none⟩=some (.slice qva qvn qvc)))
  clear hW1 hb1
  have HLN:=Lib.hid hln
  by_cases h5:n≤5000
  · have h5z:¬ (5000:Int)<(n:Int):=by omega
    clear hln
    go_enter Tryz.func8,Tryz.ntmps8
    go_wp2_with fail
    rw [HW1.out]
    refine (KL.out _ HB1.out).mono ?_
    rintro r w2 ⟨lb,rfl,hb2⟩
    have HB2:=Lib.hid (below_on HB1.out hb2)
    have H12:=Lib.hid (hb2.mono (Nat.le_refl _):Below W1.heap.size W1 w2)
    obtain ⟨c0,c1,c2,c3,c4,c5,c6,c7⟩:=HY.out _ H12.out
    clear hb2
    cases lb
    · go_wp2_with fail
      refine (AW.out _ HB2.out).mono ?_
      rintro r w9 ⟨rfl,hb9⟩
      have HB9:=Lib.hid hb9
      clear hb9
      go_wp2_with fail
      go_ret
      exact BoolBelow.mk rfl HB9.out
    · go_wp2_with fail
      refine (KE.out _ HB2.out).mono ?_
      intro r w3 hP
      obtain ⟨er,ex,hr,hb3,hok⟩:∃ (er:Value) (ex:Int),r=.returned (.tuple #[er,.int .i64 ex])∧Below w2.heap.size w2 w3∧(ex=0∧(∃ l ad n cap,en=.inl l∧er=.slice ad n cap∧(Okb l→BytA w3 ad n cap l))∨ex ≠ 0∧er=.slice none 0 0):=by
        unfold EnP at hP
        split at hP
        · rename_i l
          obtain ⟨v,hr,ho,hb⟩:=hP
          obtain ⟨a,k,cp,e,h1,h2,h3,h4,_⟩:=(Byt.own ho).at_
          exact ⟨_,_,hr,hb,.inl ⟨rfl,l,a,k,cp,rfl,e,fun hk=>⟨h1,h2,hk,h3,h4⟩⟩⟩
        · rename_i x;exact ⟨_,_,hP.1,hP.2,.inr ⟨by have:=HE.out x rfl;omega,rfl⟩⟩
      subst hr
      have HB3:=Lib.hid (below_on HB2.out hb3)
      have H13:=Lib.hid (below_on H12.out hb3)
      clear hP hb3 c0 c1 c2 c3 c4 c5 c6 c7
      obtain ⟨c0,c1,c2,c3,c4,c5,c6,c7⟩:=HY.out _ H13.out
      have HOK:=Lib.hid hok
      clear hok
      go_upto_if 30 with fail
      go_cut [] from 7 to 43 (fun W=>BkCutC W1 W)
      case first =>
        rcases HOK.out with ⟨rfl,l,a3,n3,cp3,rfl,rfl,hbl⟩ | ⟨hne,rfl⟩
        · obtain ⟨hck,hp,hlen⟩:=HK.out _ rfl
          have KD1:=Lib.hid (KD.out _ a3 n3 cp3 w3 HB3.out (hbl (HOKB.out _ hck hp)))
          rw [HDE.out _ hck hp hlen] at KD1
          have HCK:=Lib.hid hck
          clear hck hp hlen hbl
          unfold DecC at KD1
          go_wp2_with fail
          refine KD1.out.mono ?_
          rintro r w4 ⟨u,rfl,hub,hRu,hb4⟩
          have KS1:=Lib.hid (fun W (h:Below w4.heap.size w4 W)=>KS.out u hub HCK.out W (below_on (below_on HB3.out hb4) h) (hRu.on h))
          have H14:=Lib.hid (below_on H13.out hb4)
          clear hub hRu hb4
          generalize u.c=uc at KS1 ⊢
          obtain ⟨uk,ub',uneg,uma,umn,umc,ue,us,uka,ukn,ukc,uva,uvn,uvc⟩:=uc
          dsimp only at KS1
          (try unfold Cel.val)
          obtain ⟨d0,d1,d2,d3,d4,d5,d6,d7⟩:=HY.out _ (below_on H14.out (below_newC w4 (.cells #[.int .i64 uk,.bool ub',.bool uneg,.slice uma umn umc,.int .i64 ue,.string us,.slice uka ukn ukc,.slice uva uvn uvc] 29)))
          go_wp2_with fail
          refine (KS1.out _ (below_newC w4 (.cells #[.int .i64 uk,.bool ub',.bool uneg,.slice uma umn umc,.int .i64 ue,.string us,.slice uka ukn ukc,.slice uva uvn uvc] 29))).mono ?_
          rintro r w5 ⟨rfl,hb5⟩
          have H15:=Lib.hid (below_on (below_on H14.out (below_newC w4 (.cells #[.int .i64 uk,.bool ub',.bool uneg,.slice uma umn umc,.int .i64 ue,.string us,.slice uka ukn ukc,.slice uva uvn uvc] 29))) hb5)
          clear hb5
          go_wp2_with fail
          go_meet
          exact H15.out
        · go_wp2_with fail
          go_meet
          exact H13.out
      case rest =>
        have H1C:=Lib.hid (show Below W1.heap.size W1 wc from hcut)
        have HBC:=Lib.hid (HB1.out.trans (H1C.out.mono HB1.out.size))
        clear hcut c0 c1 c2 c3 c4 c5 c6 c7 HOK HY KS KE HE HK HDE HOKB
        have HO0:=Lib.hid (World.ownsRow_nil wc wc.heap.size 5 1)
        have HRDC:=Lib.hid (HRD.out wc HBC.out)
        go_wp2_with (at_builtin;refine wpl_putR wc rfl _ _ rfl wc.heap.size (.slice none 0 0) 0 [] rfl HO0.out (Nat.le_refl _) ad n cap rfl l0 HLN.out HRDC.out hz (by omega) ?_)
        intro va wa hoa hga
        try rw [Nat.zero_add] at hoa
        try rw [List.nil_append] at hoa
        have hba:Below wc.heap.size wc wa:=(Below.refl _ _).grown hga (Nat.le_refl _) (fun g hg=>by cases hg)
        obtain ⟨ada,na,capa,rfl,hBA⟩:=BytA.own hoa HL0.out
        have HBAW:=Lib.hid (below_on HBC.out hba)
        have KD2:=Lib.hid (KD.out l0 ada na capa wa HBAW.out hBA)
        unfold DecC at KD2
        have hdo:=Lib.hid (fun u=>pkDecode_ok (l:=l0) (u:=u))
        have hfo:=Lib.hid (fun u=>pkDecode_form (l:=l0) (u:=u) HL0.out)
        have hde:=Lib.hid (fun x=>pkDecode_err (l:=l0) (x:=x))
        clear hoa hga hba hBA HL0 HRDC HO0 HRD
        generalize pkDecode l0=dr at *
        go_wp2_with fail
        refine KD2.out.mono ?_
        cases dr with
        | inr x =>
          rintro r w4 ⟨rfl,hb4⟩
          have HB4:=Lib.hid (below_on (below_on HBAW.out hb4) (below_newC w4 (.cells #[.int .i64 0,.bool false,.bool false,.slice none 0 0,.int .i64 0,.string ⟨#[]⟩,.slice none 0 0,.slice none 0 0] 29)))
          have hx:=hde.out x rfl
          have KZ:=Lib.hid (fun W=>sameTree0 W)
          clear hb4
          rcases hx with rfl | rfl | rfl
          all_goals
            go_wp2_with fail
            refine (KZ.out _).mono ?_
            rintro r w5 ⟨rfl,hb5⟩
            have HB5:=Lib.hid (below_on HB4.out hb5)
            clear hb5
            go_wp2_with fail
            refine (AW.out _ HB5.out).mono ?_
            rintro r w9 ⟨rfl,hb9⟩
            have HB9:=Lib.hid hb9
            clear hb9
            go_wp2_with fail
            go_ret
            exact BoolBelow.mk rfl HB9.out
        | inl ub =>
          rintro r w4 ⟨u,rfl,hub,hRu,hb4⟩
          obtain ⟨hck,_⟩:=hdo.out ub rfl
          rw [← hub,checkB_bareC] at hck
          have hfu:=hfo.out ub rfl
          rw [← hub,encP_bare] at hfu
          have HB4:=Lib.hid (below_on HBAW.out hb4)
          have hco:=CohC.of hRu
          have KE2:=Lib.hid (fun W (h:Below w4.heap.size w4 W)=>KEA.out u W (below_on HB4.out h) (hRu.on h))
          have KC2:=Lib.hid (fun W (h:Below w4.heap.size w4 W)=>refCheckT_yesC u W (hRu.on h) hck)
          have KS2:=Lib.hid (fun (v:MT) (hv:v.bare=u.bare) W (h:Below w4.heap.size w4 W) (hV:Rep W v)=>refSame_yesC (t:=u) (u:=v) (d:=1) (w:=W) hv.symm (SndC.of hck).1 (hRu.on h) hV)
          obtain ⟨ej,hej,hmay⟩:=encoP_may hck hfu
          have HDN:=Lib.hid (fun h3=>decode_encP hck hco hej h3)
          have HOKU:=Lib.hid (encP_okb u 1 ej (SndC.of hck).1 hco hej)
          clear hub hRu hb4 hck hco hej hfu
          unfold EnP at KE2
          generalize hbu:u.bare=bu at *
          clear hbu
          have hjl:=Lib.hid hmay
          clear hmay
          generalize encoP u=en2 at *
          generalize u.c=uc at *
          obtain ⟨uk,ub',uneg,uma,umn,umc,ue,us,uka,ukn,ukc,uva,uvn,uvc⟩:=uc
          unfold Cel.val at *
          obtain ⟨W5,hW5⟩:∃ x,w4.alloc (.cells #[.int .i64 uk,.bool ub',.bool uneg,.slice uma umn umc,.int .i64 ue,.string us,.slice uka ukn ukc,.slice uva uvn uvc] 29)=x:=⟨_,rfl⟩
          have hb5:Below w4.heap.size w4 W5:=by rw [← hW5];exact below_newC _ _
          have HW5:=Lib.hid hW5;have H45:=Lib.hid hb5
          have HY:=Lib.hid (fun W (h:Below W5.heap.size W5 W)=>(by rw [← hW5] at h;exact box8C w4 h:W.cell? ⟨w4.heap.size,0,none⟩=some (.int .i64 uk)∧W.cell? ⟨w4.heap.size,1,none⟩=some (.bool ub')∧W.cell? ⟨w4.heap.size,2,none⟩=some (.bool uneg)∧W.cell? ⟨w4.heap.size,3,none⟩=some (.slice uma umn umc)∧W.cell? ⟨w4.heap.size,4,none⟩=some (.int .i64 ue)∧W.cell? ⟨w4.heap.size,5,none⟩=some (.string us)∧W.cell? ⟨w4.heap.size,6,none⟩=some (.slice uka ukn ukc)∧W.cell? ⟨w4.heap.size,7,none⟩=some (.slice uva uvn uvc)))
          clear hb5 hW5
          go_wp2_with fail
          rw [HW5.out]
          refine (KE2.out _ H45.out).mono ?_
          rcases hjl.out with ⟨hen,hln⟩ | hen
          · subst hen
            rintro r w6 ⟨v6,rfl,ho6,hb6⟩
            obtain ⟨a6,n6,cp6,rfl,hB6⟩:=BytA.own ho6 HOKU.out
            have H56:=Lib.hid hb6
            have HB6:=Lib.hid (below_on (below_on HB4.out H45.out) hb6)
            have KD3:=Lib.hid (KD.out ej a6 n6 cp6 w6 HB6.out hB6)
            rw [HDN.out hln] at KD3
            unfold DecC at KD3
            clear hb6 hln ho6 hB6
            go_wp2_with fail
            refine KD3.out.mono ?_
            rintro r w7 ⟨v,rfl,hvb,hRv,hb7⟩
            have H57:=Lib.hid (below_on H56.out hb7)
            have KS3:=Lib.hid (fun W (h:Below w7.heap.size w7 W)=>KS2.out v hvb W (H45.out.trans ((below_on H57.out h).mono H45.out.size)) (hRv.on h))
            have HB7:=Lib.hid (below_on HB6.out hb7)
            clear hvb hRv hb7
            generalize v.c=xc at KS3 ⊢
            obtain ⟨vk,vb,vneg,vma,vmn,vmc,ve,vs,vka,vkn,vkc,vva,vvn,vvc⟩:=xc
            dsimp only at KS3
            (try unfold Cel.val)
            obtain ⟨W8,hW8⟩:∃ x,w7.alloc (.cells #[.int .i64 vk,.bool vb,.bool vneg,.slice vma vmn vmc,.int .i64 ve,.string vs,.slice vka vkn vkc,.slice vva vvn vvc] 29)=x:=⟨_,rfl⟩
            have hb8:Below w7.heap.size w7 W8:=by rw [← hW8];exact below_newC _ _
            have H58:=Lib.hid (below_on H57.out hb8)
            obtain ⟨d0,d1,d2,d3,d4,d5,d6,d7⟩:=HY.out _ H58.out
            rw [← hW8] at d0 d1 d2 d3 d4 d5 d6 d7
            have HYV:=Lib.hid (fun W (h:Below W8.heap.size W8 W)=>(by rw [← hW8] at h;exact box8C w7 h:W.cell? ⟨w7.heap.size,0,none⟩=some (.int .i64 vk)∧W.cell? ⟨w7.heap.size,1,none⟩=some (.bool vb)∧W.cell? ⟨w7.heap.size,2,none⟩=some (.bool vneg)∧W.cell? ⟨w7.heap.size,3,none⟩=some (.slice vma vmn vmc)∧W.cell? ⟨w7.heap.size,4,none⟩=some (.int .i64 ve)∧W.cell? ⟨w7.heap.size,5,none⟩=some (.string vs)∧W.cell? ⟨w7.heap.size,6,none⟩=some (.slice vka vkn vkc)∧W.cell? ⟨w7.heap.size,7,none⟩=some (.slice vva vvn vvc)))
            have HW8:=Lib.hid hW8;have H78:=Lib.hid hb8
            clear hW8 hb8
            go_wp2_with fail
            rw [HW8.out]
            refine (KC2.out _ (H45.out.trans (H58.out.mono H45.out.size))).mono ?_
            rintro r w9 ⟨rfl,hb9⟩
            have H89:=Lib.hid hb9
            have H59:=Lib.hid (below_on H58.out hb9)
            have H79:=Lib.hid (below_on H78.out hb9)
            clear hb9 d0 d1 d2 d3 d4 d5 d6 d7
            obtain ⟨d0,d1,d2,d3,d4,d5,d6,d7⟩:=HY.out _ H59.out
            obtain ⟨e0,e1,e2,e3,e4,e5,e6,e7⟩:=HYV.out _ H89.out
            go_wp2_with fail
            refine (KS3.out _ H79.out).mono ?_
            rintro r wa ⟨rfl,hba⟩
            have HBA:=Lib.hid (below_on (below_on HB7.out H79.out) hba)
            clear hba
            go_wp2_with fail
            refine (AW.out _ HBA.out).mono ?_
            rintro r w9 ⟨rfl,hb9⟩
            have HB9:=Lib.hid hb9
            clear hb9
            go_wp2_with fail
            go_ret
            exact BoolBelow.mk rfl HB9.out
          · subst hen
            rintro r w6 ⟨rfl,hb6⟩
            have H56:=Lib.hid hb6
            have HB6:=Lib.hid (below_on (below_on HB4.out H45.out) hb6)
            have KD3:=Lib.hid (KD.out [] none 0 0 w6 HB6.out ⟨rfl,Nat.le_refl _,fun _ h=>(by cases h),RdV.nil _ _,.inl ⟨rfl,rfl⟩⟩)
            rw [pkDecode_nil] at KD3
            unfold DecC at KD3
            clear hb6
            go_wp2_with fail
            refine KD3.out.mono ?_
            rintro r w7 ⟨rfl,hb7⟩
            have H57:=Lib.hid (below_on H56.out hb7)
            have H58:=Lib.hid (below_on H57.out (below_newC w7 (.cells #[.int .i64 0,.bool false,.bool false,.slice none 0 0,.int .i64 0,.string ⟨#[]⟩,.slice none 0 0,.slice none 0 0] 29)))
            obtain ⟨d0,d1,d2,d3,d4,d5,d6,d7⟩:=HY.out _ H58.out
            have HB8:=Lib.hid (below_on (below_on HB6.out hb7) (below_newC w7 (.cells #[.int .i64 0,.bool false,.bool false,.slice none 0 0,.int .i64 0,.string ⟨#[]⟩,.slice none 0 0,.slice none 0 0] 29)))
            clear hb7
            go_wp2_with fail
            refine (KC2.out _ (H45.out.trans (H58.out.mono H45.out.size))).mono ?_
            rintro r w9 ⟨rfl,hb9⟩
            have HBA:=Lib.hid (below_on HB8.out hb9)
            clear hb9
            go_wp2_with fail
            refine (AW.out _ HBA.out).mono ?_
            rintro r wz ⟨rfl,hbz⟩
            have HBZ:=Lib.hid hbz
            clear hbz
            go_wp2_with fail
            go_ret
            exact BoolBelow.mk rfl HBZ.out
  · have h5z:(5000:Int)<(n:Int):=by omega
    go_enter Tryz.func8,Tryz.ntmps8
    go_wp2_with fail
    rw [HW1.out]
    refine (AW.out _ HB1.out).mono ?_
    rintro r w9 ⟨rfl,hb9⟩
    have HB9:=Lib.hid hb9
    clear hb9
    go_wp2_with fail
    go_ret
    exact BoolBelow.mk rfl HB9.out
end Go.Proofs.YtnacbakcalcgaaaGreatDoor
namespace Go.Proofs.YtnacbakcalcgaaaGreatDoor
open Go.ChangeShapes Go.WideShapes Go.ChangeAt Go.RowKit Go.Shelf
theorem own:ownKnob Tryz.prog.godebug=none:=by kernel_rfl
theorem laidOut:laidOutB Tryz.prog=true:=by kernel_rfl
theorem i64_bd {n:Int} (h:(Lit.int .i64 n).wf=true):-9223372036854775808≤n∧n≤9223372036854775807:=by
  simpa [Lit.wf,IntKind.min,IntKind.max,IntKind.signed,IntKind.bits] using h
theorem hargs_keep {H:Type} {enc:TypeId × Value→H} {t:TypeId} {W W':World} {v:Value} {d:DataW H} {ps:List MemPlace} (hr:Tryz.prog.readableRec t=true) (hrow:t<Tryz.prog.types.size)
    (h:DataW.Trod enc Tryz.prog W 0 (fun _=>true) true t v d ps) (hb:Below W.heap.size W W') (hlt:∀ x∈ps,x.block<W.heap.size) :
    DataW.Trod enc Tryz.prog W' 0 (fun b=>decide (b<W.heap.size)) true t v d ps:=Below.trod laidOut hr hrow h hb hlt
def ren8:Go.Shelf.Ren:=⟨fun n=>n,fun | 5=>5 | 119=>222 | 138=>224 | 139=>225 | n=>n,fun | 3=>1 | 4=>2 | n=>n⟩
theorem types8:U8Types Tryz.prog ren8:={ t5:=Tryz.underlying5,t119:=Tryz.underlying222,t138:=Tryz.underlying224,t139:=Tryz.underlying225 }
theorem extra8:U8Extra Tryz.prog ren8:={ n3:=by kernel_rfl,n4:=by kernel_rfl,y3:=by kernel_rfl,y4:=by kernel_rfl,c5:=by kernel_rfl,c119:=by kernel_rfl,c138:=by kernel_rfl }
theorem first_data:Rows.laid_unicode_utf8_first=Lib.firstData:=by kernel_rfl
theorem accept_data:(Rows.laid_unicode_utf8_acceptRanges:DataW Unit)=Lib.acceptData:=by kernel_rfl
theorem ut_of_laid {l:List (String × DataW Unit)} {W:World} (h:laidMet Tryz.prog l W) (h1:("unicode/utf8.first",Rows.laid_unicode_utf8_first)∈l) (h2:("unicode/utf8.acceptRanges",Rows.laid_unicode_utf8_acceptRanges)∈l):UT W:=by
  have r1:=Lib.laidMet.reads h h1
  have r2:=Lib.laidMet.reads h h2
  rw [first_data] at r1
  rw [accept_data] at r2
  exact utf8Tabs_of_readsT types8 extra8 r1 r2
end Go.Proofs.YtnacbakcalcgaaaGreatDoor
namespace Go.Proofs.YtnacbakcalcgaaaGreatDoor
open Go.ChangeShapes Go.WideShapes Go.ChangeAt Go.RowKit
def bruTab:List Int:=List.map (fun n:Nat=>(n:Int)) Lib.deBruijn32tab
theorem g_bru:Tryz.prog.globalNamed "math/bits.deBruijn32tab" = some 0:=by kernel_rfl
theorem g_bruT:(Tryz.prog.globals[0]?).map (·.type)=some 218:=by kernel_rfl
theorem bru_data:(Rows.laid_math_bits_deBruijn32tab:DataW Unit)=Lib.tabData .u8 bruTab:=by kernel_rfl
theorem db_of_laid {l:List (String × DataW Unit)} {W:World} (h:laidMet Tryz.prog (("math/bits.deBruijn32tab",Rows.laid_math_bits_deBruijn32tab)::l) W):DB W:=by
  rw [bru_data] at h
  have ht:=Lib.tabIs_of_head g_bru g_bruT Tryz.underlying218 Tryz.underlying5 (by kernel_rfl) (by kernel_rfl) h
  intro j hj
  unfold Lib.TabIs World.var? at ht
  rw [g_bru] at ht
  simp only [Option.bind_some] at ht
  split at ht
  · rename_i cs t0 f0 hb
    simp only [Option.some.injEq] at ht
    subst ht
    simp only [World.cell?,hb]
    have hl:Lib.deBruijn32tab.length=32:=by decide
    simp [bruTab,List.getD,show j<Lib.deBruijn32tab.length by omega]
  · cases ht
theorem wf_u8C {n:Int} (h:(Lit.int .u8 n).wf=true):0≤n∧n≤255:=by
  simpa [Lit.wf,IntKind.min,IntKind.max,IntKind.signed,IntKind.bits] using h
theorem cells_u8C:Tryz.prog.cellsOf 5=1:=by kernel_rfl
/-- An argument that is a slice of bytes. -/
theorem bytes_argC {H:Type} {enc:TypeId × Value→H} {W:World} {base:Nat} {v:Value} {d:DataW H} {p:List MemPlace}
    (hok:Value.okWide Tryz.prog W .any base 22 v) (h:DataW.Trod enc Tryz.prog W 0 (fun _=>true) true 22 v d p) :
    ∃ (ad:Option Addr) (len cap:Nat) (xs:List Nat),v=.slice ad len cap∧xs.length=len∧len≤cap∧Okb xs∧RdV W ad (bc xs)∧(ad=none→cap=0):=by
  obtain ⟨a0,len,cap,rfl⟩:=okWide_slice Tryz.underlying22 hok
  obtain ⟨fuel,hf⟩:=h
  rcases open_ints Tryz.underlying22 Tryz.underlying5 cells_u8C hf with ⟨hcs,hx⟩ | ⟨a,len',cap',zs,hcs,_,hl,hm,hz,hx,hcell,hwz⟩
  · simp [Value.cells] at hcs
    obtain ⟨rfl,rfl,rfl⟩:=hcs
    exact ⟨none,0,0,[],rfl,rfl,Nat.le_refl _,(fun _ h=>by cases h),RdV.nil _ _,fun _=>rfl⟩
  · simp [Value.cells] at hcs
    obtain ⟨rfl,rfl,rfl⟩:=hcs
    simp only [if_true] at hz
    refine ⟨some a,len,cap,(zs.take len).map Int.toNat,rfl,by simp;omega,hl,fun r hr=>?_,?_,fun h=>by cases h⟩
    · obtain ⟨z,hz,rfl⟩:=List.mem_map.1 hr
      have:=wf_u8C (hwz z (List.mem_of_mem_take hz))
      omega
    intro i hi
    have hi':i<len:=by simp [bc] at hi;omega
    have hil:i<zs.length:=by omega
    have hc:=hcell i hil
    have h0:=hcell 0 (by omega)
    obtain ⟨b,off,spot⟩:=a
    have hspot:spot=none:=by simpa [Addr.add] using World.cell?_spot h0
    subst hspot
    have e:(Addr.add ⟨b,off,none⟩ i)=⟨b,off+i,none⟩:=by unfold Addr.add;split <;> simp_all
    rw [e] at hc
    refine ⟨b,off,rfl,?_,?_⟩
    · rcases Nat.lt_or_ge b W.heap.size with h1 | h1
      · exact h1
      · simp [World.cell?,Array.getElem?_eq_none h1] at hc
    · have hw:=wf_u8C (hwz zs[i] (List.getElem_mem _))
      rw [hc]
      simp [bc,hi',hil]
      omega
end Go.Proofs.YtnacbakcalcgaaaGreatDoor
namespace Go.Proofs.YtnacbakcalcgaaaGreatDoor
open Go.ChangeShapes Go.WideShapes Go.ChangeAt Go.RowKit Go.Shelf
theorem cells_u32':Tryz.prog.cellsOf 51=1:=by kernel_rfl
theorem cells_string':Tryz.prog.cellsOf 9=1:=by kernel_rfl
theorem cells_tree:Tryz.prog.cellsOf 29=8:=by kernel_rfl
theorem bytes_u32:Tryz.prog.bytesOf 51=4:=by kernel_rfl
theorem bytes_string:Tryz.prog.bytesOf 9=16:=by kernel_rfl
theorem bytes_tree:Tryz.prog.bytesOf 29=120:=by kernel_rfl
theorem wf_u32' {n:Int} (h:(Lit.int .u32 n).wf=true):0≤n∧n≤4294967295:=by
  simpa [Lit.wf,IntKind.min,IntKind.max,IntKind.signed,IntKind.bits] using h
theorem reach_eq:reachBytes=140737488351232:=rfl
section
variable {H : Type} {enc : TypeId × Value → H} {W : World}
theorem limbs_in {v:Value} {fuel:Nat} {y:DataW H × List MemPlace}
    (hf:DataW.trod enc Tryz.prog W 0 (fun _=>true) true fuel 23 [v]=some y) (hz:∀ n∈y.1.weights Tryz.prog 23,n≤reachBytes) :
    ∃ ad len cap xs,v=.slice ad len cap∧xs.length=len∧len≤cap∧Okl xs∧Rd W ad xs∧len≤1000000000000000:=by
  rcases open_ints Tryz.underlying23 Tryz.underlying51 cells_u32' hf with ⟨hcs,hx⟩ | ⟨a,len',cap',zs,hcs,_,hl,hm,hzl,hx,hcell,hwz⟩
  · simp only [List.cons.injEq,and_true] at hcs
    exact ⟨none,0,0,[],hcs,rfl,Nat.le_refl _,Okl.nil,Rd.nil _ _,Nat.zero_le _⟩
  · simp only [List.cons.injEq,and_true] at hcs
    subst hcs
    simp only [if_true] at hzl
    refine ⟨some a,len',cap',(zs.take len').map Int.toNat,rfl,by simp;omega,hl,?_,?_,?_⟩
    · intro x hx
      obtain ⟨z,hz1,rfl⟩:=List.mem_map.1 hx
      have:=wf_u32' (hwz z (List.mem_of_mem_take hz1))
      rw [B32_eq];omega
    · intro i hi
      have hi':i<len':=by simp at hi;omega
      have hil:i<zs.length:=by omega
      have hc:=hcell i hil
      have h0:=hcell 0 (by omega)
      obtain ⟨b,off,spot⟩:=a
      have hspot:spot=none:=by simpa [Addr.add] using World.cell?_spot h0
      subst hspot
      have e:(Addr.add ⟨b,off,none⟩ i)=⟨b,off+i,none⟩:=by unfold Addr.add;split <;> simp_all
      rw [e] at hc
      refine ⟨b,off,rfl,?_,?_⟩
      · rcases Nat.lt_or_ge b W.heap.size with h1 | h1
        · exact h1
        · simp [World.cell?,Array.getElem?_eq_none h1] at hc
      · rw [hc]
        have hw:=wf_u32' (hwz (zs.getD i 0) (by simp [List.getD,hil]))
        have e2:((zs.take len').map Int.toNat).getD i 0=(zs.getD i 0).toNat:=by
          simp [List.getD,hi',hil]
        rw [e2]
        congr 2;omega
    · rcases DataW.trod_slice Tryz.underlying23 hf with ⟨h0,_⟩ | ⟨a2,len2,cap2,elems,rest,n2,_,h0,hy,_,_,_,h1,_⟩
      · cases h0
      · cases h0
        rw [hy] at hz
        have:=hz ((elems.length+rest.length)*Tryz.prog.bytesOf 51) (by simp [DataW.weights,Tryz.underlying23])
        rw [bytes_u32,reach_eq] at this
        omega
theorem texts_in {v:Value} {fuel:Nat} {y:DataW H × List MemPlace}
    (hf:DataW.trod enc Tryz.prog W 0 (fun _=>true) true fuel 26 [v]=some y) (hz:∀ n∈y.1.weights Tryz.prog 26,n≤reachBytes) :
    ∃ ad len cap l,v=.slice ad len cap∧l.length=len∧len≤cap∧len≤1000000000000000∧(∀ s∈l,s.size≤maxLen)∧RdV W ad (sv l):=by
  rcases open_strings Tryz.underlying26 Tryz.underlying9 cells_string' hf with ⟨hcs,hx⟩ | ⟨a,len',cap',ss,hcs,_,hl,hm,hzl,hx,hcell,hsz⟩
  · simp only [List.cons.injEq,and_true] at hcs
    exact ⟨none,0,0,[],hcs,rfl,Nat.le_refl _,Nat.zero_le _,(fun s hs=>by cases hs),RdV.nil _ _⟩
  · simp only [List.cons.injEq,and_true] at hcs
    subst hcs
    simp only [if_true] at hzl
    refine ⟨some a,len',cap',ss.take len',rfl,by simp;omega,hl,?_,fun s hs=>hsz s (List.mem_of_mem_take hs),?_⟩
    · rcases DataW.trod_slice Tryz.underlying26 hf with ⟨h0,_⟩ | ⟨a2,len2,cap2,elems,rest,n2,_,h0,hy,_,_,_,h1,_⟩
      · cases h0
      · cases h0
        rw [hy] at hz
        have:=hz ((elems.length+rest.length)*Tryz.prog.bytesOf 9) (by simp [DataW.weights,Tryz.underlying26])
        rw [bytes_string,reach_eq] at this
        omega
    · intro i hi
      have hi':i<len':=by simp [sv] at hi;omega
      have hil:i<ss.length:=by omega
      have hc:=hcell i hil
      have h0:=hcell 0 (by omega)
      obtain ⟨b,off,spot⟩:=a
      have hspot:spot=none:=by simpa [Addr.add] using World.cell?_spot h0
      subst hspot
      have e:(Addr.add ⟨b,off,none⟩ i)=⟨b,off+i,none⟩:=by unfold Addr.add;split <;> simp_all
      rw [e] at hc
      refine ⟨b,off,rfl,?_,?_⟩
      · rcases Nat.lt_or_ge b W.heap.size with h1 | h1
        · exact h1
        · simp [World.cell?,Array.getElem?_eq_none h1] at hc
      · rw [hc,sv_get _ _ (by simp;omega)]
        simp [List.getD,hi',hil]
theorem list_of {α:Type} {P:Nat→α→Prop}:∀ n,(∀ i,i<n→∃ x,P i x)→∃ l:List α,l.length=n∧∀ i (h:i<l.length),P i l[i]:=by
  intro n
  induction n with
  | zero=>intro _;exact ⟨[],rfl,fun i h=>by simp at h⟩
  | succ n ih =>
    intro h
    obtain ⟨l,h1,h2⟩:=ih (fun i hi=>h i (by omega))
    obtain ⟨x,hx⟩:=h n (by omega)
    refine ⟨l++[x],by simp [h1],fun i hi=>?_⟩
    by_cases hn:i<l.length
    · rw [List.getElem_append_left hn];exact h2 i hn
    · have:i=l.length:=by simp at hi;omega
      subst this
      simp;rw [h1];exact hx
theorem weights_all_mem {P:Program} {e:TypeId} {d:DataW H} {n:Nat} (hn:n∈d.weights P e):∀ {l:List (DataW H)},d∈l→n∈DataW.weightsAll P e l
  | [],h=>by cases h
  | x::l,h=>by
    rw [DataW.weightsAll,List.mem_append]
    rcases List.mem_cons.1 h with rfl | h
    · exact .inl hn
    · exact .inr (weights_all_mem hn h)
theorem tree_in:∀ (fuel:Nat) (cs:List Value) (y:DataW H × List MemPlace),DataW.trod enc Tryz.prog W 0 (fun _=>true) true fuel 29 cs=some y→(∀ n∈y.1.weights Tryz.prog 29,n≤reachBytes) →
    ∃ t:MT,cs=t.c.cells∧Rep W t:=by
  intro fuel
  induction fuel using Nat.strongRecOn with
  | ind fuel ih =>
    intro cs y hy hz
    obtain ⟨xs,n,rfl,rfl,hcl,hxl,hfs⟩:=DataW.trod_struct Tryz.underlying29 hy
    rw [cells_tree] at hcl
    simp only [List.size_toArray,List.length_cons,List.length_nil] at hxl
    obtain ⟨c0,c1,c2,c3,c4,c5,c6,c7,rfl⟩:∃ c0 c1 c2 c3 c4 c5 c6 c7,cs=[c0,c1,c2,c3,c4,c5,c6,c7]:=by
      match cs,hcl with
      | [c0,c1,c2,c3,c4,c5,c6,c7],_=>exact ⟨c0,c1,c2,c3,c4,c5,c6,c7,rfl⟩
    obtain ⟨x0,x1,x2,x3,x4,x5,rfl⟩:∃ x0 x1 x2 x3 x4 x5,xs=[x0,x1,x2,x3,x4,x5]:=by
      match xs,hxl with
      | [x0,x1,x2,x3,x4,x5],_=>exact ⟨x0,x1,x2,x3,x4,x5,rfl⟩
    have h0:=hfs 0 _ rfl
    have h1:=hfs 1 _ rfl
    have h2:=hfs 2 _ rfl
    have h3:=hfs 3 _ rfl
    have h4:=hfs 4 _ rfl
    have h5:=hfs 5 _ rfl
    have hw:∀ k,k∈DataW.weightsEach Tryz.prog [3,4,25,9,26,27] [x0.1,x1.1,x2.1,x3.1,x4.1,x5.1]→k≤reachBytes:=fun k hk=>hz k (by
      simp only [DataW.weights,Tryz.underlying29];exact hk)
    have hw2:∀ k∈x2.1.weights Tryz.prog 25,k≤reachBytes:=fun k hk=>hw k (by simp [DataW.weightsEach,hk])
    have hw4:∀ k∈x4.1.weights Tryz.prog 26,k≤reachBytes:=fun k hk=>hw k (by simp [DataW.weightsEach,hk])
    have hw5:∀ k∈x5.1.weights Tryz.prog 27,k≤reachBytes:=fun k hk=>hw k (by simp [DataW.weightsEach,hk])
    clear hz hw hfs hy
    replace h0:DataW.trod enc Tryz.prog W 0 (fun _=>true) true n 3 [c0]=some x0:=h0
    replace h1:DataW.trod enc Tryz.prog W 0 (fun _=>true) true n 4 [c1]=some x1:=h1
    replace h2:DataW.trod enc Tryz.prog W 0 (fun _=>true) true n 25 [c2,c3,c4]=some x2:=h2
    replace h3:DataW.trod enc Tryz.prog W 0 (fun _=>true) true n 9 [c5]=some x3:=h3
    replace h4:DataW.trod enc Tryz.prog W 0 (fun _=>true) true n 26 [c6]=some x4:=h4
    replace h5:DataW.trod enc Tryz.prog W 0 (fun _=>true) true n 27 [c7]=some x5:=h5
    obtain ⟨k,hk,_,hkw⟩:=DataW.trod_int Tryz.underlying3 h0
    obtain ⟨b,hb,_⟩:=DataW.trod_bool Tryz.underlying4 h1
    obtain ⟨s,hs,_,hsz⟩:=DataW.trod_string Tryz.underlying9 h3
    obtain ⟨ka,kn,kc,ks,hK,hk1,hk2,hk3,hk4,hk5⟩:=texts_in h4 hw4
    obtain ⟨zs,n2,rfl,rfl,_,hzl,hgs⟩:=DataW.trod_struct Tryz.underlying25 h2
    simp only [List.size_toArray,List.length_cons,List.length_nil] at hzl
    obtain ⟨z0,z1,z2,rfl⟩:∃ x0 x1 x2,zs=[x0,x1,x2]:=by
      match zs,hzl with
      | [x0,x1,x2],_=>exact ⟨x0,x1,x2,rfl⟩
    have g0:=hgs 0 _ rfl
    have g1:=hgs 1 _ rfl
    have g2:=hgs 2 _ rfl
    have hwn:∀ k∈z1.1.weights Tryz.prog 23,k≤reachBytes:=fun k hk=>hw2 k (by
      simp only [DataW.weights,Tryz.underlying25]
      show k∈DataW.weightsEach Tryz.prog [4,23,3] [z0.1,z1.1,z2.1]
      simp [DataW.weightsEach,hk])
    replace g0:DataW.trod enc Tryz.prog W 0 (fun _=>true) true n2 4 [c2]=some z0:=g0
    replace g1:DataW.trod enc Tryz.prog W 0 (fun _=>true) true n2 23 [c3]=some z1:=g1
    replace g2:DataW.trod enc Tryz.prog W 0 (fun _=>true) true n2 3 [c4]=some z2:=g2
    obtain ⟨neg,hneg,_⟩:=DataW.trod_bool Tryz.underlying4 g0
    obtain ⟨ma,mn,mc,ms,hM,hm1,hm2,hm3,hm4,hm5⟩:=limbs_in g1 hwn
    obtain ⟨e,he,_,hew⟩:=DataW.trod_int Tryz.underlying3 g2
    simp only [List.cons.injEq,and_true] at hk hb hs hneg he
    subst hk hb hs hneg he hK hM
    have hkb:=i64_bd hkw
    have heb:=i64_bd hew
    obtain ⟨va,vn,vc,vs,hV,hv1,hv2,hv3,hv4,hv5⟩:∃ va vn vc,∃ vs:List MT,c7=.slice va vn vc∧vs.length=vn∧vn≤vc∧vn≤1000000000000000∧RdV W va (flat (vs.map MT.c))∧∀ t∈vs,Rep W t:=by
      rcases DataW.trod_slice Tryz.underlying27 h5 with ⟨hcs,_⟩ | ⟨a,len,cap,elems,rest,n3,hn3,hcs,hy,_,hlc,_,hel,hat,_⟩
      · simp only [List.cons.injEq,and_true] at hcs
        exact ⟨none,0,0,[],hcs,rfl,Nat.le_refl _,Nat.zero_le _,RdV.nil _ _,nofun⟩
      · simp only [List.cons.injEq,and_true] at hcs
        rw [hy] at hw5
        have hwe:∀ d∈elems,∀ k∈d.1.weights Tryz.prog 29,k≤reachBytes:=fun d hd k hk=>hw5 k (by
          simp only [DataW.weights,Tryz.underlying27]
          rw [List.mem_cons,List.mem_append]
          exact .inr (.inl (weights_all_mem hk (List.mem_map_of_mem hd))))
        have hlen:=hw5 ((elems.length+rest.length)*Tryz.prog.bytesOf 29) (by simp [DataW.weights,Tryz.underlying27])
        rw [bytes_tree,reach_eq] at hlen
        have each:∀ i,i<len→∃ t:MT,W.cells? 0 (a.add (i*8)) 8=some t.c.cells∧Rep W t:=by
          intro i hi
          have h6:=hat i hi
          rw [cells_tree] at h6
          obtain ⟨y6,hy6⟩:∃ y6,elems[i]? = some y6:=⟨elems[i],by simp [hel,hi]⟩
          rw [hy6] at h6
          obtain ⟨cs6,h7,h8⟩:=Option.bind_eq_some_iff.1 h6
          obtain ⟨t,rfl,ht⟩:=ih n3 (by omega) cs6 y6 h8 (hwe y6 (List.mem_of_getElem? hy6))
          exact ⟨t,h7,ht⟩
        obtain ⟨l,hl1,hl2⟩:=list_of len each
        refine ⟨some a,len,cap,l,hcs,hl1,hlc,by omega,?_,?_⟩
        · intro q hq
          rw [flat_len,List.length_map,hl1] at hq
          have hi:q / 8<len:=by omega
          obtain ⟨h9,_⟩:=hl2 (q / 8) (by omega)
          obtain ⟨_,_,h10⟩:=World.cells?_some h9
          have h11:=h10 (q % 8) (Nat.mod_lt _ (by decide))
          obtain ⟨bk,off,spot⟩:=a
          have h12:(l[q / 8]'(by omega)).c.cells[q % 8]? = (flat (l.map MT.c))[q]?:=by
            have:=flat_get (l.map MT.c) (q / 8) (q % 8) (by simp;omega) (Nat.mod_lt _ (by decide))
            rw [show q / 8*8+q % 8=q by omega] at this
            rw [this];simp
          rw [h12] at h11
          have h13:∃ v,(flat (l.map MT.c))[q]? = some v:=⟨(flat (l.map MT.c))[q]'(by rw [flat_len,List.length_map,hl1];exact hq),by simp⟩
          obtain ⟨v13,h13⟩:=h13
          rw [h13] at h11 ⊢
          have hspot:spot=none:=by
            obtain ⟨_,_,k1⟩:=World.cells?_some (hl2 0 (by omega)).1
            have k2:=k1 0 (by decide)
            exact World.cell?_spot (a:=⟨bk,off,spot⟩) k2
          subst hspot
          have e1:(Addr.add (Addr.add ⟨bk,off,none⟩ (q / 8*8)) (q % 8))=⟨bk,off+q,none⟩:=by
            have a1:(Addr.add ⟨bk,off,none⟩ (q / 8*8))=⟨bk,off+q / 8*8,none⟩:=by unfold Addr.add;split <;> simp_all
            have a2:(Addr.add ⟨bk,off+q / 8*8,none⟩ (q % 8))=⟨bk,off+q / 8*8+q % 8,none⟩:=by unfold Addr.add;split <;> simp_all
            rw [a1,a2];congr 1;omega
          rw [e1] at h11
          refine ⟨bk,off,rfl,?_,h11⟩
          rcases Nat.lt_or_ge bk W.heap.size with h1 | h1
          · exact h1
          · simp [World.cell?,Array.getElem?_eq_none h1] at h11
        · intro t ht
          obtain ⟨i,hi,rfl⟩:=List.mem_iff_getElem.1 ht
          exact (hl2 i hi).2
    subst hV
    refine ⟨.mk ⟨k,b,neg,ma,mn,mc,e,s,ka,kn,kc,va,vn,vc⟩ ms ks vs,rfl,Rep.mk ⟨hm1,hm2,hm3,hm4,hk1,hk2,hk5,hv1,hv2,hv4,⟨hm5,hk3,hv3⟩,hsz,hk4,heb,hkb⟩ hv5⟩
/-- An argument that is a tree. -/
theorem tree_arg {base:Nat} {v:Value} {d:DataW H} {p:List MemPlace} (hok:Value.okWide Tryz.prog W .any base 29 v) (h:DataW.Trod enc Tryz.prog W 0 (fun _=>true) true 29 v d p)
    (hz:∀ n∈d.weights Tryz.prog 29,n≤reachBytes):∃ t:MT,v=t.c.val∧Rep W t:=by
  obtain ⟨cs,rfl,_⟩:=okWide_struct Tryz.underlying29 hok
  obtain ⟨fuel,hf⟩:=h
  obtain ⟨t,ht,hr⟩:=tree_in fuel _ _ hf hz
  refine ⟨t,?_,hr⟩
  have:cs.toList=t.c.cells:=ht
  rw [show cs=t.c.cells.toArray by rw [← this]]
  rfl
end
end Go.Proofs.YtnacbakcalcgaaaGreatDoor
