/- Texts of the claim. -/
import Derived.Test.YtnacbakcalcgaaaGreatDoorIG
set_option linter.unusedVariables false
set_option linter.unusedSimpArgs false
set_option maxHeartbeats 16000000
set_option maxRecDepth 100000
namespace Go.Proofs.YtnacbakcalcgaaaGreatDoor
open Go.RowKit Go.Lib Go.Sort
theorem packEdges_addNI (n:Int) (more:Int) (k:Nat) (w:World) (hk:n % 70=(k:Int)) (hk70:k<70) (hj:more % 3=2) (hn:-9223372036854775808≤n∧n≤9223372036854775807) (hm:-9223372036854775808≤more∧more≤9223372036854775807) (hbt:bitsN (2 ^ k+1)≤63) (hU:UT w) (hT:DB w) :
    Calls Tryz.prog 9 #[.int .i64 n,.bool true,.int .i64 more] w (BoolBelow true w):=by
  have AW:=Lib.hid (fun W (h:Below w.heap.size w W)=>show Calls Tryz.prog 25 #[] W (BoolBelow true w) from (awake12_any W (hU.below h) (hT.below h)).mono fun _ _ hp=>⟨hp.1,below_on h hp.2⟩)
  have KP:=Lib.hid (fun W=>place_any n 70 W hn (by omega))
  have KQ:=Lib.hid (fun W=>place_any more 3 W hm (by omega))
  rw [hk] at KP
  rw [hj] at KQ
  have HU:=Lib.hid hU;have HT:=Lib.hid hT
  clear hk hj hn hm hU hT
  have q1:(k:Int).tdiv 32=((k / 32:Nat):Int):=rfl
  have q2:(k:Int).tmod 32=((k % 32:Nat):Int):=rfl
  have hp80:2 ^ k<2 ^ 80:=Nat.pow_lt_pow_right (by decide) (by omega)
  obtain ⟨⟨sn0,M0,E0⟩,hr0⟩:=mkN_80 true hp80
  go_enter Tryz.func9,Tryz.ntmps9
  go_wp2_with fail
  refine (KP.out _).mono ?_
  rintro r wx ⟨rfl,hwx⟩
  replace hwx:=hwx.symm
  subst hwx
  go_wp2_with fail
  refine (KQ.out _).mono ?_
  rintro r wx ⟨rfl,hwx⟩
  replace hwx:=hwx.symm
  subst hwx
  go_wp2_with (at_make;refine wpl_make _ rfl _ _ rfl _ _ _ _ 4 rfl rfl rfl rfl (by omega) ?_;intro w1 hB1 hb1;have f1:=hB1.free (k / 32);have c1:w1.cell? ⟨w.heap.size,k / 32,none⟩=some (.int .u32 0):=edge_cell hk70 hB1)
  have hpw:=edge_pow32 k
  have HST:=Lib.hid (set_blk hB1 (k / 32) (2 ^ (k % 32)) (by rw [List.length_replicate];omega))
  obtain ⟨W2,hW2⟩:∃ x,put w.heap.size (edgeP k) [] w1=x:=⟨_,rfl⟩
  have HB2:Blk W2 w.heap.size (edgeP k) []:=by rw [← hW2];exact put_blk _ _ hB1.lt
  have hb2:Below w.heap.size w W2:=by rw [← hW2];exact put_below hb1 (Nat.le_refl _) _ _
  have HSET:Hid (w1.setCell ⟨w.heap.size,k / 32,none⟩ (.int .u32 ((2 ^ (k % 32):Nat):Int))=W2):=Lib.hid (by rw [HST.out];exact hW2)
  clear HST hW2
  rw [hpw,HSET.out]
  have hctx:Ctx W2 W2 [⟨.slice (some ⟨w.heap.size,0,none⟩) 4 4,4,2 ^ k,edgeP k⟩]:=(Ctx.begin W2).push (x:=⟨.slice (some ⟨w.heap.size,0,none⟩) 4 4,4,2 ^ k,edgeP k⟩) ⟨some ⟨w.heap.size,0,none⟩,4,by rw [edgeP_len],by rw [edgeP_len];exact Nat.le_refl _,by rw [edgeP_len];exact Nat.le_refl _,edgeP_ok k,HB2.rd_all,edgeP_val k hk70⟩
  have KM:=Lib.hid (refMake_80 hctx 0 rfl (by omega) true hp80 hr0)
  have H2:=Lib.hid hb2
  have HR2:=Lib.hid hr0
  clear hctx hB1 hb1 hb2 HB2 HSET hpw f1 c1 hr0
  refine KM.out.mono ?_
  rintro r w3 ⟨v3,rfl,hc3⟩
  obtain ⟨vad,vcap,rfl,v1,v2,v3,v4,_⟩:=hc3.get 0 rfl
  obtain ⟨lad,lcap,hlv,l1,l2,l3,l4,l5⟩:=hc3.get 1 rfl
  obtain ⟨nl,hnl⟩:∃ nl,(limbs M0).length=nl:=⟨_,rfl⟩
  simp only at v1 v2 v3 v4 hnl ⊢
  rw [hnl] at v1 ⊢
  have HE3:Hid (EdgeN w3 sn0 vad nl vcap M0 E0):=Lib.hid ⟨⟨hnl,v1,limbs_ok _,v4,mkN_chk HR2.out⟩⟩
  have HL3:=Lib.hid l4
  have H3:=Lib.hid (below_on H2.out hc3.below)
  obtain ⟨W4,hW4⟩:∃ x,w3.alloc (.cells #[.bool sn0,.slice vad nl vcap,.int .i64 E0] 25)=x:=⟨_,rfl⟩
  have hb4:Below w3.heap.size w3 W4:=by rw [← hW4];exact below_newC _ _
  have q4:W4.heap[w3.heap.size]? = some (.cells #[.bool sn0,.slice vad nl vcap,.int .i64 E0] 25):=by rw [← hW4];exact heap_alloc_new w3 _
  obtain ⟨bx,hbx⟩:∃ bx,w3.heap.size=bx:=⟨_,rfl⟩
  have HBX:Hid (bx<W4.heap.size):=Lib.hid (by rw [← hbx];exact (Array.getElem?_eq_some_iff.1 q4).1)
  have c0:W4.cell? ⟨bx,0,none⟩=some (.bool sn0):=by rw [← hbx];exact (boxC q4 0 _ rfl).1
  have c1:W4.cell? ⟨bx,1,none⟩=some (.slice vad nl vcap):=by rw [← hbx];exact (boxC q4 1 _ rfl).1
  have c2:W4.cell? ⟨bx,2,none⟩=some (.int .i64 E0):=by rw [← hbx];exact (boxC q4 2 _ rfl).1
  have HBX0:=HBX
  have g4:W4.heap.size=bx+1:=by rw [← hW4,← hbx];simp
  obtain ⟨W5,hW5⟩:∃ x,W4.alloc (.cells #[.int .u32 1] 51)=x:=⟨_,rfl⟩
  have hb5:Below W4.heap.size W4 W5:=by rw [← hW5];exact below_newC _ _
  have hB5:Blk W5 (bx+1) [1] []:=by rw [← hW5,← g4];exact heap_alloc_new W4 _
  simp only [Value.slice.injEq] at hlv
  obtain ⟨rfl,hl4,rfl⟩:=hlv
  have HW4:=Lib.hid hW4;have HW5:=Lib.hid hW5
  have KA:=Lib.hid (refAdd_any (some ⟨w.heap.size,0,none⟩) 4 4 (edgeP k) (some ⟨bx+1,0,none⟩) 1 1 [1] W5 (edgeP_len k) (Nat.le_refl _) (by omega) (edgeP_ok k) ((l4.below hb4).below hb5) rfl (Nat.le_refl _) (by omega) (by intro x hx;rw [List.mem_singleton.1 hx,B32_eq];decide) hB5.rd_all)
  rw [edgeP_val k hk70,show val [1]=1 from rfl] at KA
  have hN80:2 ^ k+1<2 ^ 80:=by
    have:2 ^ k<2 ^ 70:=Nat.pow_lt_pow_right (by decide) hk70
    omega
  have hNN:2 ^ k+1=2 ^ k+1∨2 ^ k+1+1=2 ^ k:=by have:0<2 ^ k:=Nat.pow_pos (by decide);omega
  obtain ⟨⟨sn,M,E⟩,hr1⟩:=mkN_80 true hN80
  have hnear:=edge_near hk70 hNN hr1
  obtain ⟨q,hq⟩:∃ q,numP sn M E=some q:=by
    have hf:=hnear.2 (by first | exact hbt | simpa using hbt)
    cases hq:numP sn M E with
    | none=>exact absurd hq hf
    | some q=>exact ⟨q,rfl⟩
  have HP:=Lib.hid hq
  clear hq
  have HB3W:=Lib.hid (below_on H3.out hb4)
  have HLW:=Lib.hid H3.out.size
  clear hc3 v1 v2 v3 v4 l1 l2 l3 l4 l5 hl4 hb4 hW4 hW5 hb5 hB5 hnl hp80 c0 c1 c2 hnear hNN KM
  have H45:Hid (Below W4.heap.size W4 W5):=Lib.hid (by rw [← HW5.out];exact below_newC _ _)
  have Q4:=Lib.hid q4
  clear q4
  generalize 2 ^ k+1=N at *
  go_wp2_with fail
  rw [HW4.out,HW5.out]
  refine KA.out.mono ?_
  rintro r w6 ⟨v6,rfl,ho6,hb6⟩
  obtain ⟨ladx,lcapx,rfl,p1,p2,_⟩:=ho6.view
  obtain ⟨ln,hln⟩:∃ ln,(limbs N).length=ln:=⟨_,rfl⟩
  rw [hln] at p1 ⊢
  have hln3:ln≤3:=by rw [← hln];exact limbs_length_le (Nat.lt_trans hN80 (by rw [B32_eq];decide))
  have HLO6:Hid (ListOk w6 (.slice ladx ln lcapx) ln N (limbs N)):=Lib.hid ⟨ladx,lcapx,by rw [hln],by rw [hln];exact p1,by rw [hln];exact Nat.le_refl _,limbs_ok _,p2,val_limbs _⟩
  have hctx:Ctx w6 w6 [⟨.slice ladx ln lcapx,ln,N,limbs N⟩]:=(Ctx.begin w6).push (x:=⟨.slice ladx ln lcapx,ln,N,limbs N⟩) HLO6.out
  have KM2:=Lib.hid (refMake_80 hctx 0 rfl (by omega) true hN80 hr1)
  have H46:=Lib.hid (below_on H45.out hb6)
  have HR1:=Lib.hid hr1
  clear ho6 hb6 p1 p2 hctx hr1 KA hN80
  go_wp2_with fail
  refine KM2.out.mono ?_
  rintro r w7 ⟨v7,rfl,hc7⟩
  obtain ⟨vad2,vcap2,rfl,x1,x2,x3,x4,x5⟩:=hc7.get 0 rfl
  obtain ⟨nl2,hnl2⟩:∃ nl2,(limbs M).length=nl2:=⟨_,rfl⟩
  simp only at x1 x2 x3 x4 x5 hnl2 ⊢
  rw [hnl2] at x1 ⊢
  have HLO7:Hid (ListOk w7 (.slice vad2 nl2 vcap2) nl2 M (limbs M)):=Lib.hid ⟨vad2,vcap2,by rw [hnl2],by rw [hnl2];exact x1,by rw [hnl2];exact Nat.le_refl _,limbs_ok _,x4,val_limbs _⟩
  have HLL7:=Lib.hid (HLO6.out.below hc7.below)
  have H47:=Lib.hid (below_on H46.out hc7.below)
  have hbw7:=HB3W.out.trans (H47.out.mono HB3W.out.size)
  have hbx4:bx<W4.heap.size:=by omega
  have q7:w7.heap[bx]? = some (.cells #[.bool sn0,.slice vad nl vcap,.int .i64 E0] 25):=by
    rw [H47.out.block bx hbx4,← hbx];exact Q4.out
  have y0:=(boxC q7 0 _ rfl).1
  have y1:=(boxC q7 1 _ rfl).1
  have y2:=(boxC q7 2 _ rfl).1
  have g0:=(boxC q7 0 _ rfl).2
  have g1:=(boxC q7 1 _ rfl).2
  have g2:=(boxC q7 2 _ rfl).2
  obtain ⟨W9,hW9⟩:∃ x,((w7.setCell ⟨bx,0,none⟩ (.bool sn)).setCell ⟨bx,1,none⟩ (.slice vad2 nl2 vcap2)).setCell ⟨bx,2,none⟩ (.int .i64 E)=x:=⟨_,rfl⟩
  have hbw:w.heap.size≤bx:=by have:=HLW.out;omega
  have hb9:Below w.heap.size w W9:=by rw [← hW9];exact ((hbw7.setCell hbw _).setCell hbw _).setCell hbw _
  have e0:W9.cell? ⟨bx,0,none⟩=some (.bool sn):=by rw [← hW9];simp [go_sem,y0,y1,y2]
  have e1:W9.cell? ⟨bx,1,none⟩=some (.slice vad2 nl2 vcap2):=by rw [← hW9];simp [go_sem,y0,y1,y2]
  have e2:W9.cell? ⟨bx,2,none⟩=some (.int .i64 E):=by rw [← hW9];simp [go_sem,y0,y1,y2]
  have box:∀ {v:Value} {L N:Nat} {xs:List Nat},ListOk w7 v L N xs→ListOk W9 v L N xs:=fun h=>by
    rw [← hW9]
    exact ((h.box y0 (by intro n h;cases h) _).box (x:=.slice vad nl vcap) (by rw [World.cell?_setCell_other (h:=by simp)];exact y1) (by intro n h;cases h) _).box (x:=.int .i64 E0) (by rw [World.cell?_setCell_other (h:=by simp),World.cell?_setCell_other (h:=by simp)];exact y2) (by intro n h;cases h) _
  obtain ⟨adn,capn,ev,n1,n2,n3,n4,n5⟩:=box HLO7.out
  obtain ⟨adl,capl,el,m1,m2,m3,m4,m5⟩:=box HLL7.out
  simp only [Value.slice.injEq] at ev el
  obtain ⟨rfl,evl,rfl⟩:=ev
  obtain ⟨rfl,ell,rfl⟩:=el
  have HE:Hid (EdgeN W9 sn vad2 nl2 vcap2 M E):=Lib.hid ⟨⟨hnl2,x1,limbs_ok _,n4,mkN_chk HR1.out⟩⟩
  have KB:=Lib.hid (refBits_any ladx ln lcapx (limbs N) W9 hln (by rw [← hln];exact m1) (by omega) (limbs_ok _) m4)
  rw [val_limbs] at KB
  have HBC:=Lib.hid hb9
  have HBX:Hid (bx<W9.heap.size):=Lib.hid (by rw [← hW9];simpa [World.setCell] using (Array.getElem?_eq_some_iff.1 q7).1)
  have HW9:=Lib.hid hW9
  have c0:=e0;have c1:=e1;have c2:=e2
  clear hc7 x1 x2 x3 x4 x5 box n1 n2 n3 n4 n5 m1 m2 m3 m4 m5 hb9 hbw7 q7 hW9 evl ell e0 e1 e2 hnl2 hln HLO7 HLL7 HLO6
  generalize bitsN N=bt at *
  have ein:decide ((bt:Int)≤63)=true:=by simp <;> omega
  go_upto_region 11 with fail
  rw [HW9.out]
  clear y0 y1 y2 g0 g1 g2
  go_wp2_with fail
  refine KB.out.mono ?_
  rintro r wB ⟨rfl,hbB⟩
  have c0:=(hbB.cell (p:=⟨bx,0,none⟩) HBX.out).trans c0
  have c1:=(hbB.cell (p:=⟨bx,1,none⟩) HBX.out).trans c1
  have c2:=(hbB.cell (p:=⟨bx,2,none⟩) HBX.out).trans c2
  have HBB:=Lib.hid (below_on HBC.out hbB)
  have HSB:=Lib.hid (Nat.lt_of_lt_of_le HBX.out hbB.size)
  have HEB:=Lib.hid (HE.out.on hbB)
  have KE:=(show Calls Tryz.prog 26 #[.agg #[.int .i64 3,.bool false,.bool sn,.slice vad2 nl2 vcap2,.int .i64 E,.string ⟨#[]⟩,.slice none 0 0,.slice none 0 0]] wB _ from encode_pk (numT sn vad2 nl2 vcap2 E (limbs M)) wB HEB.out.rep (HU.out.below HBB.out) (HT.out.below HBB.out))
  have KH:=Lib.hid (fun W (h:Below wB.heap.size wB W)=>has_pk sn vad2 nl2 vcap2 (limbs M) E W (HEB.out.on h).ok (HT.out.below (below_on HBB.out h)))
  have hval:val (limbs M)=M:=val_limbs M
  rw [hval] at KH
  rw [has_of rfl] at KH
  obtain ⟨he1,he2,he3⟩:=HEB.out.enc HP.out
  rw [HP.out] at KH
  rw [he1] at KE
  unfold EnP at KE
  have KEH:=Lib.hid KE
  have HOK:=Lib.hid he2
  have HDC:=Lib.hid he3
  clear hbB KE he1 he2 he3 KB hval
  go_wp2_with fail
  refine KEH.out.mono ?_
  rintro r w6 ⟨v6,rfl,ho6,hb6⟩
  obtain ⟨a6,n6,c6,rfl,hB6⟩:=BytA.own ho6 HOK.out
  have c0:=(hb6.cell (p:=⟨bx,0,none⟩) HSB.out).trans c0
  have c1:=(hb6.cell (p:=⟨bx,1,none⟩) HSB.out).trans c1
  have c2:=(hb6.cell (p:=⟨bx,2,none⟩) HSB.out).trans c2
  have HB6:=Lib.hid (below_on HBB.out hb6)
  have H6:=Lib.hid hb6
  have HS6:=Lib.hid (Nat.lt_of_lt_of_le HSB.out hb6.size)
  have KD:=Lib.hid (decode_pk a6 n6 c6 q w6 (HU.out.below HB6.out) hB6.ln hB6.cp hB6.ok hB6.rd hB6.shp)
  rw [HDC.out] at KD
  unfold DecC at KD
  clear ho6 hb6 hB6 KEH
  go_wp2_with fail
  refine KD.out.mono ?_
  rintro r w7 ⟨u,rfl,hub,hRu,hb7⟩
  obtain ⟨u1,u2,u3,u4⟩:=bnum_bare (ad:=none) (n:=nl2) (cap:=0) (by have hl:=HEB.out.ok.len;rw [hl];exact hub)
  have own:=hRu.own
  have hur:Rd w7 u.c.ma (limbs M):=by have:=own.mr;rw [u4] at this;exact this
  have huc:u.c.mn≤u.c.mc:=own.mc
  have hl:=HEB.out.ok.len
  rw [hl] at u2
  rw [u2] at huc
  have HUR:=Lib.hid hur;have HUC:=Lib.hid huc
  have H67:=Lib.hid (below_on H6.out hb7)
  have HB7:=Lib.hid (below_on HB6.out hb7)
  have c0:=(hb7.cell (p:=⟨bx,0,none⟩) HS6.out).trans c0
  have c1:=(hb7.cell (p:=⟨bx,1,none⟩) HS6.out).trans c1
  have c2:=(hb7.cell (p:=⟨bx,2,none⟩) HS6.out).trans c2
  have HS7:=Lib.hid (Nat.lt_of_lt_of_le HS6.out hb7.size)
  clear hub hRu hb7 own hur huc hl u4
  generalize u.c=uc at *
  obtain ⟨uk,ub,uneg,uma,umn,umc,ue,us,uka,ukn,ukc,uva,uvn,uvc⟩:=uc
  simp only at u1 u2 u3 HUR HUC
  subst u1 u2 u3
  unfold Cel.val
  obtain ⟨W8,hW8⟩:∃ x,w7.alloc (.cells #[.int .i64 uk,.bool ub,.bool uneg,.slice uma umn umc,.int .i64 ue,.string us,.slice uka ukn ukc,.slice uva uvn uvc] 29)=x:=⟨_,rfl⟩
  have hb8:Below w7.heap.size w7 W8:=by rw [← hW8];exact below_newC _ _
  have HY:=Lib.hid (fun W (h:Below W8.heap.size W8 W)=>by rw [← hW8] at h;exact box8C w7 h)
  have HW8:=Lib.hid hW8;have H78:=Lib.hid hb8
  have H68:=Lib.hid (below_on H67.out hb8)
  have c0:=(hb8.cell (p:=⟨bx,0,none⟩) HS7.out).trans c0
  have c1:=(hb8.cell (p:=⟨bx,1,none⟩) HS7.out).trans c1
  have c2:=(hb8.cell (p:=⟨bx,2,none⟩) HS7.out).trans c2
  have HS8:=Lib.hid (Nat.lt_of_lt_of_le HS7.out hb8.size)
  clear hW8 hb8 KD
  have KH8:=Lib.hid (KH.out W8 H68.out)
  go_upto_region 17 with fail
  rw [HW8.out]
  go_wp2_with fail
  refine KH8.out.mono ?_
  rintro r w9 ⟨rfl,hb9⟩
  have c0:=(hb9.cell (p:=⟨bx,0,none⟩) HS8.out).trans c0
  have c1:=(hb9.cell (p:=⟨bx,1,none⟩) HS8.out).trans c1
  have c2:=(hb9.cell (p:=⟨bx,2,none⟩) HS8.out).trans c2
  obtain ⟨d0,d1,d2,d3,d4,d5,d6,d7⟩:=HY.out _ hb9
  have KS:=Lib.hid (sameNum_any uneg uma umn umc (limbs M) ue vad2 vcap2 w9 HEB.out.ok.len HUC.out HEB.out.ok.cap (by have:=HEB.out.ok.n90;omega) (HUR.out.below (H78.out.trans (hb9.mono H78.out.size))) ((HEB.out.on (below_on H68.out hb9)).ok.rd))
  have HBA:=Lib.hid (below_on (below_on HB7.out H78.out) hb9)
  clear hb9 KH8 KH
  go_wp2_with fail
  refine KS.out.mono ?_
  rintro r wa ⟨rfl,hba⟩
  have HBZ:=Lib.hid (below_on HBA.out hba)
  clear hba
  go_wp2_with fail
  refine (AW.out _ HBZ.out).mono ?_
  rintro r w9 ⟨rfl,hb9⟩
  have HB9:=Lib.hid hb9
  clear hb9
  go_wp2_with fail
  go_ret
  exact BoolBelow.mk rfl HB9.out
theorem packEdges_addNO (n:Int) (more:Int) (k:Nat) (w:World) (hk:n % 70=(k:Int)) (hk70:k<70) (hj:more % 3=2) (hn:-9223372036854775808≤n∧n≤9223372036854775807) (hm:-9223372036854775808≤more∧more≤9223372036854775807) (hbt:¬ bitsN (2 ^ k+1)≤63) (hU:UT w) (hT:DB w) :
    Calls Tryz.prog 9 #[.int .i64 n,.bool true,.int .i64 more] w (BoolBelow true w):=by
  have AW:=Lib.hid (fun W (h:Below w.heap.size w W)=>show Calls Tryz.prog 25 #[] W (BoolBelow true w) from (awake12_any W (hU.below h) (hT.below h)).mono fun _ _ hp=>⟨hp.1,below_on h hp.2⟩)
  have KP:=Lib.hid (fun W=>place_any n 70 W hn (by omega))
  have KQ:=Lib.hid (fun W=>place_any more 3 W hm (by omega))
  rw [hk] at KP
  rw [hj] at KQ
  have HU:=Lib.hid hU;have HT:=Lib.hid hT
  clear hk hj hn hm hU hT
  have q1:(k:Int).tdiv 32=((k / 32:Nat):Int):=rfl
  have q2:(k:Int).tmod 32=((k % 32:Nat):Int):=rfl
  have hp80:2 ^ k<2 ^ 80:=Nat.pow_lt_pow_right (by decide) (by omega)
  obtain ⟨⟨sn0,M0,E0⟩,hr0⟩:=mkN_80 true hp80
  go_enter Tryz.func9,Tryz.ntmps9
  go_wp2_with fail
  refine (KP.out _).mono ?_
  rintro r wx ⟨rfl,hwx⟩
  replace hwx:=hwx.symm
  subst hwx
  go_wp2_with fail
  refine (KQ.out _).mono ?_
  rintro r wx ⟨rfl,hwx⟩
  replace hwx:=hwx.symm
  subst hwx
  go_wp2_with (at_make;refine wpl_make _ rfl _ _ rfl _ _ _ _ 4 rfl rfl rfl rfl (by omega) ?_;intro w1 hB1 hb1;have f1:=hB1.free (k / 32);have c1:w1.cell? ⟨w.heap.size,k / 32,none⟩=some (.int .u32 0):=edge_cell hk70 hB1)
  have hpw:=edge_pow32 k
  have HST:=Lib.hid (set_blk hB1 (k / 32) (2 ^ (k % 32)) (by rw [List.length_replicate];omega))
  obtain ⟨W2,hW2⟩:∃ x,put w.heap.size (edgeP k) [] w1=x:=⟨_,rfl⟩
  have HB2:Blk W2 w.heap.size (edgeP k) []:=by rw [← hW2];exact put_blk _ _ hB1.lt
  have hb2:Below w.heap.size w W2:=by rw [← hW2];exact put_below hb1 (Nat.le_refl _) _ _
  have HSET:Hid (w1.setCell ⟨w.heap.size,k / 32,none⟩ (.int .u32 ((2 ^ (k % 32):Nat):Int))=W2):=Lib.hid (by rw [HST.out];exact hW2)
  clear HST hW2
  rw [hpw,HSET.out]
  have hctx:Ctx W2 W2 [⟨.slice (some ⟨w.heap.size,0,none⟩) 4 4,4,2 ^ k,edgeP k⟩]:=(Ctx.begin W2).push (x:=⟨.slice (some ⟨w.heap.size,0,none⟩) 4 4,4,2 ^ k,edgeP k⟩) ⟨some ⟨w.heap.size,0,none⟩,4,by rw [edgeP_len],by rw [edgeP_len];exact Nat.le_refl _,by rw [edgeP_len];exact Nat.le_refl _,edgeP_ok k,HB2.rd_all,edgeP_val k hk70⟩
  have KM:=Lib.hid (refMake_80 hctx 0 rfl (by omega) true hp80 hr0)
  have H2:=Lib.hid hb2
  have HR2:=Lib.hid hr0
  clear hctx hB1 hb1 hb2 HB2 HSET hpw f1 c1 hr0
  refine KM.out.mono ?_
  rintro r w3 ⟨v3,rfl,hc3⟩
  obtain ⟨vad,vcap,rfl,v1,v2,v3,v4,_⟩:=hc3.get 0 rfl
  obtain ⟨lad,lcap,hlv,l1,l2,l3,l4,l5⟩:=hc3.get 1 rfl
  obtain ⟨nl,hnl⟩:∃ nl,(limbs M0).length=nl:=⟨_,rfl⟩
  simp only at v1 v2 v3 v4 hnl ⊢
  rw [hnl] at v1 ⊢
  have HE3:Hid (EdgeN w3 sn0 vad nl vcap M0 E0):=Lib.hid ⟨⟨hnl,v1,limbs_ok _,v4,mkN_chk HR2.out⟩⟩
  have HL3:=Lib.hid l4
  have H3:=Lib.hid (below_on H2.out hc3.below)
  obtain ⟨W4,hW4⟩:∃ x,w3.alloc (.cells #[.bool sn0,.slice vad nl vcap,.int .i64 E0] 25)=x:=⟨_,rfl⟩
  have hb4:Below w3.heap.size w3 W4:=by rw [← hW4];exact below_newC _ _
  have q4:W4.heap[w3.heap.size]? = some (.cells #[.bool sn0,.slice vad nl vcap,.int .i64 E0] 25):=by rw [← hW4];exact heap_alloc_new w3 _
  obtain ⟨bx,hbx⟩:∃ bx,w3.heap.size=bx:=⟨_,rfl⟩
  have HBX:Hid (bx<W4.heap.size):=Lib.hid (by rw [← hbx];exact (Array.getElem?_eq_some_iff.1 q4).1)
  have c0:W4.cell? ⟨bx,0,none⟩=some (.bool sn0):=by rw [← hbx];exact (boxC q4 0 _ rfl).1
  have c1:W4.cell? ⟨bx,1,none⟩=some (.slice vad nl vcap):=by rw [← hbx];exact (boxC q4 1 _ rfl).1
  have c2:W4.cell? ⟨bx,2,none⟩=some (.int .i64 E0):=by rw [← hbx];exact (boxC q4 2 _ rfl).1
  have HBX0:=HBX
  have g4:W4.heap.size=bx+1:=by rw [← hW4,← hbx];simp
  obtain ⟨W5,hW5⟩:∃ x,W4.alloc (.cells #[.int .u32 1] 51)=x:=⟨_,rfl⟩
  have hb5:Below W4.heap.size W4 W5:=by rw [← hW5];exact below_newC _ _
  have hB5:Blk W5 (bx+1) [1] []:=by rw [← hW5,← g4];exact heap_alloc_new W4 _
  simp only [Value.slice.injEq] at hlv
  obtain ⟨rfl,hl4,rfl⟩:=hlv
  have HW4:=Lib.hid hW4;have HW5:=Lib.hid hW5
  have KA:=Lib.hid (refAdd_any (some ⟨w.heap.size,0,none⟩) 4 4 (edgeP k) (some ⟨bx+1,0,none⟩) 1 1 [1] W5 (edgeP_len k) (Nat.le_refl _) (by omega) (edgeP_ok k) ((l4.below hb4).below hb5) rfl (Nat.le_refl _) (by omega) (by intro x hx;rw [List.mem_singleton.1 hx,B32_eq];decide) hB5.rd_all)
  rw [edgeP_val k hk70,show val [1]=1 from rfl] at KA
  have hN80:2 ^ k+1<2 ^ 80:=by
    have:2 ^ k<2 ^ 70:=Nat.pow_lt_pow_right (by decide) hk70
    omega
  have hNN:2 ^ k+1=2 ^ k+1∨2 ^ k+1+1=2 ^ k:=by have:0<2 ^ k:=Nat.pow_pos (by decide);omega
  obtain ⟨⟨sn,M,E⟩,hr1⟩:=mkN_80 true hN80
  have hnear:=edge_near hk70 hNN hr1
  have hq:numP sn M E=none:=by
    cases hq:numP sn M E with
    | none=>rfl
    | some q=>exact absurd (hnear.1 (by rw [hq];simp)) (by first | exact hbt | simpa using hbt)
  have HP:=Lib.hid hq
  clear hq
  have HB3W:=Lib.hid (below_on H3.out hb4)
  have HLW:=Lib.hid H3.out.size
  clear hc3 v1 v2 v3 v4 l1 l2 l3 l4 l5 hl4 hb4 hW4 hW5 hb5 hB5 hnl hp80 c0 c1 c2 hnear hNN KM
  have H45:Hid (Below W4.heap.size W4 W5):=Lib.hid (by rw [← HW5.out];exact below_newC _ _)
  have Q4:=Lib.hid q4
  clear q4
  generalize 2 ^ k+1=N at *
  go_wp2_with fail
  rw [HW4.out,HW5.out]
  refine KA.out.mono ?_
  rintro r w6 ⟨v6,rfl,ho6,hb6⟩
  obtain ⟨ladx,lcapx,rfl,p1,p2,_⟩:=ho6.view
  obtain ⟨ln,hln⟩:∃ ln,(limbs N).length=ln:=⟨_,rfl⟩
  rw [hln] at p1 ⊢
  have hln3:ln≤3:=by rw [← hln];exact limbs_length_le (Nat.lt_trans hN80 (by rw [B32_eq];decide))
  have HLO6:Hid (ListOk w6 (.slice ladx ln lcapx) ln N (limbs N)):=Lib.hid ⟨ladx,lcapx,by rw [hln],by rw [hln];exact p1,by rw [hln];exact Nat.le_refl _,limbs_ok _,p2,val_limbs _⟩
  have hctx:Ctx w6 w6 [⟨.slice ladx ln lcapx,ln,N,limbs N⟩]:=(Ctx.begin w6).push (x:=⟨.slice ladx ln lcapx,ln,N,limbs N⟩) HLO6.out
  have KM2:=Lib.hid (refMake_80 hctx 0 rfl (by omega) true hN80 hr1)
  have H46:=Lib.hid (below_on H45.out hb6)
  have HR1:=Lib.hid hr1
  clear ho6 hb6 p1 p2 hctx hr1 KA hN80
  go_wp2_with fail
  refine KM2.out.mono ?_
  rintro r w7 ⟨v7,rfl,hc7⟩
  obtain ⟨vad2,vcap2,rfl,x1,x2,x3,x4,x5⟩:=hc7.get 0 rfl
  obtain ⟨nl2,hnl2⟩:∃ nl2,(limbs M).length=nl2:=⟨_,rfl⟩
  simp only at x1 x2 x3 x4 x5 hnl2 ⊢
  rw [hnl2] at x1 ⊢
  have HLO7:Hid (ListOk w7 (.slice vad2 nl2 vcap2) nl2 M (limbs M)):=Lib.hid ⟨vad2,vcap2,by rw [hnl2],by rw [hnl2];exact x1,by rw [hnl2];exact Nat.le_refl _,limbs_ok _,x4,val_limbs _⟩
  have HLL7:=Lib.hid (HLO6.out.below hc7.below)
  have H47:=Lib.hid (below_on H46.out hc7.below)
  have hbw7:=HB3W.out.trans (H47.out.mono HB3W.out.size)
  have hbx4:bx<W4.heap.size:=by omega
  have q7:w7.heap[bx]? = some (.cells #[.bool sn0,.slice vad nl vcap,.int .i64 E0] 25):=by
    rw [H47.out.block bx hbx4,← hbx];exact Q4.out
  have y0:=(boxC q7 0 _ rfl).1
  have y1:=(boxC q7 1 _ rfl).1
  have y2:=(boxC q7 2 _ rfl).1
  have g0:=(boxC q7 0 _ rfl).2
  have g1:=(boxC q7 1 _ rfl).2
  have g2:=(boxC q7 2 _ rfl).2
  obtain ⟨W9,hW9⟩:∃ x,((w7.setCell ⟨bx,0,none⟩ (.bool sn)).setCell ⟨bx,1,none⟩ (.slice vad2 nl2 vcap2)).setCell ⟨bx,2,none⟩ (.int .i64 E)=x:=⟨_,rfl⟩
  have hbw:w.heap.size≤bx:=by have:=HLW.out;omega
  have hb9:Below w.heap.size w W9:=by rw [← hW9];exact ((hbw7.setCell hbw _).setCell hbw _).setCell hbw _
  have e0:W9.cell? ⟨bx,0,none⟩=some (.bool sn):=by rw [← hW9];simp [go_sem,y0,y1,y2]
  have e1:W9.cell? ⟨bx,1,none⟩=some (.slice vad2 nl2 vcap2):=by rw [← hW9];simp [go_sem,y0,y1,y2]
  have e2:W9.cell? ⟨bx,2,none⟩=some (.int .i64 E):=by rw [← hW9];simp [go_sem,y0,y1,y2]
  have box:∀ {v:Value} {L N:Nat} {xs:List Nat},ListOk w7 v L N xs→ListOk W9 v L N xs:=fun h=>by
    rw [← hW9]
    exact ((h.box y0 (by intro n h;cases h) _).box (x:=.slice vad nl vcap) (by rw [World.cell?_setCell_other (h:=by simp)];exact y1) (by intro n h;cases h) _).box (x:=.int .i64 E0) (by rw [World.cell?_setCell_other (h:=by simp),World.cell?_setCell_other (h:=by simp)];exact y2) (by intro n h;cases h) _
  obtain ⟨adn,capn,ev,n1,n2,n3,n4,n5⟩:=box HLO7.out
  obtain ⟨adl,capl,el,m1,m2,m3,m4,m5⟩:=box HLL7.out
  simp only [Value.slice.injEq] at ev el
  obtain ⟨rfl,evl,rfl⟩:=ev
  obtain ⟨rfl,ell,rfl⟩:=el
  have HE:Hid (EdgeN W9 sn vad2 nl2 vcap2 M E):=Lib.hid ⟨⟨hnl2,x1,limbs_ok _,n4,mkN_chk HR1.out⟩⟩
  have KB:=Lib.hid (refBits_any ladx ln lcapx (limbs N) W9 hln (by rw [← hln];exact m1) (by omega) (limbs_ok _) m4)
  rw [val_limbs] at KB
  have HBC:=Lib.hid hb9
  have HBX:Hid (bx<W9.heap.size):=Lib.hid (by rw [← hW9];simpa [World.setCell] using (Array.getElem?_eq_some_iff.1 q7).1)
  have HW9:=Lib.hid hW9
  have c0:=e0;have c1:=e1;have c2:=e2
  clear hc7 x1 x2 x3 x4 x5 box n1 n2 n3 n4 n5 m1 m2 m3 m4 m5 hb9 hbw7 q7 hW9 evl ell e0 e1 e2 hnl2 hln HLO7 HLL7 HLO6
  generalize bitsN N=bt at *
  have ein:decide ((bt:Int)≤63)=false:=by simp <;> omega
  go_upto_region 11 with fail
  rw [HW9.out]
  clear y0 y1 y2 g0 g1 g2
  go_wp2_with fail
  refine KB.out.mono ?_
  rintro r wB ⟨rfl,hbB⟩
  have c0:=(hbB.cell (p:=⟨bx,0,none⟩) HBX.out).trans c0
  have c1:=(hbB.cell (p:=⟨bx,1,none⟩) HBX.out).trans c1
  have c2:=(hbB.cell (p:=⟨bx,2,none⟩) HBX.out).trans c2
  have HBB:=Lib.hid (below_on HBC.out hbB)
  have HSB:=Lib.hid (Nat.lt_of_lt_of_le HBX.out hbB.size)
  have HEB:=Lib.hid (HE.out.on hbB)
  have KE:=(show Calls Tryz.prog 26 #[.agg #[.int .i64 3,.bool false,.bool sn,.slice vad2 nl2 vcap2,.int .i64 E,.string ⟨#[]⟩,.slice none 0 0,.slice none 0 0]] wB _ from encode_pk (numT sn vad2 nl2 vcap2 E (limbs M)) wB HEB.out.rep (HU.out.below HBB.out) (HT.out.below HBB.out))
  have KH:=Lib.hid (fun W (h:Below wB.heap.size wB W)=>has_pk sn vad2 nl2 vcap2 (limbs M) E W (HEB.out.on h).ok (HT.out.below (below_on HBB.out h)))
  have hval:val (limbs M)=M:=val_limbs M
  rw [hval] at KH
  rw [has_of rfl] at KH
  have he1:=HEB.out.enc_no HP.out
  rw [HP.out] at KH
  rw [he1] at KE
  unfold EnP at KE
  have KEH:=Lib.hid KE
  clear hbB KE he1 KB hval
  go_wp2_with fail
  refine KEH.out.mono ?_
  rintro r w6 ⟨rfl,hb6⟩
  have c0:=(hb6.cell (p:=⟨bx,0,none⟩) HSB.out).trans c0
  have c1:=(hb6.cell (p:=⟨bx,1,none⟩) HSB.out).trans c1
  have c2:=(hb6.cell (p:=⟨bx,2,none⟩) HSB.out).trans c2
  have HB6:=Lib.hid (below_on HBB.out hb6)
  have KH6:=Lib.hid (KH.out w6 hb6)
  clear hb6 KEH
  go_wp2_with fail
  refine KH6.out.mono ?_
  rintro r w7 ⟨rfl,hb7⟩
  have HBZ:=Lib.hid (below_on HB6.out hb7)
  clear hb7
  go_wp2_with fail
  refine (AW.out _ HBZ.out).mono ?_
  rintro r w9 ⟨rfl,hb9⟩
  have HB9:=Lib.hid hb9
  clear hb9
  go_wp2_with fail
  go_ret
  exact BoolBelow.mk rfl HB9.out
end Go.Proofs.YtnacbakcalcgaaaGreatDoor
