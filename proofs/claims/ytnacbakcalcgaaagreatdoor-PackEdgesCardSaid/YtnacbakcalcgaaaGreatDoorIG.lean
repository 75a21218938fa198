/- Texts of the claim. -/
import Derived.Test.YtnacbakcalcgaaaGreatDoorIF
set_option linter.unusedVariables false
set_option linter.unusedSimpArgs false
set_option maxHeartbeats 16000000
set_option maxRecDepth 100000
namespace Go.Proofs.YtnacbakcalcgaaaGreatDoor
open Go.RowKit Go.Lib Go.Sort
theorem numP_le {ng:Bool} {N:Nat} {e:Int} {q:List Nat} (h:numP ng N e=some q):q.length≤9:=by
  unfold numP at h
  split at h
  · cases h
  · cases h;exact mput_le _ _
theorem edge_cell {k:Nat} {w1:World} {g:Nat} (h:k<70) (hB:Blk w1 g (List.replicate 4 0) []):w1.cell? ⟨g,k / 32,none⟩=some (.int .u32 0):=by
  have:=hB.cell (k / 32) (by rw [List.length_replicate];omega)
  rw [this]
  have:k / 32=0∨k / 32=1∨k / 32=2:=by omega
  rcases this with e | e | e <;> rw [e] <;> rfl
theorem edge_pow32 (k:Nat):(2:Int) ^ (k % 32) % 4294967296=((2 ^ (k % 32):Nat):Int):=by
  have h1:2 ^ (k % 32)<2 ^ 32:=Nat.pow_lt_pow_right (by decide) (Nat.mod_lt _ (by decide))
  have h2:((2 ^ (k % 32):Nat):Int)=(2:Int) ^ (k % 32):=by simp
  rw [← h2]
  generalize 2 ^ (k % 32)=x at *
  have:(2:Nat) ^ 32=4294967296:=by decide
  omega
structure EdgeN (W:World) (sn:Bool) (ad:Option Addr) (n cap M:Nat) (E:Int):Prop where
  ok:NumOk W sn ad n cap (limbs M) E
theorem EdgeN.on {W W':World} {sn:Bool} {ad:Option Addr} {n cap M:Nat} {E:Int} (h:EdgeN W sn ad n cap M E) (hb:Below W.heap.size W W'):EdgeN W' sn ad n cap M E:=⟨h.ok.below hb⟩
theorem EdgeN.rep {W:World} {sn:Bool} {ad:Option Addr} {n cap M:Nat} {E:Int} (h:EdgeN W sn ad n cap M E):Rep W (numT sn ad n cap E (limbs M)):=by
  have h90:=h.ok.n90
  have hlo:=h.ok.lo
  exact numT_rep h.ok.len h.ok.cap (by omega) h.ok.ok h.ok.rd (by omega)
theorem EdgeN.check {W:World} {sn:Bool} {ad:Option Addr} {n cap M:Nat} {E:Int} (h:EdgeN W sn ad n cap M E):checkB (numT sn ad n cap E (limbs M))=true:=by
  have:=h.ok.len;subst this
  exact num_check h.ok.chk
theorem EdgeN.enc {W:World} {sn:Bool} {ad:Option Addr} {n cap M:Nat} {E:Int} (h:EdgeN W sn ad n cap M E) {q:List Nat} (hq:numP sn M E=some q):encoP (numT sn ad n cap E (limbs M))=.inl q∧Okb q∧pkDecode q=.inl (numT sn none n 0 E (limbs M)):=by
  have hp:encP (numT sn ad n cap E (limbs M))=some q:=by rw [num_enc,val_limbs];exact hq
  have hl:=numP_le hq
  have hco:=CohC.of h.rep
  refine ⟨encoP_ok h.check hp (by omega),encP_okb _ 1 q (SndC.of h.check).1 hco hp,?_⟩
  rw [decode_encP h.check hco hp (by omega)]
  congr 1
theorem EdgeN.enc_no {W:World} {sn:Bool} {ad:Option Addr} {n cap M:Nat} {E:Int} (h:EdgeN W sn ad n cap M E) (hq:numP sn M E=none):encoP (numT sn ad n cap E (limbs M))=.inr 6 :=
  encoP_none h.check (by rw [num_enc,val_limbs];exact hq)
theorem has_of {o:Option (Nat × Nat)} {ng:Bool} {N:Nat} {e:Int} (h:wordP ng N e=o):o.isSome=(numP ng N e).isSome:=by
  subst h;unfold numP;cases wordP ng N e with
  | none=>rfl
  | some q=>rfl
theorem packEdges_zero (n:Int) (neg:Bool) (more:Int) (k:Nat) (w:World) (hk:n % 70=(k:Int)) (hk70:k<70) (hj:more % 3=1) (hn:-9223372036854775808≤n∧n≤9223372036854775807) (hm:-9223372036854775808≤more∧more≤9223372036854775807) (hU:UT w) (hT:DB w) :
    Calls Tryz.prog 9 #[.int .i64 n,.bool neg,.int .i64 more] w (BoolBelow true w):=by
  have AW:=Lib.hid (fun W (h:Below w.heap.size w W)=>show Calls Tryz.prog 25 #[] W (BoolBelow true w) from (awake12_any W (hU.below h) (hT.below h)).mono fun _ _ hp=>⟨hp.1,below_on h hp.2⟩)
  have KP:=Lib.hid (fun W=>place_any n 70 W hn (by omega))
  have KQ:=Lib.hid (fun W=>place_any more 3 W hm (by omega))
  rw [hk] at KP
  rw [hj] at KQ
  have HU:=Lib.hid hU;have HT:=Lib.hid hT
  clear hk hj hn hm hU hT
  have q1:(k:Int).tdiv 32=((k / 32:Nat):Int):=rfl
  have q2:(k:Int).tmod 32=((k % 32:Nat):Int):=rfl
  have hp80:2 ^ k<2 ^ 80:=Nat.pow_lt_pow_right (by decide) (by omega)
  obtain ⟨⟨sn0,M0,E0⟩,hr0⟩:=mkN_80 neg hp80
  go_enter Tryz.func9,Tryz.ntmps9
  go_wp2_with fail
  refine (KP.out _).mono ?_
  rintro r wx ⟨rfl,hwx⟩
  replace hwx:=hwx.symm
  subst hwx
  go_wp2_with fail
  refine (KQ.out _).mono ?_
  rintro r wx ⟨rfl,hwx⟩
  replace hwx:=hwx.symm
  subst hwx
  go_wp2_with (at_make;refine wpl_make _ rfl _ _ rfl _ _ _ _ 4 rfl rfl rfl rfl (by omega) ?_;intro w1 hB1 hb1;have f1:=hB1.free (k / 32);have c1:w1.cell? ⟨w.heap.size,k / 32,none⟩=some (.int .u32 0):=edge_cell hk70 hB1)
  have hpw:=edge_pow32 k
  have HST:=Lib.hid (set_blk hB1 (k / 32) (2 ^ (k % 32)) (by rw [List.length_replicate];omega))
  obtain ⟨W2,hW2⟩:∃ x,put w.heap.size (edgeP k) [] w1=x:=⟨_,rfl⟩
  have HB2:Blk W2 w.heap.size (edgeP k) []:=by rw [← hW2];exact put_blk _ _ hB1.lt
  have hb2:Below w.heap.size w W2:=by rw [← hW2];exact put_below hb1 (Nat.le_refl _) _ _
  have HSET:Hid (w1.setCell ⟨w.heap.size,k / 32,none⟩ (.int .u32 ((2 ^ (k % 32):Nat):Int))=W2):=Lib.hid (by rw [HST.out];exact hW2)
  clear HST hW2
  rw [hpw,HSET.out]
  have hctx:Ctx W2 W2 [⟨.slice (some ⟨w.heap.size,0,none⟩) 4 4,4,2 ^ k,edgeP k⟩]:=(Ctx.begin W2).push (x:=⟨.slice (some ⟨w.heap.size,0,none⟩) 4 4,4,2 ^ k,edgeP k⟩) ⟨some ⟨w.heap.size,0,none⟩,4,by rw [edgeP_len],by rw [edgeP_len];exact Nat.le_refl _,by rw [edgeP_len];exact Nat.le_refl _,edgeP_ok k,HB2.rd_all,edgeP_val k hk70⟩
  have KM:=Lib.hid (refMake_80 hctx 0 rfl (by omega) neg hp80 hr0)
  have H2:=Lib.hid hb2
  have HR2:=Lib.hid hr0
  clear hctx hB1 hb1 hb2 HB2 HSET hpw f1 c1 hr0
  refine KM.out.mono ?_
  rintro r w3 ⟨v3,rfl,hc3⟩
  obtain ⟨vad,vcap,rfl,v1,v2,v3,v4,_⟩:=hc3.get 0 rfl
  obtain ⟨lad,lcap,hlv,l1,l2,l3,l4,l5⟩:=hc3.get 1 rfl
  obtain ⟨nl,hnl⟩:∃ nl,(limbs M0).length=nl:=⟨_,rfl⟩
  simp only at v1 v2 v3 v4 hnl ⊢
  rw [hnl] at v1 ⊢
  have HE3:Hid (EdgeN w3 sn0 vad nl vcap M0 E0):=Lib.hid ⟨⟨hnl,v1,limbs_ok _,v4,mkN_chk HR2.out⟩⟩
  have HL3:=Lib.hid l4
  have H3:=Lib.hid (below_on H2.out hc3.below)
  obtain ⟨W4,hW4⟩:∃ x,w3.alloc (.cells #[.bool sn0,.slice vad nl vcap,.int .i64 E0] 25)=x:=⟨_,rfl⟩
  have hb4:Below w3.heap.size w3 W4:=by rw [← hW4];exact below_newC _ _
  have q4:W4.heap[w3.heap.size]? = some (.cells #[.bool sn0,.slice vad nl vcap,.int .i64 E0] 25):=by rw [← hW4];exact heap_alloc_new w3 _
  obtain ⟨bx,hbx⟩:∃ bx,w3.heap.size=bx:=⟨_,rfl⟩
  have HBX:Hid (bx<W4.heap.size):=Lib.hid (by rw [← hbx];exact (Array.getElem?_eq_some_iff.1 q4).1)
  have c0:W4.cell? ⟨bx,0,none⟩=some (.bool sn0):=by rw [← hbx];exact (boxC q4 0 _ rfl).1
  have c1:W4.cell? ⟨bx,1,none⟩=some (.slice vad nl vcap):=by rw [← hbx];exact (boxC q4 1 _ rfl).1
  have c2:W4.cell? ⟨bx,2,none⟩=some (.int .i64 E0):=by rw [← hbx];exact (boxC q4 2 _ rfl).1
  have f0:W4.frozen? ⟨bx,0,none⟩=false:=by rw [← hbx];exact (boxC q4 0 _ rfl).2
  have HE:=Lib.hid (HE3.out.on hb4)
  have HBC:=Lib.hid (below_on H3.out hb4)
  simp only [Value.slice.injEq] at hlv
  obtain ⟨rfl,hl4,rfl⟩:=hlv
  have KB:=Lib.hid (refBits_any (some ⟨w.heap.size,0,none⟩) 4 4 (edgeP k) W4 (edgeP_len k) (Nat.le_refl _) (by omega) (edgeP_ok k) (l4.below hb4))
  rw [edgeP_val k hk70] at KB
  have hform:=edge_pow hk70 HR2.out
  obtain ⟨q,hq⟩:∃ q,numP sn0 M0 E0=some q:=by
    cases hq:numP sn0 M0 E0 with
    | none=>exact absurd hq hform
    | some q=>exact ⟨q,rfl⟩
  have HP:=Lib.hid hq
  have HW4:=Lib.hid hW4
  clear hform hq hc3 v1 v2 v3 v4 l1 l2 l3 l4 l5 hl4 q4 hb4 hW4 hnl f0 hp80
  generalize bitsN (2 ^ k)=bt at *
  go_wp2_with fail
  try rw [hbx]
  rw [HW4.out]
  go_wp2_with fail
  refine KB.out.mono ?_
  rintro r wB ⟨rfl,hbB⟩
  have c0:=(hbB.cell (p:=⟨bx,0,none⟩) HBX.out).trans c0
  have c1:=(hbB.cell (p:=⟨bx,1,none⟩) HBX.out).trans c1
  have c2:=(hbB.cell (p:=⟨bx,2,none⟩) HBX.out).trans c2
  have HBB:=Lib.hid (below_on HBC.out hbB)
  have HSB:=Lib.hid (Nat.lt_of_lt_of_le HBX.out hbB.size)
  have HEB:=Lib.hid (HE.out.on hbB)
  have KE:=(show Calls Tryz.prog 26 #[.agg #[.int .i64 3,.bool false,.bool sn0,.slice vad nl vcap,.int .i64 E0,.string ⟨#[]⟩,.slice none 0 0,.slice none 0 0]] wB _ from encode_pk (numT sn0 vad nl vcap E0 (limbs M0)) wB HEB.out.rep (HU.out.below HBB.out) (HT.out.below HBB.out))
  have KH:=Lib.hid (fun W (h:Below wB.heap.size wB W)=>has_pk sn0 vad nl vcap (limbs M0) E0 W (HEB.out.on h).ok (HT.out.below (below_on HBB.out h)))
  have hval:val (limbs M0)=M0:=val_limbs M0
  rw [hval] at KH
  rw [has_of rfl] at KH
  obtain ⟨he1,he2,he3⟩:=HEB.out.enc HP.out
  rw [HP.out] at KH
  rw [he1] at KE
  unfold EnP at KE
  have KEH:=Lib.hid KE
  have HOK:=Lib.hid he2
  have HDC:=Lib.hid he3
  clear hbB KE he1 he2 he3 KB hval
  go_wp2_with fail
  refine KEH.out.mono ?_
  rintro r w6 ⟨v6,rfl,ho6,hb6⟩
  obtain ⟨a6,n6,c6,rfl,hB6⟩:=BytA.own ho6 HOK.out
  have c0:=(hb6.cell (p:=⟨bx,0,none⟩) HSB.out).trans c0
  have c1:=(hb6.cell (p:=⟨bx,1,none⟩) HSB.out).trans c1
  have c2:=(hb6.cell (p:=⟨bx,2,none⟩) HSB.out).trans c2
  have HB6:=Lib.hid (below_on HBB.out hb6)
  have H6:=Lib.hid hb6
  have HS6:=Lib.hid (Nat.lt_of_lt_of_le HSB.out hb6.size)
  have KD:=Lib.hid (decode_pk a6 n6 c6 q w6 (HU.out.below HB6.out) hB6.ln hB6.cp hB6.ok hB6.rd hB6.shp)
  rw [HDC.out] at KD
  unfold DecC at KD
  clear ho6 hb6 hB6 KEH
  go_wp2_with fail
  refine KD.out.mono ?_
  rintro r w7 ⟨u,rfl,hub,hRu,hb7⟩
  obtain ⟨u1,u2,u3,u4⟩:=bnum_bare (ad:=none) (n:=nl) (cap:=0) (by have hl:=HEB.out.ok.len;rw [hl];exact hub)
  have own:=hRu.own
  have hur:Rd w7 u.c.ma (limbs M0):=by have:=own.mr;rw [u4] at this;exact this
  have huc:u.c.mn≤u.c.mc:=own.mc
  have hl:=HEB.out.ok.len
  rw [hl] at u2
  rw [u2] at huc
  have HUR:=Lib.hid hur;have HUC:=Lib.hid huc
  have H67:=Lib.hid (below_on H6.out hb7)
  have HB7:=Lib.hid (below_on HB6.out hb7)
  have c0:=(hb7.cell (p:=⟨bx,0,none⟩) HS6.out).trans c0
  have c1:=(hb7.cell (p:=⟨bx,1,none⟩) HS6.out).trans c1
  have c2:=(hb7.cell (p:=⟨bx,2,none⟩) HS6.out).trans c2
  have HS7:=Lib.hid (Nat.lt_of_lt_of_le HS6.out hb7.size)
  clear hub hRu hb7 own hur huc hl u4
  generalize u.c=uc at *
  obtain ⟨uk,ub,uneg,uma,umn,umc,ue,us,uka,ukn,ukc,uva,uvn,uvc⟩:=uc
  simp only at u1 u2 u3 HUR HUC
  subst u1 u2 u3
  unfold Cel.val
  obtain ⟨W8,hW8⟩:∃ x,w7.alloc (.cells #[.int .i64 uk,.bool ub,.bool uneg,.slice uma umn umc,.int .i64 ue,.string us,.slice uka ukn ukc,.slice uva uvn uvc] 29)=x:=⟨_,rfl⟩
  have hb8:Below w7.heap.size w7 W8:=by rw [← hW8];exact below_newC _ _
  have HY:=Lib.hid (fun W (h:Below W8.heap.size W8 W)=>by rw [← hW8] at h;exact box8C w7 h)
  have HW8:=Lib.hid hW8;have H78:=Lib.hid hb8
  have H68:=Lib.hid (below_on H67.out hb8)
  have c0:=(hb8.cell (p:=⟨bx,0,none⟩) HS7.out).trans c0
  have c1:=(hb8.cell (p:=⟨bx,1,none⟩) HS7.out).trans c1
  have c2:=(hb8.cell (p:=⟨bx,2,none⟩) HS7.out).trans c2
  have HS8:=Lib.hid (Nat.lt_of_lt_of_le HS7.out hb8.size)
  clear hW8 hb8 KD
  have KH8:=Lib.hid (KH.out W8 H68.out)
  go_upto_region 17 with fail
  rw [HW8.out]
  go_wp2_with fail
  refine KH8.out.mono ?_
  rintro r w9 ⟨rfl,hb9⟩
  have c0:=(hb9.cell (p:=⟨bx,0,none⟩) HS8.out).trans c0
  have c1:=(hb9.cell (p:=⟨bx,1,none⟩) HS8.out).trans c1
  have c2:=(hb9.cell (p:=⟨bx,2,none⟩) HS8.out).trans c2
  obtain ⟨d0,d1,d2,d3,d4,d5,d6,d7⟩:=HY.out _ hb9
  have KS:=Lib.hid (sameNum_any uneg uma umn umc (limbs M0) ue vad vcap w9 HEB.out.ok.len HUC.out HEB.out.ok.cap (by have:=HEB.out.ok.n90;omega) (HUR.out.below (H78.out.trans (hb9.mono H78.out.size))) ((HEB.out.on (below_on H68.out hb9)).ok.rd))
  have HBA:=Lib.hid (below_on (below_on HB7.out H78.out) hb9)
  clear hb9 KH8 KH
  go_wp2_with fail
  refine KS.out.mono ?_
  rintro r wa ⟨rfl,hba⟩
  have HBZ:=Lib.hid (below_on HBA.out hba)
  clear hba
  go_wp2_with fail
  refine (AW.out _ HBZ.out).mono ?_
  rintro r w9 ⟨rfl,hb9⟩
  have HB9:=Lib.hid hb9
  clear hb9
  go_wp2_with fail
  go_ret
  exact BoolBelow.mk rfl HB9.out
end Go.Proofs.YtnacbakcalcgaaaGreatDoor
