/- Texts of the claim. -/
import Derived.Test.YtnacbakcalcgaaaGreatDoorHJ
set_option linter.unusedVariables false
set_option linter.unusedSimpArgs false
set_option maxHeartbeats 16000000
set_option maxRecDepth 100000
namespace Go.Proofs.YtnacbakcalcgaaaGreatDoor
open Go.RowKit Go.Lib Go.Sort
theorem refP_idx0 (W:World):(Instr.index 46 (.agg #[.string ⟨#[193]⟩,.string ⟨#[212,1,2]⟩,.string ⟨#[202,127,128,0,0]⟩,.string ⟨#[203,127,248,0,0,0,0,0,0]⟩,.string ⟨#[129,1,2]⟩,.string ⟨#[]⟩,.string ⟨#[161,255]⟩,.string ⟨#[205,1]⟩,.string ⟨#[130,161,97,1,161,97,2]⟩]) (.int .i64 ((0:Nat):Int))).run Tryz.prog W=.ok (.string (refP.getD 0 ⟨#[]⟩)) W:=by kernel_rfl
theorem refP_idx1 (W:World):(Instr.index 46 (.agg #[.string ⟨#[193]⟩,.string ⟨#[212,1,2]⟩,.string ⟨#[202,127,128,0,0]⟩,.string ⟨#[203,127,248,0,0,0,0,0,0]⟩,.string ⟨#[129,1,2]⟩,.string ⟨#[]⟩,.string ⟨#[161,255]⟩,.string ⟨#[205,1]⟩,.string ⟨#[130,161,97,1,161,97,2]⟩]) (.int .i64 ((1:Nat):Int))).run Tryz.prog W=.ok (.string (refP.getD 1 ⟨#[]⟩)) W:=by kernel_rfl
theorem refP_idx2 (W:World):(Instr.index 46 (.agg #[.string ⟨#[193]⟩,.string ⟨#[212,1,2]⟩,.string ⟨#[202,127,128,0,0]⟩,.string ⟨#[203,127,248,0,0,0,0,0,0]⟩,.string ⟨#[129,1,2]⟩,.string ⟨#[]⟩,.string ⟨#[161,255]⟩,.string ⟨#[205,1]⟩,.string ⟨#[130,161,97,1,161,97,2]⟩]) (.int .i64 ((2:Nat):Int))).run Tryz.prog W=.ok (.string (refP.getD 2 ⟨#[]⟩)) W:=by kernel_rfl
theorem refP_idx3 (W:World):(Instr.index 46 (.agg #[.string ⟨#[193]⟩,.string ⟨#[212,1,2]⟩,.string ⟨#[202,127,128,0,0]⟩,.string ⟨#[203,127,248,0,0,0,0,0,0]⟩,.string ⟨#[129,1,2]⟩,.string ⟨#[]⟩,.string ⟨#[161,255]⟩,.string ⟨#[205,1]⟩,.string ⟨#[130,161,97,1,161,97,2]⟩]) (.int .i64 ((3:Nat):Int))).run Tryz.prog W=.ok (.string (refP.getD 3 ⟨#[]⟩)) W:=by kernel_rfl
theorem refP_idx4 (W:World):(Instr.index 46 (.agg #[.string ⟨#[193]⟩,.string ⟨#[212,1,2]⟩,.string ⟨#[202,127,128,0,0]⟩,.string ⟨#[203,127,248,0,0,0,0,0,0]⟩,.string ⟨#[129,1,2]⟩,.string ⟨#[]⟩,.string ⟨#[161,255]⟩,.string ⟨#[205,1]⟩,.string ⟨#[130,161,97,1,161,97,2]⟩]) (.int .i64 ((4:Nat):Int))).run Tryz.prog W=.ok (.string (refP.getD 4 ⟨#[]⟩)) W:=by kernel_rfl
theorem refP_idx5 (W:World):(Instr.index 46 (.agg #[.string ⟨#[193]⟩,.string ⟨#[212,1,2]⟩,.string ⟨#[202,127,128,0,0]⟩,.string ⟨#[203,127,248,0,0,0,0,0,0]⟩,.string ⟨#[129,1,2]⟩,.string ⟨#[]⟩,.string ⟨#[161,255]⟩,.string ⟨#[205,1]⟩,.string ⟨#[130,161,97,1,161,97,2]⟩]) (.int .i64 ((5:Nat):Int))).run Tryz.prog W=.ok (.string (refP.getD 5 ⟨#[]⟩)) W:=by kernel_rfl
theorem refP_idx6 (W:World):(Instr.index 46 (.agg #[.string ⟨#[193]⟩,.string ⟨#[212,1,2]⟩,.string ⟨#[202,127,128,0,0]⟩,.string ⟨#[203,127,248,0,0,0,0,0,0]⟩,.string ⟨#[129,1,2]⟩,.string ⟨#[]⟩,.string ⟨#[161,255]⟩,.string ⟨#[205,1]⟩,.string ⟨#[130,161,97,1,161,97,2]⟩]) (.int .i64 ((6:Nat):Int))).run Tryz.prog W=.ok (.string (refP.getD 6 ⟨#[]⟩)) W:=by kernel_rfl
theorem refP_idx7 (W:World):(Instr.index 46 (.agg #[.string ⟨#[193]⟩,.string ⟨#[212,1,2]⟩,.string ⟨#[202,127,128,0,0]⟩,.string ⟨#[203,127,248,0,0,0,0,0,0]⟩,.string ⟨#[129,1,2]⟩,.string ⟨#[]⟩,.string ⟨#[161,255]⟩,.string ⟨#[205,1]⟩,.string ⟨#[130,161,97,1,161,97,2]⟩]) (.int .i64 ((7:Nat):Int))).run Tryz.prog W=.ok (.string (refP.getD 7 ⟨#[]⟩)) W:=by kernel_rfl
theorem refP_idx8 (W:World):(Instr.index 46 (.agg #[.string ⟨#[193]⟩,.string ⟨#[212,1,2]⟩,.string ⟨#[202,127,128,0,0]⟩,.string ⟨#[203,127,248,0,0,0,0,0,0]⟩,.string ⟨#[129,1,2]⟩,.string ⟨#[]⟩,.string ⟨#[161,255]⟩,.string ⟨#[205,1]⟩,.string ⟨#[130,161,97,1,161,97,2]⟩]) (.int .i64 ((8:Nat):Int))).run Tryz.prog W=.ok (.string (refP.getD 8 ⟨#[]⟩)) W:=by kernel_rfl
theorem refP_idx (u:Nat) (W:World) (hu:u<9):(Instr.index 46 (.agg #[.string ⟨#[193]⟩,.string ⟨#[212,1,2]⟩,.string ⟨#[202,127,128,0,0]⟩,.string ⟨#[203,127,248,0,0,0,0,0,0]⟩,.string ⟨#[129,1,2]⟩,.string ⟨#[]⟩,.string ⟨#[161,255]⟩,.string ⟨#[205,1]⟩,.string ⟨#[130,161,97,1,161,97,2]⟩]) (.int .i64 (u:Int))).run Tryz.prog W=.ok (.string (refP.getD u ⟨#[]⟩)) W:=by
  have:u=0∨u=1∨u=2∨u=3∨u=4∨u=5∨u=6∨u=7∨u=8:=by omega
  rcases this with rfl | rfl | rfl | rfl | rfl | rfl | rfl | rfl | rfl
  · exact refP_idx0 W
  · exact refP_idx1 W
  · exact refP_idx2 W
  · exact refP_idx3 W
  · exact refP_idx4 W
  · exact refP_idx5 W
  · exact refP_idx6 W
  · exact refP_idx7 W
  · exact refP_idx8 W
theorem refP_size (u:Nat) (hu:u<9):(refP.getD u ⟨#[]⟩).size≤9:=by
  have:u=0∨u=1∨u=2∨u=3∨u=4∨u=5∨u=6∨u=7∨u=8:=by omega
  rcases this with rfl | rfl | rfl | rfl | rfl | rfl | rfl | rfl | rfl <;> decide
theorem packRefused_maina (la:Option Addr) (ln lc:Nat) (how:Int) (u:Nat) (hu:how % 9=(u:Int)) (hub:u<9) (h5:u<5) (w:World) (hh:-9223372036854775808≤how∧how≤9223372036854775807) (hU:UT w) (hT:DB w) (hn:ln≤40) (KM:Calls Tryz.prog 20 #[.slice la ln lc,.int .i64 3] w (MdP w)) :
    Calls Tryz.prog 11 #[.slice la ln lc,.int .i64 how] w (BoolBelow true w):=by
  have hgt:decide ((40:Int)<(ln:Int))=false:=decide_eq_false (by omega)
  have AW:=Lib.hid (fun W (h:Below w.heap.size w W)=>show Calls Tryz.prog 25 #[] W (BoolBelow true w) from (awake12_any W (hU.below h) (hT.below h)).mono fun _ _ hp=>⟨hp.1,below_on h hp.2⟩)
  have KT:=Lib.hid (fun W=>place_any how 9 W hh (by omega))
  rw [hu] at KT
  have HIX:=fun W=>refP_idx u W hub
  have hge:decide ((5:Int)≤(u:Int))=false:=by simp <;> omega
  have hwant:(if u<5 then (3:Int) else 2)=3:=by simp <;> omega
  have HRF:=Lib.hid (fun n (hn:n<1990)=>(by have:=refP_of n hn u hub;rw [hwant] at this;exact this:pkValue 64 (strN (refP.getD u ⟨#[]⟩)) n=.inr 3))
  have HSX9:=Lib.hid (refP_size u hub)
  have HU:=Lib.hid hU;have HT:=Lib.hid hT;have HKM:=Lib.hid KM
  clear hU hT hu hh KM hub h5 hwant
  unfold MdP at HKM
  generalize refP.getD u ⟨#[]⟩=sx at *
  go_enter Tryz.func11,Tryz.ntmps11
  go_wp2_with fail
  refine HKM.out.mono ?_
  rintro r w1 ⟨t,rfl,hR,⟨hck,hsn,hnd,hln⟩,hb1⟩
  have KE:=encode_pk t w1 hR (HU.out.below hb1) (HT.out.below hb1)
  have HB1:=Lib.hid hb1
  have HCO:=Lib.hid (show CohC t from CohC.of hR)
  have HSN:=Lib.hid hsn;have HND:=Lib.hid hnd;have HCK:=Lib.hid hck
  cases hL:encP t with
  | none =>
    rw [encoP_none hck hL] at KE
    unfold EnP at KE
    have KEH:=Lib.hid KE
    clear hR hck hsn hnd hln hb1 HKM KE hL
    generalize t.c=c at *
    obtain ⟨k,b0,neg,ma,mn,mc,e,s,ka,kn,kc,va,vn,vc⟩:=c
    unfold Cel.val at *
    go_wp2_with fail
    refine KEH.out.mono ?_
    rintro r w2 ⟨rfl,hb2⟩
    have HB2:=Lib.hid (below_on HB1.out hb2)
    clear hb2
    go_wp2_with fail
    refine (AW.out _ HB2.out).mono ?_
    rintro r w9 ⟨rfl,hb9⟩
    have HB9:=Lib.hid hb9
    clear hb9
    go_wp2_with fail
    go_ret
    exact BoolBelow.mk rfl HB9.out
  | some L =>
    have hl16:=hln L hL
    have HLN:=Lib.hid hl16
    have HOB:=Lib.hid (encP_okb t 2 L hsn (CohC.of hR) hL)
    have HTW:=Lib.hid (twiceP_bad hck (CohC.of hR) hL (by rw [List.length_append];omega))
    have HPB:=Lib.hid (fun x (hl:(L++x).length≤32000) (hx:pkValue 64 x (1+t.nodes)=.inr 3)=>pairP_bad hsn (CohC.of hR) hL hnd hl hx)
    have HRX:=Lib.hid (HRF.out (1+t.nodes) (by omega))
    rw [encoP_ok hck hL (by omega)] at KE
    unfold EnP at KE
    have KEH:=Lib.hid KE
    clear hR hck hsn hnd hln hb1 HKM KE hL HSN HND HCK HCO hl16
    generalize t.nodes=tn at *
    generalize t.c=c at *
    obtain ⟨k,b0,neg,ma,mn,mc,e,s,ka,kn,kc,va,vn,vc⟩:=c
    unfold Cel.val at *
    go_wp2_with fail
    refine KEH.out.mono ?_
    rintro r w2 ⟨v,rfl,ho,hb2⟩
    obtain ⟨ad2,cap2,rfl,hc2,hr2,_,_,h02⟩:=own_viewN ho
    obtain ⟨m,hm⟩:∃ m,L.length=m:=⟨_,rfl⟩
    rw [hm] at hc2 h02 ⊢
    have HM:=Lib.hid hm
    have HR2:=Lib.hid hr2
    have H02:=Lib.hid (fun h=>(h02 h).1)
    have HB2:=Lib.hid (below_on HB1.out hb2)
    clear ho hr2 hb2 KEH hm h02
    go_wp2_with fail
    refine (KT.out _).mono ?_
    rintro r wx ⟨rfl,hwx⟩
    replace hwx:=hwx.symm
    subst hwx
    go_wp2_with fail
    have hsx9:=HSX9.out
    have hlm:(strB L).size=m:=by rw [strB_size,HM.out]
    have hm31:m≤16000:=by rw [← HM.out];exact HLN.out
    have z1:¬ 9223372036854775807<1+(strB L).size:=by omega
    have hap:((⟨#[146]⟩:ByteArray)++strB L).size=1+m:=by rw [← hlm];simp [ByteArray.size_append];rfl
    have z2:¬ 9223372036854775807<((⟨#[146]⟩:ByteArray)++strB L).size+sx.size:=by omega
    have z3:¬ 9223372036854775807<1+(strB L).size+sx.size:=by omega
    have z4:¬ 9223372036854775807<1+m+sx.size:=by omega
    have HCV:=Lib.hid (conv_bv w2 ad2 m cap2 L HM.out HR2.out)
    rw [HCV.out]
    simp only [Result.andThen]
    rw [Oper.upon_value]
    go_wp2_with fail
    obtain ⟨S2,hS2⟩:∃ S2,(⟨#[146]⟩:ByteArray)++strB L++sx=S2:=⟨_,rfl⟩
    have HN2:Hid (strN S2=146::(L++strN sx)):=Lib.hid (by rw [← hS2,strN_append,strN_append,strN_strB HOB.out];rfl)
    rw [hS2]
    have HDC:Hid (pkDecode (strN S2)=.inr 3):=Lib.hid (by
      rw [HN2.out]
      exact HPB.out _ (by rw [List.length_append,strN_len];have:=HLN.out;omega) HRX.out)
    have hc2':=Lib.run_convert_string_bytes (P:=Tryz.prog) w2 9 22 5 S2 (u:=.string) Tryz.underlying9 Tryz.underlying22 Tryz.underlying5
    have hb3:=Lib.bytesWorld_below w2 5 S2
    have KD:=Lib.hid (decode_pk (some ⟨w2.heap.size,0,none⟩) S2.size (grownCap w2 S2.size 0 5) (strN S2) (Lib.bytesWorld w2 5 S2) ((HU.out.below HB2.out).below hb3) (strN_len S2) (grownCap_ge _ _ _ _) (strN_okb S2) (bytes_rd w2 S2) (.inr ⟨_,_,rfl⟩))
    rw [HDC.out] at KD
    unfold DecC at KD
    have HC2:=Lib.hid hc2'
    have HB3:=Lib.hid (below_on HB2.out hb3)
    have HR3:=Lib.hid (HR2.out.on hb3)
    clear hc2' hb3 hS2 hsx9 HCV z1 z2 z3 z4 hap hlm
    generalize Lib.bytesWorld w2 5 S2=W3 at *
    generalize grownCap w2 S2.size 0 5=cp at *
    rw [HC2.out]
    simp only [Result.andThen]
    rw [Oper.upon_value]
    go_wp2_with fail
    refine KD.out.mono ?_
    rintro r w4 ⟨rfl,hb4⟩
    have HR4:=Lib.hid (HR3.out.on hb4)
    have HB4:=Lib.hid (below_on HB3.out hb4)
    clear hb4 KD HC2
    obtain ⟨W5,hW5⟩:∃ x,w4.alloc (.cells #[.int .i64 0,.bool false,.bool false,.slice none 0 0,.int .i64 0,.string ⟨#[]⟩,.slice none 0 0,.slice none 0 0] 29)=x:=⟨_,rfl⟩
    have hb5:Below w4.heap.size w4 W5:=by rw [← hW5];exact below_newC _ _
    have q5:W5.heap[w4.heap.size]? = some (.cells #[.int .i64 0,.bool false,.bool false,.slice none 0 0,.int .i64 0,.string ⟨#[]⟩,.slice none 0 0,.slice none 0 0] 29):=by rw [← hW5];exact heap_alloc_new w4 _
    have HW5:=Lib.hid hW5
    have HR5:=Lib.hid (HR4.out.on hb5)
    have HB5:=Lib.hid (below_on HB4.out hb5)
    have Q5:=Lib.hid q5
    have HO0:=Lib.hid (World.ownsRow_nil W5 W5.heap.size 5 1)
    clear hW5 hb5 q5
    go_upto_region 12 with fail
    rw [HW5.out]
    go_wp2_with (at_builtin;refine wpl_putR W5 rfl _ _ rfl W5.heap.size (.slice none 0 0) 0 [] rfl HO0.out (Nat.le_refl _) ad2 m cap2 rfl L HM.out HR5.out H02.out (by omega) ?_)
    intro va6 w6 ho6 hg6
    try rw [Nat.zero_add] at ho6
    try rw [List.nil_append] at ho6
    have hb6:Below W5.heap.size W5 w6:=(Below.refl _ _).grown hg6 (Nat.le_refl _) (fun g hg=>by cases hg)
    have HR6:=Lib.hid (HR5.out.on hb6)
    have HO6:=Lib.hid ho6
    have H6S:=Lib.hid hb6.size
    have H56:=Lib.hid hb6
    clear ho6 hg6 hb6
    go_wp2_with (at_builtin;refine wpl_putR w6 rfl _ _ rfl W5.heap.size va6 m L rfl HO6.out H6S.out ad2 m cap2 rfl L HM.out HR6.out H02.out (by omega) ?_)
    intro va7 w7 ho7 hg7
    have hb7:Below W5.heap.size W5 w7:=H56.out.grown hg7 H6S.out (fun g hg=>(own_bd HO6.out hg).1)
    obtain ⟨a7,n7,c7,rfl,hB7⟩:=BytA.own ho7 (okb_append HOB.out HOB.out)
    have q7:=(hb7.block _ (Array.getElem?_eq_some_iff.1 Q5.out).1).trans Q5.out
    have HB7:=Lib.hid (below_on HB5.out hb7)
    have KD7:=Lib.hid (decode_pk a7 n7 c7 (L++L) w7 (HU.out.below HB7.out) hB7.ln hB7.cp hB7.ok hB7.rd hB7.shp)
    rw [HTW.out] at KD7
    unfold DecC at KD7
    have Q7:=Lib.hid q7
    clear ho7 hg7 hb7 hB7 q7
    go_wp2_with fail
    refine KD7.out.mono ?_
    rintro r w8 ⟨rfl,hb8⟩
    have hq7:=(Array.getElem?_eq_some_iff.1 Q7.out).1
    have hb9:=hb8.trans ((below_newC w8 (.cells #[.int .i64 0,.bool false,.bool false,.slice none 0 0,.int .i64 0,.string ⟨#[]⟩,.slice none 0 0,.slice none 0 0] 29)).mono hb8.size)
    have q9:=(hb9.block w4.heap.size hq7).trans Q7.out
    have HB8:=Lib.hid (below_on HB7.out hb8)
    have HB9:=Lib.hid (below_on HB7.out hb9)
    have y0:=(boxC q9 0 _ rfl).1
    have y1:=(boxC q9 1 _ rfl).1
    have y2:=(boxC q9 2 _ rfl).1
    have y3:=(boxC q9 3 _ rfl).1
    have y4:=(boxC q9 4 _ rfl).1
    have y5:=(boxC q9 5 _ rfl).1
    have y6:=(boxC q9 6 _ rfl).1
    have y7:=(boxC q9 7 _ rfl).1
    have KZ:=Lib.hid (fun W=>sameTree0 W)
    clear hb8 hb9 q9 KD7 hq7
    go_wp2_with fail
    refine (KZ.out _).mono ?_
    rintro r wa ⟨rfl,hba⟩
    have HBA:=Lib.hid (below_on HB9.out hba)
    clear hba
    go_wp2_with fail
    refine (AW.out _ HBA.out).mono ?_
    rintro r wz ⟨rfl,hbz⟩
    have HBZ:=Lib.hid hbz
    clear hbz
    go_wp2_with fail
    go_ret
    exact BoolBelow.mk rfl HBZ.out
theorem packRefused_mainb (la:Option Addr) (ln lc:Nat) (how:Int) (u:Nat) (hu:how % 9=(u:Int)) (hub:u<9) (h5:5≤u) (w:World) (hh:-9223372036854775808≤how∧how≤9223372036854775807) (hU:UT w) (hT:DB w) (hn:ln≤40) (KM:Calls Tryz.prog 20 #[.slice la ln lc,.int .i64 3] w (MdP w)) :
    Calls Tryz.prog 11 #[.slice la ln lc,.int .i64 how] w (BoolBelow true w):=by
  have hgt:decide ((40:Int)<(ln:Int))=false:=decide_eq_false (by omega)
  have AW:=Lib.hid (fun W (h:Below w.heap.size w W)=>show Calls Tryz.prog 25 #[] W (BoolBelow true w) from (awake12_any W (hU.below h) (hT.below h)).mono fun _ _ hp=>⟨hp.1,below_on h hp.2⟩)
  have KT:=Lib.hid (fun W=>place_any how 9 W hh (by omega))
  rw [hu] at KT
  have HIX:=fun W=>refP_idx u W hub
  have hge:decide ((5:Int)≤(u:Int))=true:=by simp <;> omega
  have hwant:(if u<5 then (3:Int) else 2)=2:=by simp <;> omega
  have HRF:=Lib.hid (fun n (hn:n<1990)=>(by have:=refP_of n hn u hub;rw [hwant] at this;exact this:pkValue 64 (strN (refP.getD u ⟨#[]⟩)) n=.inr 2))
  have HSX9:=Lib.hid (refP_size u hub)
  have HU:=Lib.hid hU;have HT:=Lib.hid hT;have HKM:=Lib.hid KM
  clear hU hT hu hh KM hub h5 hwant
  unfold MdP at HKM
  generalize refP.getD u ⟨#[]⟩=sx at *
  go_enter Tryz.func11,Tryz.ntmps11
  go_wp2_with fail
  refine HKM.out.mono ?_
  rintro r w1 ⟨t,rfl,hR,⟨hck,hsn,hnd,hln⟩,hb1⟩
  have KE:=encode_pk t w1 hR (HU.out.below hb1) (HT.out.below hb1)
  have HB1:=Lib.hid hb1
  have HCO:=Lib.hid (show CohC t from CohC.of hR)
  have HSN:=Lib.hid hsn;have HND:=Lib.hid hnd;have HCK:=Lib.hid hck
  cases hL:encP t with
  | none =>
    rw [encoP_none hck hL] at KE
    unfold EnP at KE
    have KEH:=Lib.hid KE
    clear hR hck hsn hnd hln hb1 HKM KE hL
    generalize t.c=c at *
    obtain ⟨k,b0,neg,ma,mn,mc,e,s,ka,kn,kc,va,vn,vc⟩:=c
    unfold Cel.val at *
    go_wp2_with fail
    refine KEH.out.mono ?_
    rintro r w2 ⟨rfl,hb2⟩
    have HB2:=Lib.hid (below_on HB1.out hb2)
    clear hb2
    go_wp2_with fail
    refine (AW.out _ HB2.out).mono ?_
    rintro r w9 ⟨rfl,hb9⟩
    have HB9:=Lib.hid hb9
    clear hb9
    go_wp2_with fail
    go_ret
    exact BoolBelow.mk rfl HB9.out
  | some L =>
    have hl16:=hln L hL
    have HLN:=Lib.hid hl16
    have HOB:=Lib.hid (encP_okb t 2 L hsn (CohC.of hR) hL)
    have HTW:=Lib.hid (twiceP_bad hck (CohC.of hR) hL (by rw [List.length_append];omega))
    have HPB:=Lib.hid (fun x (hl:(L++x).length≤32000) (hx:pkValue 64 x (1+t.nodes)=.inr 2)=>pairP_bad hsn (CohC.of hR) hL hnd hl hx)
    have HRX:=Lib.hid (HRF.out (1+t.nodes) (by omega))
    rw [encoP_ok hck hL (by omega)] at KE
    unfold EnP at KE
    have KEH:=Lib.hid KE
    clear hR hck hsn hnd hln hb1 HKM KE hL HSN HND HCK HCO hl16
    generalize t.nodes=tn at *
    generalize t.c=c at *
    obtain ⟨k,b0,neg,ma,mn,mc,e,s,ka,kn,kc,va,vn,vc⟩:=c
    unfold Cel.val at *
    go_wp2_with fail
    refine KEH.out.mono ?_
    rintro r w2 ⟨v,rfl,ho,hb2⟩
    obtain ⟨ad2,cap2,rfl,hc2,hr2,_,_,h02⟩:=own_viewN ho
    obtain ⟨m,hm⟩:∃ m,L.length=m:=⟨_,rfl⟩
    rw [hm] at hc2 h02 ⊢
    have HM:=Lib.hid hm
    have HR2:=Lib.hid hr2
    have H02:=Lib.hid (fun h=>(h02 h).1)
    have HB2:=Lib.hid (below_on HB1.out hb2)
    clear ho hr2 hb2 KEH hm h02
    go_wp2_with fail
    refine (KT.out _).mono ?_
    rintro r wx ⟨rfl,hwx⟩
    replace hwx:=hwx.symm
    subst hwx
    go_wp2_with fail
    have hsx9:=HSX9.out
    have hlm:(strB L).size=m:=by rw [strB_size,HM.out]
    have hm31:m≤16000:=by rw [← HM.out];exact HLN.out
    have z1:¬ 9223372036854775807<1+(strB L).size:=by omega
    have hap:((⟨#[146]⟩:ByteArray)++strB L).size=1+m:=by rw [← hlm];simp [ByteArray.size_append];rfl
    have z2:¬ 9223372036854775807<((⟨#[146]⟩:ByteArray)++strB L).size+sx.size:=by omega
    have z3:¬ 9223372036854775807<1+(strB L).size+sx.size:=by omega
    have z4:¬ 9223372036854775807<1+m+sx.size:=by omega
    have HCV:=Lib.hid (conv_bv w2 ad2 m cap2 L HM.out HR2.out)
    rw [HCV.out]
    simp only [Result.andThen]
    rw [Oper.upon_value]
    go_wp2_with fail
    obtain ⟨S2,hS2⟩:∃ S2,(⟨#[146]⟩:ByteArray)++strB L++sx=S2:=⟨_,rfl⟩
    have HN2:Hid (strN S2=146::(L++strN sx)):=Lib.hid (by rw [← hS2,strN_append,strN_append,strN_strB HOB.out];rfl)
    rw [hS2]
    have HDC:Hid (pkDecode (strN S2)=.inr 2):=Lib.hid (by
      rw [HN2.out]
      exact HPB.out _ (by rw [List.length_append,strN_len];have:=HLN.out;omega) HRX.out)
    have hc2':=Lib.run_convert_string_bytes (P:=Tryz.prog) w2 9 22 5 S2 (u:=.string) Tryz.underlying9 Tryz.underlying22 Tryz.underlying5
    have hb3:=Lib.bytesWorld_below w2 5 S2
    have KD:=Lib.hid (decode_pk (some ⟨w2.heap.size,0,none⟩) S2.size (grownCap w2 S2.size 0 5) (strN S2) (Lib.bytesWorld w2 5 S2) ((HU.out.below HB2.out).below hb3) (strN_len S2) (grownCap_ge _ _ _ _) (strN_okb S2) (bytes_rd w2 S2) (.inr ⟨_,_,rfl⟩))
    rw [HDC.out] at KD
    unfold DecC at KD
    have HC2:=Lib.hid hc2'
    have HB3:=Lib.hid (below_on HB2.out hb3)
    have HR3:=Lib.hid (HR2.out.on hb3)
    clear hc2' hb3 hS2 hsx9 HCV z1 z2 z3 z4 hap hlm
    generalize Lib.bytesWorld w2 5 S2=W3 at *
    generalize grownCap w2 S2.size 0 5=cp at *
    rw [HC2.out]
    simp only [Result.andThen]
    rw [Oper.upon_value]
    go_wp2_with fail
    refine KD.out.mono ?_
    rintro r w4 ⟨rfl,hb4⟩
    have HR4:=Lib.hid (HR3.out.on hb4)
    have HB4:=Lib.hid (below_on HB3.out hb4)
    clear hb4 KD HC2
    obtain ⟨W5,hW5⟩:∃ x,w4.alloc (.cells #[.int .i64 0,.bool false,.bool false,.slice none 0 0,.int .i64 0,.string ⟨#[]⟩,.slice none 0 0,.slice none 0 0] 29)=x:=⟨_,rfl⟩
    have hb5:Below w4.heap.size w4 W5:=by rw [← hW5];exact below_newC _ _
    have q5:W5.heap[w4.heap.size]? = some (.cells #[.int .i64 0,.bool false,.bool false,.slice none 0 0,.int .i64 0,.string ⟨#[]⟩,.slice none 0 0,.slice none 0 0] 29):=by rw [← hW5];exact heap_alloc_new w4 _
    have HW5:=Lib.hid hW5
    have HR5:=Lib.hid (HR4.out.on hb5)
    have HB5:=Lib.hid (below_on HB4.out hb5)
    have Q5:=Lib.hid q5
    have HO0:=Lib.hid (World.ownsRow_nil W5 W5.heap.size 5 1)
    clear hW5 hb5 q5
    go_upto_region 12 with fail
    rw [HW5.out]
    go_wp2_with (at_builtin;refine wpl_putR W5 rfl _ _ rfl W5.heap.size (.slice none 0 0) 0 [] rfl HO0.out (Nat.le_refl _) ad2 m cap2 rfl L HM.out HR5.out H02.out (by omega) ?_)
    intro va6 w6 ho6 hg6
    try rw [Nat.zero_add] at ho6
    try rw [List.nil_append] at ho6
    have hb6:Below W5.heap.size W5 w6:=(Below.refl _ _).grown hg6 (Nat.le_refl _) (fun g hg=>by cases hg)
    have HR6:=Lib.hid (HR5.out.on hb6)
    have HO6:=Lib.hid ho6
    have H6S:=Lib.hid hb6.size
    have H56:=Lib.hid hb6
    clear ho6 hg6 hb6
    go_wp2_with (at_builtin;refine wpl_putR w6 rfl _ _ rfl W5.heap.size va6 m L rfl HO6.out H6S.out ad2 m cap2 rfl L HM.out HR6.out H02.out (by omega) ?_)
    intro va7 w7 ho7 hg7
    have hb7:Below W5.heap.size W5 w7:=H56.out.grown hg7 H6S.out (fun g hg=>(own_bd HO6.out hg).1)
    obtain ⟨a7,n7,c7,rfl,hB7⟩:=BytA.own ho7 (okb_append HOB.out HOB.out)
    have q7:=(hb7.block _ (Array.getElem?_eq_some_iff.1 Q5.out).1).trans Q5.out
    have HB7:=Lib.hid (below_on HB5.out hb7)
    have KD7:=Lib.hid (decode_pk a7 n7 c7 (L++L) w7 (HU.out.below HB7.out) hB7.ln hB7.cp hB7.ok hB7.rd hB7.shp)
    rw [HTW.out] at KD7
    unfold DecC at KD7
    have Q7:=Lib.hid q7
    clear ho7 hg7 hb7 hB7 q7
    go_wp2_with fail
    refine KD7.out.mono ?_
    rintro r w8 ⟨rfl,hb8⟩
    have hq7:=(Array.getElem?_eq_some_iff.1 Q7.out).1
    have hb9:=hb8.trans ((below_newC w8 (.cells #[.int .i64 0,.bool false,.bool false,.slice none 0 0,.int .i64 0,.string ⟨#[]⟩,.slice none 0 0,.slice none 0 0] 29)).mono hb8.size)
    have q9:=(hb9.block w4.heap.size hq7).trans Q7.out
    have HB8:=Lib.hid (below_on HB7.out hb8)
    have HB9:=Lib.hid (below_on HB7.out hb9)
    have y0:=(boxC q9 0 _ rfl).1
    have y1:=(boxC q9 1 _ rfl).1
    have y2:=(boxC q9 2 _ rfl).1
    have y3:=(boxC q9 3 _ rfl).1
    have y4:=(boxC q9 4 _ rfl).1
    have y5:=(boxC q9 5 _ rfl).1
    have y6:=(boxC q9 6 _ rfl).1
    have y7:=(boxC q9 7 _ rfl).1
    have KZ:=Lib.hid (fun W=>sameTree0 W)
    clear hb8 hb9 q9 KD7 hq7
    go_wp2_with fail
    refine (KZ.out _).mono ?_
    rintro r wa ⟨rfl,hba⟩
    have HBA:=Lib.hid (below_on HB9.out hba)
    clear hba
    go_wp2_with fail
    refine (AW.out _ HBA.out).mono ?_
    rintro r wz ⟨rfl,hbz⟩
    have HBZ:=Lib.hid hbz
    clear hbz
    go_wp2_with fail
    go_ret
    exact BoolBelow.mk rfl HBZ.out
theorem packRefused_long (la:Option Addr) (ln lc:Nat) (how:Int) (w:World) (hU:UT w) (hT:DB w) (hn:40<ln):Calls Tryz.prog 11 #[.slice la ln lc,.int .i64 how] w (BoolBelow true w):=by
  have hgt:decide ((40:Int)<(ln:Int))=true:=decide_eq_true (by omega)
  have KW:=Lib.hid (awake12_any w hU hT)
  clear hU hT
  go_enter Tryz.func11,Tryz.ntmps11
  go_wp2_with fail
  refine KW.out.mono ?_
  rintro r w10 ⟨rfl,hb10⟩
  have HZ:=Lib.hid hb10
  clear hb10 KW
  go_wp2_with fail
  go_ret
  exact BoolBelow.mk rfl HZ.out
end Go.Proofs.YtnacbakcalcgaaaGreatDoor
namespace Go.Proofs.YtnacbakcalcgaaaGreatDoor
open Go.RowKit Go.Shelf
section
variable {P : Program}
theorem rl_arith (w:World) (ev:Operand→Value) (o:Oper) (op:BinOp) (ty ty':TypeId) (x y:Operand) (a b r:Int) (ho:o.op=.binOp op ty x y ty') (hx:ev x=.int .i64 a) (hy:ev y=.int .i64 b)
    (h:(binOp op ty (.int .i64 a) (.int .i64 b)).run P w=.ok (.int .i64 r) w):(execOp ev o).run P w=.ok (.value (.int .i64 r)) w:=by
  simp [execOp,ho,hx,hy,eqGuard,h,Result.andThen]
theorem ar_quo (w:World) (ty:TypeId) (A B:Nat) (hA:A≤1073741824) (hB:0<B) (hB2:B≤1000):(binOp .quo ty (.int .i64 (A:Int)) (.int .i64 (B:Int))).run P w=.ok (.int .i64 ((A / B:Nat):Int)) w:=by
  have h2:A / B≤A:=Nat.div_le_self _ _
  have h3:((A / B:Nat):Int)=(A:Int) / (B:Int):=by simp
  have h4:IntKind.i64.wrap ((A:Int) / (B:Int))=(A:Int) / (B:Int):=by
    rw [← h3]
    generalize A / B=q at h2 ⊢
    exact IntWalk.i64_in _ (by omega)
  simp [binOp,Op.intDiv,go_sem]
  rw [if_neg (by omega),h4]
theorem ar_rem (w:World) (ty:TypeId) (A B:Nat) (hA:A≤1073741824) (hB:0<B) (hB2:B≤1000):(binOp .rem ty (.int .i64 (A:Int)) (.int .i64 (B:Int))).run P w=.ok (.int .i64 ((A % B:Nat):Int)) w:=by
  simp [binOp,Op.intDiv,go_sem]
  rw [if_neg (by omega),Int.tmod_eq_emod_of_nonneg (by omega)]
theorem ar_mul (w:World) (ty:TypeId) (A B:Nat) (hA:A≤1000) (hB2:B≤1000):(binOp .mul ty (.int .i64 (A:Int)) (.int .i64 (B:Int))).run P w=.ok (.int .i64 ((A*B:Nat):Int)) w:=by
  have h2:A*B≤1000*1000:=Nat.mul_le_mul hA hB2
  have h4:IntKind.i64.wrap ((A:Int)*(B:Int))=(A:Int)*(B:Int):=by rw [← Int.natCast_mul];exact IntWalk.i64_in _ (by omega)
  simp [binOp,Op.intArith,go_sem]
  exact h4
theorem ar_add (w:World) (ty:TypeId) (A B:Nat) (hA:A≤1073741824) (hB2:B≤1073741824):(binOp .add ty (.int .i64 (A:Int)) (.int .i64 (B:Int))).run P w=.ok (.int .i64 ((A+B:Nat):Int)) w:=by
  simp [binOp,Op.intArith,go_sem]
  exact IntWalk.i64_in _ (by omega)
end
section
variable {P : Program} {ops : Array Oper} {Q : Exit → Act → World → Prop}
theorem si1 {A:Prop} {L:Array Bool} (i a:Nat) (ha:(i == a)=false) (M:Prop):(M∧((L.setIfInBounds i true).getD a false=false→A)) ↔ (M∧(L.getD a false=false→A)):=by
  rw [getD_set_ne false (by simpa using ha)]
theorem rl_call {a:Act} {w:World} {K:Act→World→Prop} (i:Nat) (o:Oper) (n:Nat) (fn:Func) (f:Operand) (args:Array Operand) (ts:Array TypeId) (vs:Array Value) (dd:Option Tmp)
    (hi:ops[i]? = some o) (hdd:o.dst=dd) (hw:Region.wanted o (yielded ops a.tmps)=true)
    (ho:o.op=.call { callee:=.value f,args:=args,argTypes:=ts }) (hff:a.eval f=.func (.func n) #[] #[]) (hfn:P.funcs[n]? = some fn) (hn:(fn.name == "runtime.NumGoroutine")=false) (hb:fn.body.isNone=false)
    (hv:args.map a.eval=vs) {Post:Ending→World→Prop} (C:Calls P n vs w Post) (h:∀ r w',Post r w'→∃ v,r=.returned v∧K (a.put dd v) w'):wpOp P ops Q i K a w:=by
  subst hdd
  unfold wpOp
  simp only [hi]
  rw [if_pos hw]
  refine .inl ?_
  unfold Oper.wp
  rw [rg_enter w a.eval o n fn f args ts vs ho hff hfn hn hb hv,Oper.upon_enter]
  exact C.mono (fun r w' hp=>by obtain ⟨v,rfl,hk⟩:=h r w' hp;exact hk)
theorem rl_ldrun (w:World) (ev:Operand→Value) (o:Oper) (ty:TypeId) (x:Operand) (ad:Addr) (v:Value) (d:TypeDesc) (ho:o.op=.load ty x) (hx:ev x=.pointer (some ad)) (hu:P.underlying ty=some d) (hd:d.isRow=false) (hc:w.cell? ad=some v) :
    (execOp ev o).run P w=.ok (.value v) w:=by
  unfold execOp
  simp only [ho,hx,Sem.run_bind,Sem.run_pure,Result.andThen_ok,rg_run1 w ad ty v d hc hu hd]
theorem setCells_put0 (w:World) (b:Nat) (c:Cel):w.setCells b 0 c.cells=put0 w b c:=by
  simp [World.setCells,Cel.cells,put0]
theorem rl_storeT {a:Act} {w:World} {K:Act→World→Prop} (i:Nat) (o:Oper) (ty:TypeId) (x y:Operand) (b:Nat) (c c0:Cel) (d:TypeDesc) (hi:ops[i]? = some o) (hdd:o.dst=none) (hw:Region.wanted o (yielded ops a.tmps)=true)
    (ho:o.op=.store ty x y) (hx:a.eval x=.pointer (some ⟨b,0,none⟩)) (hy:a.eval y=c.val) (h1:(P.info? ty).map (·.size)=some 8) (hb:BoxT w b c0)
    (h:K a (put0 w b c)):wpOp P ops Q i K a w:=by
  unfold wpOp
  simp only [hi]
  rw [if_pos hw]
  refine .inl ?_
  have h8:c.cells.length=8:=by simp [Cel.cells]
  refine wp_store_mid ty x y ho b 0 c.cells.toArray hx hy ?_ (by simpa [h8] using h1) (all_oneCell_toArray (cel_one c)) ?_
  · intro j hj
    rw [List.size_toArray,h8] at hj
    refine ⟨?_,by rw [Nat.zero_add];exact hb.free j⟩
    rw [Nat.zero_add]
    obtain ⟨x0,x1,x2,x3,x4,x5,x6,x7⟩:=hb.cells
    match j,hj with
    | 0,_=>rw [x0];rfl
    | 1,_=>rw [x1];rfl
    | 2,_=>rw [x2];rfl
    | 3,_=>rw [x3];rfl
    | 4,_=>rw [x4];rfl
    | 5,_=>rw [x5];rfl
    | 6,_=>rw [x6];rfl
    | 7,_=>rw [x7];rfl
  · rw [hdd]
    have:=setCells_put0 w b c
    simp only [List.toList_toArray]
    rw [this]
    exact h
end
def nms8:List ByteArray:=[⟨#[97]⟩,⟨#[98]⟩,⟨#[99]⟩,⟨#[100,100]⟩,⟨#[101]⟩,⟨#[]⟩,⟨#[120,47,121]⟩,⟨#[122,126]⟩]
def NamesP (w:World) (e:Ending) (w':World):Prop:=e=.returned (.slice (some ⟨w.heap.size,0,none⟩) 8 8)∧w'=w.alloc (.cells (sv nms8).toArray 9)
theorem names_any (w:World):Calls Tryz.prog 79 #[] w (NamesP w):=by
  go_enter Tryz.func79,Tryz.ntmps79
  go_wp2
  go_ret
  exact ⟨rfl,rfl⟩
theorem nms8_sm:∀ j,j<8→okN (nms8.getD j ByteArray.empty)=true∧(nms8.getD j ByteArray.empty).size≤3:=by decide +kernel
theorem nms8_ok:∀ j,j<8→okN (nms8.getD j ByteArray.empty)=true:=by decide +kernel
structure ObS (W8:World) (b8 d n:Nat) (t:MT) (wr:World):Prop where
  but:But b8 W8 wr
  lt:b8<W8.heap.size
  box:BoxT wr b8 t.c
  obj:∃ ka kc va vc,t.c=objC7 ka t.k.length kc va t.k.length vc
  tm:t.m=[]
  kv:t.v.length=t.k.length
  le:t.k.length≤n
  ris:Ris t.k
  ok:∀ s∈t.k,okN s=true∧s.size≤3
  fit:∀ x∈t.v,Fit d x
  ind:Ind (fun k=>k<W8.heap.size) wr (fun W=>Rep W t)
theorem ObS.o7 {W8 wr:World} {b8 d n:Nat} {t:MT} (h:ObS W8 b8 d n t wr) (hn:n≤100):Obj7 t:=by
  obtain ⟨ka,kc,va,vc,e⟩:=h.obj
  exact ⟨fun _=>by rw [e];rfl,by rw [e];rfl,by rw [e];rfl,h.kv,Nat.le_trans h.le hn,h.ris⟩
theorem put1_mem {α:Type} {l:List α} {p q:Nat} {x y:α} (h:y∈put1 l p q x):y∈l∨y=x:=by
  unfold put1 at h
  rcases List.mem_append.1 h with h | h
  · rcases List.mem_append.1 h with h | h
    · exact .inl (List.mem_of_mem_take h)
    · exact .inr (List.mem_singleton.1 h)
  · exact .inl (List.mem_of_mem_drop h)
theorem spl_ex {N:List ByteArray} (hr:Ris N) (s:ByteArray):∃ p q,Spl N s p q:=by
  cases hi:ixL N s with
  | none=>exact ⟨_,_,spl_none hr hi⟩
  | some i=>exact ⟨_,_,spl_some hr hi⟩
theorem ObS.step {W8 wr wc w3:World} {b8 d n:Nat} {t x:MT} {s:ByteArray} {p q:Nat} {e:Ending} (h:ObS W8 b8 d n t wr) (hs:okN s=true∧s.size≤3) (hp:Spl t.k s p q) (hf:Fit d x) (hb:Below wr.heap.size wr wc) (hS:SetPost t x s p q (fun k=>k<W8.heap.size) wc e w3) :
    ∃ u:MT,e=.returned u.c.val∧ObS W8 b8 d (n+1) u (put0 w3 b8 u.c)∧BoxT w3 b8 t.c:=by
  obtain ⟨u,he,ho,hm,hk,hv,hi,hb3⟩:=hS
  have hs1:=hb.size;have hs3:=hb3.size;have hlt:=h.lt;have hsw:=h.but.size
  have hb03:Below wr.heap.size wr w3:=hb.trans (hb3.mono hs1)
  have hbox:BoxT w3 b8 t.c:=h.box.on (hb03.block _ h.box.lt)
  have hput:=put0_but w3 b8 u.c
  have l1:=put1_len t.k p q s hp.pq hp.ql
  have l2:=put1_len t.v p q x hp.pq (by rw [h.kv];exact hp.ql)
  have hpq:=hp.pq
  refine ⟨u,he,⟨(h.but.trans (But.of_below hb03)).trans hput,h.lt,put0_box hbox,ho,hm,?_,?_,?_,?_,?_,?_⟩,hbox⟩
  · rw [hk,hv];have:=h.kv;omega
  · rw [hk];have:=h.le;omega
  · rw [hk];exact spl_ris h.ris hp
  · intro y hy
    rw [hk] at hy
    rcases put1_mem hy with hy | rfl
    · exact h.ok y hy
    · exact hs
  · intro y hy
    rw [hv] at hy
    rcases put1_mem hy with hy | rfl
    · exact h.fit y hy
    · exact hf
  · exact hi.to hput.size (fun k hk1 hk2=>hput.block k hk1 (fun e=>hk2 (by omega))) (fun _ _ h=>h) (fun _ h=>h)
def OBL (W8:World) (b8:Nat) (v0:Value) (d m g:Nat) (u iv:Value) (wr:World):Prop :=
  ∃ (i:Nat) (t:MT),i≤m∧m - i≤g∧iv=.int .i64 (i:Int)∧(∀ W,IntsV W v0→IntsV W u)∧ObS W8 b8 d i t wr
theorem risesB_of {l:List ByteArray} (hr:Ris l) (ho:∀ s∈l,okN s=true):risesB l=true:=by
  rw [risesB_iff]
  intro i hi
  have h1:okN (l.getD i ByteArray.empty)=true:=ho _ (by simp [List.getD,hi])
  unfold nameAt
  rw [h1]
  by_cases h0:i=0
  · simp [h0]
  · have:=hr (i - 1) i (by omega) hi
    simp
    exact .inr (by simpa using this)
theorem obj_end {d d' n:Nat} {v0 u0:Value} {w W8 W:World} {b8:Nat} {t:MT} (hd:d=d'+1) (hb:Below w.heap.size w W8) (hb8:w.heap.size<b8) (h1:∀ W,IntsV W v0→IntsV W u0) (h:ObS W8 b8 d' n t W) (hl:n≤3) :
    MadeP d v0 w (.returned (.tuple #[t.c.val,u0])) (put0 W w.heap.size t.c):=by
  subst hd
  have hs:=h.but.size;have hlt:=h.lt;have hsb:=hb.size;have hle:=h.le
  refine made_end rfl (hb.trans (h.but.below (by omega) hb.size)) h1 ?_ ⟨?_,by rw [h.kv];omega,h.fit⟩
  · exact h.ind.to (Nat.le_refl _) (fun _ _ _=>rfl) (fun k hk (hx:k<w.heap.size∨k=w.heap.size)=>show k<W8.heap.size by omega) (fun _ h=>h)
  · obtain ⟨ka,kc,va,vc,e⟩:=h.obj
    have e3:t.k.all (fun k=>decide (k.size≤3))=true:=List.all_eq_true.2 fun s hs=>decide_eq_true (h.ok s hs).2
    unfold fitB smB soundB
    rw [e,e3,h.tm]
    have e1:=risesB_of h.ris (fun s hs=>(h.ok s hs).1)
    have e2:t.k.length≤300:=by omega
    simp [objC7,blankB,e1,e2]
    exact ⟨rfl,rfl⟩
end Go.Proofs.YtnacbakcalcgaaaGreatDoor
