/- Texts of the claim. -/
import Derived.Test.YtnacbakcalcgaaaGreatDoorTD
set_option linter.unusedVariables false
set_option linter.unusedSimpArgs false
set_option maxHeartbeats 16000000
set_option maxRecDepth 100000
namespace Go.Proofs.YtnacbakcalcgaaaGreatDoor
open Go.RowKit Go.Lib Go.Sort
def refS:List ByteArray:=[⟨#[247]⟩,⟨#[249,124,0]⟩,⟨#[251,127,248,0,0,0,0,0,0]⟩,⟨#[193,1]⟩,⟨#[161,1,2]⟩,⟨#[224]⟩,⟨#[248,32]⟩,⟨#[194,97,97]⟩,⟨#[196,131,0,0,0]⟩]
theorem refS_idx0 (W:World):(Instr.index 46 (.agg #[.string ⟨#[247]⟩,.string ⟨#[249,124,0]⟩,.string ⟨#[251,127,248,0,0,0,0,0,0]⟩,.string ⟨#[193,1]⟩,.string ⟨#[161,1,2]⟩,.string ⟨#[224]⟩,.string ⟨#[248,32]⟩,.string ⟨#[194,97,97]⟩,.string ⟨#[196,131,0,0,0]⟩]) (.int .i64 ((0:Nat):Int))).run Tryz.prog W=.ok (.string (refS.getD 0 ⟨#[]⟩)) W:=by kernel_rfl
theorem refS_idx1 (W:World):(Instr.index 46 (.agg #[.string ⟨#[247]⟩,.string ⟨#[249,124,0]⟩,.string ⟨#[251,127,248,0,0,0,0,0,0]⟩,.string ⟨#[193,1]⟩,.string ⟨#[161,1,2]⟩,.string ⟨#[224]⟩,.string ⟨#[248,32]⟩,.string ⟨#[194,97,97]⟩,.string ⟨#[196,131,0,0,0]⟩]) (.int .i64 ((1:Nat):Int))).run Tryz.prog W=.ok (.string (refS.getD 1 ⟨#[]⟩)) W:=by kernel_rfl
theorem refS_idx2 (W:World):(Instr.index 46 (.agg #[.string ⟨#[247]⟩,.string ⟨#[249,124,0]⟩,.string ⟨#[251,127,248,0,0,0,0,0,0]⟩,.string ⟨#[193,1]⟩,.string ⟨#[161,1,2]⟩,.string ⟨#[224]⟩,.string ⟨#[248,32]⟩,.string ⟨#[194,97,97]⟩,.string ⟨#[196,131,0,0,0]⟩]) (.int .i64 ((2:Nat):Int))).run Tryz.prog W=.ok (.string (refS.getD 2 ⟨#[]⟩)) W:=by kernel_rfl
theorem refS_idx3 (W:World):(Instr.index 46 (.agg #[.string ⟨#[247]⟩,.string ⟨#[249,124,0]⟩,.string ⟨#[251,127,248,0,0,0,0,0,0]⟩,.string ⟨#[193,1]⟩,.string ⟨#[161,1,2]⟩,.string ⟨#[224]⟩,.string ⟨#[248,32]⟩,.string ⟨#[194,97,97]⟩,.string ⟨#[196,131,0,0,0]⟩]) (.int .i64 ((3:Nat):Int))).run Tryz.prog W=.ok (.string (refS.getD 3 ⟨#[]⟩)) W:=by kernel_rfl
theorem refS_idx4 (W:World):(Instr.index 46 (.agg #[.string ⟨#[247]⟩,.string ⟨#[249,124,0]⟩,.string ⟨#[251,127,248,0,0,0,0,0,0]⟩,.string ⟨#[193,1]⟩,.string ⟨#[161,1,2]⟩,.string ⟨#[224]⟩,.string ⟨#[248,32]⟩,.string ⟨#[194,97,97]⟩,.string ⟨#[196,131,0,0,0]⟩]) (.int .i64 ((4:Nat):Int))).run Tryz.prog W=.ok (.string (refS.getD 4 ⟨#[]⟩)) W:=by kernel_rfl
theorem refS_idx5 (W:World):(Instr.index 46 (.agg #[.string ⟨#[247]⟩,.string ⟨#[249,124,0]⟩,.string ⟨#[251,127,248,0,0,0,0,0,0]⟩,.string ⟨#[193,1]⟩,.string ⟨#[161,1,2]⟩,.string ⟨#[224]⟩,.string ⟨#[248,32]⟩,.string ⟨#[194,97,97]⟩,.string ⟨#[196,131,0,0,0]⟩]) (.int .i64 ((5:Nat):Int))).run Tryz.prog W=.ok (.string (refS.getD 5 ⟨#[]⟩)) W:=by kernel_rfl
theorem refS_idx6 (W:World):(Instr.index 46 (.agg #[.string ⟨#[247]⟩,.string ⟨#[249,124,0]⟩,.string ⟨#[251,127,248,0,0,0,0,0,0]⟩,.string ⟨#[193,1]⟩,.string ⟨#[161,1,2]⟩,.string ⟨#[224]⟩,.string ⟨#[248,32]⟩,.string ⟨#[194,97,97]⟩,.string ⟨#[196,131,0,0,0]⟩]) (.int .i64 ((6:Nat):Int))).run Tryz.prog W=.ok (.string (refS.getD 6 ⟨#[]⟩)) W:=by kernel_rfl
theorem refS_idx7 (W:World):(Instr.index 46 (.agg #[.string ⟨#[247]⟩,.string ⟨#[249,124,0]⟩,.string ⟨#[251,127,248,0,0,0,0,0,0]⟩,.string ⟨#[193,1]⟩,.string ⟨#[161,1,2]⟩,.string ⟨#[224]⟩,.string ⟨#[248,32]⟩,.string ⟨#[194,97,97]⟩,.string ⟨#[196,131,0,0,0]⟩]) (.int .i64 ((7:Nat):Int))).run Tryz.prog W=.ok (.string (refS.getD 7 ⟨#[]⟩)) W:=by kernel_rfl
theorem refS_idx8 (W:World):(Instr.index 46 (.agg #[.string ⟨#[247]⟩,.string ⟨#[249,124,0]⟩,.string ⟨#[251,127,248,0,0,0,0,0,0]⟩,.string ⟨#[193,1]⟩,.string ⟨#[161,1,2]⟩,.string ⟨#[224]⟩,.string ⟨#[248,32]⟩,.string ⟨#[194,97,97]⟩,.string ⟨#[196,131,0,0,0]⟩]) (.int .i64 ((8:Nat):Int))).run Tryz.prog W=.ok (.string (refS.getD 8 ⟨#[]⟩)) W:=by kernel_rfl
theorem refS_idx (u:Nat) (W:World) (hu:u<9):(Instr.index 46 (.agg #[.string ⟨#[247]⟩,.string ⟨#[249,124,0]⟩,.string ⟨#[251,127,248,0,0,0,0,0,0]⟩,.string ⟨#[193,1]⟩,.string ⟨#[161,1,2]⟩,.string ⟨#[224]⟩,.string ⟨#[248,32]⟩,.string ⟨#[194,97,97]⟩,.string ⟨#[196,131,0,0,0]⟩]) (.int .i64 (u:Int))).run Tryz.prog W=.ok (.string (refS.getD u ⟨#[]⟩)) W:=by
  have:u=0∨u=1∨u=2∨u=3∨u=4∨u=5∨u=6∨u=7∨u=8:=by omega
  rcases this with rfl | rfl | rfl | rfl | rfl | rfl | rfl | rfl | rfl
  · exact refS_idx0 W
  · exact refS_idx1 W
  · exact refS_idx2 W
  · exact refS_idx3 W
  · exact refS_idx4 W
  · exact refS_idx5 W
  · exact refS_idx6 W
  · exact refS_idx7 W
  · exact refS_idx8 W
theorem cborRefused_main (la:Option Addr) (ln lc:Nat) (how:Int) (w:World) (hh:-9223372036854775808≤how∧how≤9223372036854775807) (hU:UT w) (hT:DB w) (hn:ln≤40) (KM:Calls Tryz.prog 20 #[.slice la ln lc,.int .i64 3] w (MdC w)) :
    Calls Tryz.prog 5 #[.slice la ln lc,.int .i64 how] w (BoolBelow true w):=by
  have hgt:decide ((40:Int)<(ln:Int))=false:=decide_eq_false (by omega)
  have KT:=Lib.hid (fun W=>place_any how 9 W hh (by omega))
  obtain ⟨u,hu⟩:∃ u:Nat,how % 9=(u:Int):=⟨(how % 9).toNat,by have:=Int.emod_nonneg how (show (9:Int) ≠ 0 by decide);omega⟩
  have hub:u<9:=by have:=Int.emod_lt_of_pos how (show (0:Int)<9 by decide);omega
  rw [hu] at KT
  have HIX:=fun W=>refS_idx u W hub
  have HU:=Lib.hid hU;have HT:=Lib.hid hT;have HKM:=Lib.hid KM
  have HUB:=Lib.hid hub
  clear hU hT hu hh KM hub
  unfold MdC at HKM
  generalize hs:refS.getD u ⟨#[]⟩=sx at *
  have HSX:=Lib.hid hs
  clear hs
  go_enter Tryz.func5,Tryz.ntmps5
  go_wp2_with fail
  refine HKM.out.mono ?_
  rintro r w1 ⟨t,rfl,hR,⟨hck,hsn,hnd,hln⟩,hb1⟩
  have KE:=Lib.hid (encode_cb t w1 hR (HU.out.below hb1) (HT.out.below hb1))
  rw [encoX_yes hck (by omega)] at KE
  unfold EnP at KE
  have HB1:=Lib.hid hb1
  have HCO:=Lib.hid (show CohC t from CohC.of hR)
  have HSN:=Lib.hid hsn;have HND:=Lib.hid hnd;have HLN:=Lib.hid hln
  clear hR hck hsn hnd hln hb1 HKM
  obtain ⟨L,hL⟩:∃ L,encX t=L:=⟨_,rfl⟩
  have HLL:=Lib.hid hL
  rw [hL] at KE
  clear hL
  generalize t.c=c at *
  obtain ⟨k,b0,neg,ma,mn,mc,e,s,ka,kn,kc,va,vn,vc⟩:=c
  unfold Cel.val at *
  go_wp2_with fail
  refine KE.out.mono ?_
  rintro r w2 ⟨v,rfl,ho,hb2⟩
  obtain ⟨ad2,cap2,rfl,hc2,hr2,_,_,_⟩:=own_viewN ho
  obtain ⟨m,hm⟩:∃ m,L.length=m:=⟨_,rfl⟩
  rw [hm] at hc2 ⊢
  have HM:=Lib.hid hm
  have HR2:=Lib.hid hr2
  have HB2:=Lib.hid (below_on HB1.out hb2)
  clear ho hr2 hb2 KE hm
  go_wp2_with fail
  refine (KT.out _).mono ?_
  rintro r wx ⟨rfl,hwx⟩
  replace hwx:=hwx.symm
  subst hwx
  go_wp2_with fail
  have hsx9:sx.size≤9:=by
    rw [← HSX.out]
    have hh:=HUB.out
    have:u=0∨u=1∨u=2∨u=3∨u=4∨u=5∨u=6∨u=7∨u=8:=by omega
    rcases this with rfl | rfl | rfl | rfl | rfl | rfl | rfl | rfl | rfl <;> decide
  have hlm:(strB L).size=m:=by rw [strB_size,HM.out]
  have hm31:m≤16000:=by rw [← HM.out,← HLL.out];exact HLN.out
  have z1:¬ 9223372036854775807<1+(strB L).size:=by omega
  have hap:((⟨#[130]⟩:ByteArray)++strB L).size=1+m:=by rw [← hlm];simp [ByteArray.size_append];rfl
  have z2:¬ 9223372036854775807<((⟨#[130]⟩:ByteArray)++strB L).size+sx.size:=by omega
  have z3:¬ 9223372036854775807<1+(strB L).size+sx.size:=by omega
  have z4:¬ 9223372036854775807<1+m+sx.size:=by omega
  have HCV:=Lib.hid (conv_bv w2 ad2 m cap2 L HM.out HR2.out)
  rw [HCV.out]
  simp only [Result.andThen]
  rw [Oper.upon_value]
  go_wp2_with fail
  obtain ⟨S2,hS2⟩:∃ S2,(⟨#[130]⟩:ByteArray)++strB L++sx=S2:=⟨_,rfl⟩
  have HOB:=Lib.hid (encX_okb t 2 HSN.out HCO.out)
  have hsz:S2.size=1+m+sx.size:=by
    have h1:=strN_len S2
    rw [← hS2,strN_append,strN_append,strN_strB (by rw [← HLL.out];exact HOB.out)] at h1
    rw [← hS2,← h1]
    have h2:=strN_len sx
    simp only [List.length_append,HM.out,h2]
    rfl
  have HN2:Hid (strN S2=130::(L++strN sx)):=Lib.hid (by rw [← hS2,strN_append,strN_append,strN_strB (by rw [← HLL.out];exact HOB.out)];rfl)
  rw [hS2]
  have HRF:Hid (cbValue 64 (strN sx) (1+t.nodes)=.inr 3):=Lib.hid (refused_of _ (by have:=HND.out;omega) _ (by
    rw [← HSX.out]
    have hh:=HUB.out
    have:u=0∨u=1∨u=2∨u=3∨u=4∨u=5∨u=6∨u=7∨u=8:=by omega
    rcases this with rfl | rfl | rfl | rfl | rfl | rfl | rfl | rfl | rfl <;> decide))
  have HDC:Hid (cbDecode (strN S2)=.inr 3):=Lib.hid (by
    rw [HN2.out,← HLL.out]
    exact pair_bad HSN.out HCO.out HND.out (by rw [List.length_append,strN_len];have:=HLN.out;omega) HRF.out)
  have hc2':=Lib.run_convert_string_bytes (P:=Tryz.prog) w2 9 22 5 S2 (u:=.string) Tryz.underlying9 Tryz.underlying22 Tryz.underlying5
  have hb3:=Lib.bytesWorld_below w2 5 S2
  have KD:=Lib.hid (decode_cb (some ⟨w2.heap.size,0,none⟩) S2.size (grownCap w2 S2.size 0 5) (strN S2) (Lib.bytesWorld w2 5 S2) ((HU.out.below HB2.out).below hb3) (strN_len S2) (grownCap_ge _ _ _ _) (strN_okb S2) (bytes_rd w2 S2) (.inr ⟨_,_,rfl⟩))
  rw [HDC.out] at KD
  unfold DecC at KD
  have HC2:=Lib.hid hc2'
  have HB3:=Lib.hid (below_on HB2.out hb3)
  have HR3:=Lib.hid (HR2.out.on hb3)
  clear hc2' hb3 hS2 hsz hsx9 HCV z1 z2 z3 z4 hap hlm
  generalize Lib.bytesWorld w2 5 S2=W3 at *
  generalize grownCap w2 S2.size 0 5=cp at *
  rw [HC2.out]
  simp only [Result.andThen]
  rw [Oper.upon_value]
  go_wp2_with fail
  refine KD.out.mono ?_
  rintro r w4 ⟨rfl,hb4⟩
  have HR4:=Lib.hid (HR3.out.on hb4)
  have HB4:=Lib.hid (below_on HB3.out hb4)
  clear hb4 KD HC2
  go_upto_region 8 with fail
  obtain ⟨W5,hW5⟩:∃ x,w4.alloc (.cells #[.int .i64 0,.bool false,.bool false,.slice none 0 0,.int .i64 0,.string ⟨#[]⟩,.slice none 0 0,.slice none 0 0] 29)=x:=⟨_,rfl⟩
  have hb5:Below w4.heap.size w4 W5:=by rw [← hW5];exact (Below.refl _ _).alloc (Nat.le_refl _) _
  have q5:W5.heap[w4.heap.size]? = some (.cells #[.int .i64 0,.bool false,.bool false,.slice none 0 0,.int .i64 0,.string ⟨#[]⟩,.slice none 0 0,.slice none 0 0] 29):=by rw [← hW5];exact heap_alloc_new w4 _
  rw [hW5]
  have HR5:=Lib.hid (HR4.out.on hb5)
  have HB5:=Lib.hid (below_on HB4.out hb5)
  have Q5:=Lib.hid q5
  clear hW5 hb5 q5
  have hlm:(strB L).size=m:=by rw [strB_size,HM.out]
  have z1:¬ 9223372036854775807<1+(strB L).size:=by omega
  have HCV:=Lib.hid (conv_bv W5 ad2 m cap2 L HM.out HR5.out)
  go_wp2_with fail
  rw [HCV.out]
  simp only [Result.andThen]
  rw [Oper.upon_value]
  go_wp2_with fail
  obtain ⟨S3,hS3⟩:∃ S3,(⟨#[129]⟩:ByteArray)++strB L=S3:=⟨_,rfl⟩
  have HN3:Hid (strN S3=129::L):=Lib.hid (by rw [← hS3,strN_append,strN_strB (by rw [← HLL.out];exact HOB.out)];rfl)
  rw [hS3]
  have HDC3:Hid (cbDecode (strN S3)=.inl (barrC [t.bare])):=Lib.hid (by
    rw [HN3.out,← HLL.out]
    exact one_item HSN.out HCO.out HND.out (by have:=HLN.out;omega))
  have hc2':=Lib.run_convert_string_bytes (P:=Tryz.prog) W5 9 22 5 S3 (u:=.string) Tryz.underlying9 Tryz.underlying22 Tryz.underlying5
  have hb6:=Lib.bytesWorld_below W5 5 S3
  have KD3:=Lib.hid (decode_cb (some ⟨W5.heap.size,0,none⟩) S3.size (grownCap W5 S3.size 0 5) (strN S3) (Lib.bytesWorld W5 5 S3) ((HU.out.below HB5.out).below hb6) (strN_len S3) (grownCap_ge _ _ _ _) (strN_okb S3) (bytes_rd W5 S3) (.inr ⟨_,_,rfl⟩))
  rw [HDC3.out] at KD3
  unfold DecC at KD3
  have HC3:=Lib.hid hc2'
  have hq5:w4.heap.size<W5.heap.size:=(Array.getElem?_eq_some_iff.1 Q5.out).1
  have q6:=(hb6.block w4.heap.size hq5).trans Q5.out
  have HB6:=Lib.hid (below_on HB5.out hb6)
  have Q6:=Lib.hid q6
  have HS6:=Lib.hid (Nat.lt_of_lt_of_le hq5 hb6.size)
  clear hc2' hb6 hS3 HCV z1 hlm q6 hq5
  generalize Lib.bytesWorld W5 5 S3=W6 at *
  generalize grownCap W5 S3.size 0 5=cp3 at *
  rw [HC3.out]
  simp only [Result.andThen]
  rw [Oper.upon_value]
  go_wp2_with fail
  refine KD3.out.mono ?_
  rintro r w7 ⟨t',rfl,hbare,hR7,hb7⟩
  have hvn:t'.c.vn=1:=by
    rw [MT.bare_eq] at hbare
    unfold barrC arrT at hbare
    injection hbare with g1
    exact congrArg Cel.vn g1
  have q7:=(hb7.block w4.heap.size HS6.out).trans Q6.out
  have HB7:=Lib.hid (below_on HB6.out hb7)
  have HS7:=Lib.hid (Nat.lt_of_lt_of_le HS6.out hb7.size)
  clear hb7 hR7 hbare KD3 HC3
  generalize t'.c=tc at *
  obtain ⟨xk,xb,xneg,xma,xmn,xmc,xe,xs,xka,xkn,xkc,xva,xvn,xvc⟩:=tc
  simp only at hvn
  subst hvn
  unfold Cel.val
  go_upto_region 9 with fail
  obtain ⟨W8,hW8⟩:∃ x,w7.alloc (.cells #[.int .i64 xk,.bool xb,.bool xneg,.slice xma xmn xmc,.int .i64 xe,.string xs,.slice xka xkn xkc,.slice xva 1 xvc] 29)=x:=⟨_,rfl⟩
  have hb8:Below w7.heap.size w7 W8:=by rw [← hW8];exact (Below.refl _ _).alloc (Nat.le_refl _) _
  have q8:W8.heap[w7.heap.size]? = some (.cells #[.int .i64 xk,.bool xb,.bool xneg,.slice xma xmn xmc,.int .i64 xe,.string xs,.slice xka xkn xkc,.slice xva 1 xvc] 29):=by rw [← hW8];exact heap_alloc_new w7 _
  have p8:=(hb8.block w4.heap.size HS7.out).trans q7
  rw [hW8]
  have y0:=(boxC p8 0 _ rfl).1
  have y1:=(boxC p8 1 _ rfl).1
  have y2:=(boxC p8 2 _ rfl).1
  have y3:=(boxC p8 3 _ rfl).1
  have y4:=(boxC p8 4 _ rfl).1
  have y5:=(boxC p8 5 _ rfl).1
  have y6:=(boxC p8 6 _ rfl).1
  have y7:=(boxC p8 7 _ rfl).1
  have HB8:=Lib.hid (below_on HB7.out hb8)
  have KS:=Lib.hid (sameTree0 W8)
  have Q8:=Lib.hid q8
  clear hW8 hb8 q8 p8 q7
  go_wp2_with fail
  refine KS.out.mono ?_
  rintro r w9 ⟨rfl,hb9⟩
  have q9:=(hb9.block _ (Array.getElem?_eq_some_iff.1 Q8.out).1).trans Q8.out
  have x7:=(boxC q9 7 _ rfl).1
  have HB9:=Lib.hid (below_on HB8.out hb9)
  have KW:=Lib.hid (awake10_any w9 (HU.out.below HB9.out) (HT.out.below HB9.out))
  clear hb9 q9 KS y0 y1 y2 y3 y4 y5 y6 y7
  go_wp2_with fail
  refine KW.out.mono ?_
  rintro r w10 ⟨rfl,hb10⟩
  have HZ:=Lib.hid (below_on HB9.out hb10)
  clear hb10 KW
  go_wp2_with fail
  go_ret
  exact BoolBelow.mk rfl HZ.out
theorem cborRefused_long (la:Option Addr) (ln lc:Nat) (how:Int) (w:World) (hU:UT w) (hT:DB w) (hn:40<ln):Calls Tryz.prog 5 #[.slice la ln lc,.int .i64 how] w (BoolBelow true w):=by
  have hgt:decide ((40:Int)<(ln:Int))=true:=decide_eq_true (by omega)
  have KW:=Lib.hid (awake10_any w hU hT)
  clear hU hT
  go_enter Tryz.func5,Tryz.ntmps5
  go_wp2_with fail
  refine KW.out.mono ?_
  rintro r w10 ⟨rfl,hb10⟩
  have HZ:=Lib.hid hb10
  clear hb10 KW
  go_wp2_with fail
  go_ret
  exact BoolBelow.mk rfl HZ.out
theorem cborRefused_walk (ad:Option Addr) (n cap:Nat) (xs:List Int) (how:Int) (w:World) (hn:xs.length=n) (hcap:n≤cap) (hx:∀ x∈xs,-9223372036854775808≤x∧x≤9223372036854775807) (hr:RdV w ad (xs.map iz)) (hh:-9223372036854775808≤how∧how≤9223372036854775807) (hU:UT w) (hT:DB w) :
    Calls Tryz.prog 5 #[.slice ad n cap,.int .i64 how] w (BoolBelow true w):=by
  by_cases h40:n≤40
  · refine cborRefused_main ad n cap how w hh hU hT h40 ?_
    have K:=Made_any 3 (by decide) (.slice ad n cap) w ⟨ad,n,cap,xs,rfl,hr,hn,hcap,by omega,hx⟩
    refine K.mono ?_
    rintro e w' ⟨t,he,hR,hf,hb⟩
    exact made_MdC he hR hf hb
  · exact cborRefused_long ad n cap how w hU hT (by omega)
end Go.Proofs.YtnacbakcalcgaaaGreatDoor
