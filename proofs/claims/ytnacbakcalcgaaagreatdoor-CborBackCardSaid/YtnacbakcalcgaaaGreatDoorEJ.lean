/- Texts of the claim. -/
import Derived.Test.YtnacbakcalcgaaaGreatDoorEI
set_option linter.unusedVariables false
set_option linter.unusedSimpArgs false
set_option maxHeartbeats 8000000
set_option maxRecDepth 100000
namespace Go.Proofs.YtnacbakcalcgaaaGreatDoor
open Go.RowKit Go.Sort
def fiveP (M:Nat) (E:Int):Nat:=if 0≤E then M*5 ^ E.toNat else M / 5 ^ (-E).toNat
theorem fives_some {M:Nat} {E:Int}:fives M E=if (fives M E).isSome then some (fiveP M E) else none:=by
  unfold fives fiveP
  by_cases h:0≤E
  · rw [if_pos h,if_pos h];rfl
  · rw [if_neg h,if_neg h]
    split <;> rfl
theorem timesFives_any {w0 w:World} {l:List Ent} (h:Ctx w0 w l) (i:Nat) {v:Value} {L M:Nat} {xs:List Nat} (hi:l[i]? = some ⟨v,L,M,xs⟩) (hL:L≤100) (E:Int) (hE:-1200≤E∧E≤1200) :
    Calls Tryz.prog 163 #[v,.int .i64 E] w fun r w'=>∃ v',r=.returned (.tuple #[v',.bool (fives M E).isSome])∧Ctx w0 w' (⟨v',2000,fiveP M E,limbs (fiveP M E)⟩::l):=by
  by_cases h0:0≤E
  · obtain ⟨k,hk⟩:∃ k:Nat,E=(k:Int):=⟨E.toNat,by omega⟩
    have KP:=Lib.hid (pow_c h (b:=5) (by decide) E k (by unfold cutP;omega))
    have KM:=Lib.hid (fun w1 v1 (h1:Ctx w0 w1 (⟨v1,k+1,5 ^ k,limbs (5 ^ k)⟩::l))=>mul_c h1 (i+1) 0 (by rw [List.getElem?_cons_succ];exact hi) rfl (by omega) (by omega))
    have H1:Hid ((fives M E).isSome=true):=by unfold fives;rw [if_pos h0];rfl
    have H2:Hid (fiveP M E=M*5 ^ k):=by unfold fiveP;rw [if_pos h0,hk];rfl
    have hkb:k≤1200:=by omega
    clear h hi hk
    go_enter Tryz.func163,Tryz.ntmps163
    go_wp2_with fail
    refine KP.out.mono ?_
    rintro r w1 ⟨v1,rfl,h1⟩
    have HH1:=Lib.hid h1;clear h1
    go_wp2_with fail
    refine (KM.out _ _ (by exact HH1.out)).mono ?_
    rintro r w2 ⟨v2,rfl,h2⟩
    have HH2:=Lib.hid h2;clear h2
    go_wp2
    go_ret2
    refine ⟨v2,by rw [H1.out];rfl,?_⟩
    rw [H2.out]
    have h3:=HH2.out
    have h4:Ctx w0 w2 (⟨v2,L+(k+1),M*5 ^ k,limbs (M*5 ^ k)⟩::l):=⟨h3.below,fun y hy=>h3.all y (by rcases List.mem_cons.1 hy with rfl | h5 <;> simp_all)⟩
    exact h4.wide (by omega)
  · obtain ⟨k,hk⟩:∃ k:Nat,E = -(k:Int):=⟨(-E).toNat,by omega⟩
    have hlt:¬ (E ≥ 0):=by omega
    have KP:=Lib.hid (pow_c h (b:=5) (by decide) (-E) k (by unfold cutP;omega))
    have KM:=Lib.hid (fun w1 v1 (h1:Ctx w0 w1 (⟨v1,k+1,5 ^ k,limbs (5 ^ k)⟩::l))=>div_c h1 (i+1) 0 (by rw [List.getElem?_cons_succ];exact hi) rfl (by omega) (by omega))
    have H1:Hid ((fives M E).isSome=decide (rmN M (5 ^ k)=0)):=by
      unfold fives rmN;rw [if_neg h0,if_neg (Nat.pos_iff_ne_zero.1 (five_pos k)),show (-E).toNat=k by omega]
      by_cases hr:M % 5 ^ k=0
      · rw [if_pos hr,decide_eq_true hr];rfl
      · rw [if_neg hr,decide_eq_false hr];rfl
    have H2:Hid (fiveP M E=M / 5 ^ k):=by unfold fiveP;rw [if_neg h0,show (-E).toNat=k by omega];exact rfl
    have hnw:IntKind.i64.wrap (-E) = -E:=IntWalk.i64_in _ (by omega)
    have HK:=Lib.hid hk
    clear h hi hk
    go_enter Tryz.func163,Tryz.ntmps163
    go_wp2_with fail
    refine KP.out.mono ?_
    rintro r w1 ⟨v1,rfl,h1⟩
    have HH1:=Lib.hid h1;clear h1
    go_wp2_with fail
    refine (KM.out _ _ (by exact HH1.out)).mono ?_
    rintro r w2 ⟨v2,v3,rfl,h2⟩
    obtain ⟨ad3,cap3,hv3,_⟩:=h2.get 1 rfl
    subst hv3
    have HH2:=Lib.hid h2;clear h2
    have HR:=Lib.hid (limbs_nil_iff (rmN M (5 ^ k)))
    generalize hzz:limbs (rmN M (5 ^ k))=zs at *
    have HZ:=Lib.hid hzz;clear hzz
    have h3:=HH2.out
    have h4:Ctx w0 w2 (⟨v2,L,M / 5 ^ k,limbs (M / 5 ^ k)⟩::l):=⟨h3.below,fun y hy=>h3.all y (by rcases List.mem_cons.1 hy with rfl | h5 <;> simp_all)⟩
    have H4:=Lib.hid (h4.wide (L':=2000) (by omega))
    clear h3 h4
    have HB:Hid (((zs.length:Int) == 0)=decide (rmN M (5 ^ k)=0)):=by
      unfold Hid
      rw [int_beq0]
      refine decide_eq_decide.2 ?_
      rw [← HR.out]
      exact ⟨fun h=>List.eq_nil_of_length_eq_zero h,fun h=>by rw [h];rfl⟩
    go_wp2
    go_ret2
    refine ⟨v2,by rw [H1.out,← HB.out];rfl,?_⟩
    rw [H2.out]
    exact H4.out
theorem Ctx.boxW {w0 w:World} {l:List Ent} {g:Nat} {b:Bool} {n x:Int} (h:Ctx w0 w l) (hg:w0.heap.size≤g)
    (c0:w.cell? ⟨g,0,none⟩=some (.bool b)) (c1:w.cell? ⟨g,1,none⟩=some (.int .u64 n)) (c2:w.cell? ⟨g,2,none⟩=some (.int .i64 x)) (v0 v1 v2:Value) :
    Ctx w0 (((w.setCell ⟨g,0,none⟩ v0).setCell ⟨g,1,none⟩ v1).setCell ⟨g,2,none⟩ v2) l:=by
  have d1:(w.setCell ⟨g,0,none⟩ v0).cell? ⟨g,1,none⟩=some (.int .u64 n):=by rw [World.cell?_setCell_other (h:=by simp)];exact c1
  have d2:((w.setCell ⟨g,0,none⟩ v0).setCell ⟨g,1,none⟩ v1).cell? ⟨g,2,none⟩=some (.int .i64 x):=by
    rw [World.cell?_setCell_other (h:=by simp),World.cell?_setCell_other (h:=by simp)];exact c2
  exact ((h.setBox hg c0 (fun _=>by simp) v0).setBox hg d1 (fun _=>by simp) v1).setBox hg d2 (fun _=>by simp) v2
theorem tz_bd {P n:Nat} (h0:P ≠ 0) (hP:P<B32 ^ n):tz P<32*n:=by
  obtain ⟨a,b⟩:=tz_spec h0
  have e:B32 ^ n=2 ^ (32*n):=by rw [Nat.pow_mul];rfl
  rw [e] at hP
  have h1:2 ^ tz P≤P:=by
    conv=>rhs;rw [a]
    exact Nat.le_mul_of_pos_left _ (odd_pos h0)
  exact two_lt_iff.1 (Nat.lt_of_le_of_lt h1 hP)
theorem bits_bd {P n:Nat} (h0:P ≠ 0) (hP:P<B32 ^ n):bitsN P≤32*n:=by
  obtain ⟨t,h1,h2,h3⟩:=bitsN_bounds h0
  have e:B32 ^ n=2 ^ (32*n):=by rw [Nat.pow_mul];rfl
  rw [e] at hP
  have:=two_lt_iff.1 (Nat.lt_of_le_of_lt h2 hP)
  omega
def bofA (neg:Bool) (M:Nat) (E:Int):Value:=match fives M E with
  | none=>.tuple #[binV false 0 0,.bool false]
  | some P=>if odd P<2 ^ 64 then .tuple #[binV neg (odd P) (E+(tz P:Int)),.bool true] else .tuple #[binV false 0 0,.bool false]
theorem binaryOf_any {w0 w:World} {l:List Ent} (h:Ctx w0 w l) (hT:DB w) (i:Nat) {v:Value} {L M:Nat} {xs:List Nat} (hi:l[i]? = some ⟨v,L,M,xs⟩) (hL:L≤100) (hM:M ≠ 0) (ng:Bool) (E:Int) (hE:-1200≤E∧E≤1200) :
    Calls Tryz.prog 129 #[.agg #[.bool ng,v,.int .i64 E]] w fun r w'=>r=.returned (bofA ng M E)∧Ctx w0 w' l:=by
  have hb1:=below_box' w #[.bool ng,v,.int .i64 E] 25
  have hb2:=hb1.alloc hb1.size (.cells #[.bool false,.int .u64 0,.int .i64 0] 155)
  have h2:=h.step hb2
  have z0:((w.alloc (.cells #[.bool ng,v,.int .i64 E] 25)).alloc (.cells #[.bool false,.int .u64 0,.int .i64 0] 155)).cell? ⟨w.heap.size,0,none⟩=some (.bool ng):=by rw [cell_old _ _ _ _ (by simp),cell_new];rfl
  have z1:((w.alloc (.cells #[.bool ng,v,.int .i64 E] 25)).alloc (.cells #[.bool false,.int .u64 0,.int .i64 0] 155)).cell? ⟨w.heap.size,1,none⟩=some v:=by rw [cell_old _ _ _ _ (by simp),cell_new];rfl
  have z2:((w.alloc (.cells #[.bool ng,v,.int .i64 E] 25)).alloc (.cells #[.bool false,.int .u64 0,.int .i64 0] 155)).cell? ⟨w.heap.size,2,none⟩=some (.int .i64 E):=by rw [cell_old _ _ _ _ (by simp),cell_new];rfl
  have y0:((w.alloc (.cells #[.bool ng,v,.int .i64 E] 25)).alloc (.cells #[.bool false,.int .u64 0,.int .i64 0] 155)).cell? ⟨w.heap.size+1,0,none⟩=some (.bool false):=by rw [cell_at _ _ _ _ _ (by simp)];rfl
  have y1:((w.alloc (.cells #[.bool ng,v,.int .i64 E] 25)).alloc (.cells #[.bool false,.int .u64 0,.int .i64 0] 155)).cell? ⟨w.heap.size+1,1,none⟩=some (.int .u64 0):=by rw [cell_at _ _ _ _ _ (by simp)];rfl
  have y2:((w.alloc (.cells #[.bool ng,v,.int .i64 E] 25)).alloc (.cells #[.bool false,.int .u64 0,.int .i64 0] 155)).cell? ⟨w.heap.size+1,2,none⟩=some (.int .i64 0):=by rw [cell_at _ _ _ _ _ (by simp)];rfl
  have yf:∀ j,((w.alloc (.cells #[.bool ng,v,.int .i64 E] 25)).alloc (.cells #[.bool false,.int .u64 0,.int .i64 0] 155)).frozen? ⟨w.heap.size+1,j,none⟩=false:=fun j=>by rw [show w.heap.size+1=(w.alloc (.cells #[.bool ng,v,.int .i64 E] 25)).heap.size by simp];exact World.frozen?_alloc_new ..
  have hzz:((w.alloc (.cells #[.bool ng,v,.int .i64 E] 25)).alloc (.cells #[.bool false,.int .u64 0,.int .i64 0] 155)).heap.size=w.heap.size+2:=by simp
  have hT2:=hT.below hb2
  have KF:=Lib.hid (timesFives_any h2.again i hi hL E hE)
  have hg:=Lib.hid h.below.size
  obtain ⟨ad,cap,hv,a2,a3,a4,a5,a6⟩:=h.get i hi
  have hlo:=a4
  subst hv
  generalize hW:(w.alloc (.cells #[.bool ng,.slice ad xs.length cap,.int .i64 E] 25)).alloc (.cells #[.bool false,.int .u64 0,.int .i64 0] 155)=W at *
  have HW:=Lib.hid hW
  have HH:=Lib.hid h2
  have HT:=Lib.hid hT2
  have hz0:w.heap.size<W.heap.size:=by omega
  have hz1:w.heap.size+1<W.heap.size:=by omega
  have hM2:∀ P,fives M E=some P→P ≠ 0:=fun P hP=>fives_ne hM hP
  have hfs:=fives_some (M:=M) (E:=E)
  have HFS:=Lib.hid hfs
  have HM2:=Lib.hid hM2
  clear h h2 hb1 hb2 hW hT hT2 a2 a3 a4 a5 a6 hlo hM2 hfs hM
  go_enter Tryz.func129,Tryz.ntmps129
  go_wp2_with fail
  rw [HW.out]
  refine KF.out.mono ?_
  rintro r w1 ⟨v1,rfl,h1⟩
  have hB1:=h1.below
  have H1:=Lib.hid h1
  have q0:=(hB1.cell (p:=⟨w.heap.size,0,none⟩) hz0).trans z0
  have q2:=(hB1.cell (p:=⟨w.heap.size,2,none⟩) hz0).trans z2
  have x0:=(hB1.cell (p:=⟨w.heap.size+1,0,none⟩) hz1).trans y0
  have x1:=(hB1.cell (p:=⟨w.heap.size+1,1,none⟩) hz1).trans y1
  have x2:=(hB1.cell (p:=⟨w.heap.size+1,2,none⟩) hz1).trans y2
  have xf0:=(hB1.frozen (p:=⟨w.heap.size+1,0,none⟩) hz1).trans (yf 0)
  have xf1:=(hB1.frozen (p:=⟨w.heap.size+1,1,none⟩) hz1).trans (yf 1)
  have xf2:=(hB1.frozen (p:=⟨w.heap.size+1,2,none⟩) hz1).trans (yf 2)
  have HTw:=Lib.hid (HT.out.below hB1)
  have HCw:=Lib.hid (HH.out.step hB1)
  cases hsome:(fives M E).isSome
  · have hno:fives M E=none:=by have h:=HFS.out;rw [hsome] at h;simpa using h
    have HA:Hid (bofA ng M E=.tuple #[binV false 0 0,.bool false]):=by unfold bofA;rw [hno];rfl
    have HX:=Lib.hid (HCw.out.boxW (g:=w.heap.size+1) (Nat.le_succ_of_le hg.out) x0 x1 x2 (.bool false) (.int .u64 0) (.int .i64 0))
    clear h1 hB1 z0 z1 z2 y0 y1 y2 yf hno
    go_wp2_with fail
    exact bodyPost_ret (v:=.tuple #[binV false 0 0,.bool false]) (by simp [results,Tryz.results129,go_sem,x0,x1,x2,binV]) rfl ⟨by rw [HA.out],HX.out⟩
  · have hyes:fives M E=some (fiveP M E):=by have h:=HFS.out;rw [hsome] at h;simpa using h
    have hP0:=HM2.out _ hyes
    have hbA:bofA ng M E=if odd (fiveP M E)<2 ^ 64 then .tuple #[binV ng (odd (fiveP M E)) (E+(tz (fiveP M E):Int)),.bool true] else .tuple #[binV false 0 0,.bool false]:=by unfold bofA;rw [hyes]
    obtain ⟨ad1,cap1,hv1,g2,g3,g4,g5,g6⟩:=h1.get 0 rfl
    subst hv1
    have hl1:=limbs_lt_pow (fiveP M E)
    have hob:=odd_bits hP0
    have htb:=tz_bd hP0 hl1
    have hbb:=bits_bd hP0 hl1
    have hvl:val (limbs (fiveP M E)) ≠ 0:=by rw [val_limbs];exact hP0
    have KZ:=Lib.hid (zeroBits_any ad1 (limbs (fiveP M E)).length cap1 (limbs (fiveP M E)) w1 rfl g2 (by omega) g4 g5 hvl HTw.out)
    have KB:=Lib.hid (bits_c h1 0 rfl (by omega))
    have hdiv:val (limbs (fiveP M E)) / 2 ^ tz (fiveP M E)=odd (fiveP M E):=by rw [val_limbs];rfl
    have KW:=Lib.hid (fun (ho:odd (fiveP M E)<2 ^ 64) W (hW:Below w1.heap.size w1 W)=>wordFrom_any ad1 (limbs (fiveP M E)).length cap1 (limbs (fiveP M E)) (tz (fiveP M E)) W rfl g2 (by omega) g4 (g5.below hW) (by rw [hdiv];exact ho) (by omega))
    rw [val_limbs] at KZ
    rw [hdiv] at KW
    have HBA:=Lib.hid hbA
    have HOB:=Lib.hid hob
    clear h1 hB1 z0 z1 z2 y0 y1 y2 yf g4 g5 g6 hl1 hvl hdiv hbA hob hyes hP0
    generalize (limbs (fiveP M E)).length=n1 at *
    generalize tz (fiveP M E)=zP at *
    generalize bitsN (fiveP M E)=bP at *
    generalize odd (fiveP M E)=oP at *
    have hws:IntKind.i64.wrap ((bP:Int) - (zP:Int))=(bP:Int) - (zP:Int):=IntWalk.i64_in _ (by omega)
    have hwe:IntKind.i64.wrap (E+(zP:Int))=E+(zP:Int):=IntWalk.i64_in _ (by omega)
    go_wp2_with fail
    refine KZ.out.mono ?_
    rintro r w2 ⟨rfl,rfl⟩
    go_wp2_with fail
    refine KB.out.mono ?_
    rintro r w2 ⟨rfl,rfl⟩
    by_cases ho:oP<2 ^ 64
    · have hA:=HBA.out
      rw [if_pos ho] at hA
      have HA:=Lib.hid hA
      have hng:¬ (64<(bP:Int) - (zP:Int)):=fun h=>HOB.out.1 h ho
      have KW2:=Lib.hid (KW.out ho)
      have HCx:=Lib.hid (HCw.out.step (below_drew (Below.refl _ _)))
      have HX:=Lib.hid (HCx.out.boxW (g:=w.heap.size+1) (Nat.le_succ_of_le hg.out) (by exact x0) (by exact x1) (by exact x2) (.bool ng) (.int .u64 (oP:Int)) (.int .i64 (E+(zP:Int))))
      have hne1:¬ w.heap.size+1=w.heap.size:=by omega
      clear hA KW HBA HOB ho
      go_wp2_with fail
      go_region_held3 (fun w'=>w'.cell? ⟨w.heap.size,0,none⟩=some (.bool ng)∧w'.cell? ⟨w.heap.size,2,none⟩=some (.int .i64 E)) (go_keep)
        (first | (go_at_call 165;refine (KW2.out _ (by exact below_drew (Below.refl _ _))).mono ?_;rintro r w3 ⟨rfl,rfl⟩))
      all_goals
        go_wp2_with fail
        exact bodyPost_ret (v:=.tuple #[binV ng oP (E+(zP:Int)),.bool true]) (by simp [results,Tryz.results129,go_sem,x0,x1,x2,binV]) rfl ⟨by rw [HA.out],HX.out⟩
    · have hA:=HBA.out
      rw [if_neg ho] at hA
      have HA:=Lib.hid hA
      have hng:64<(bP:Int) - (zP:Int):=HOB.out.2 ho
      have HX:=Lib.hid (HCw.out.boxW (g:=w.heap.size+1) (Nat.le_succ_of_le hg.out) x0 x1 x2 (.bool false) (.int .u64 0) (.int .i64 0))
      clear hA KW HBA HOB ho
      go_wp2_with fail
      exact bodyPost_ret (v:=.tuple #[binV false 0 0,.bool false]) (by simp [results,Tryz.results129,go_sem,x0,x1,x2,binV]) rfl ⟨by rw [HA.out],HX.out⟩
theorem fives_bd {M P n:Nat} {E:Int} (K:Nat) (hK:113≤K) (h:fives M E=some P) (hM:M<B32 ^ n) (hE:E≤1200):P<B32 ^ (n+K):=by
  unfold fives at h
  have e:∀ k,B32 ^ k=2 ^ (32*k):=fun k=>by rw [Nat.pow_mul];rfl
  by_cases h0:0≤E
  · rw [if_pos h0] at h
    cases h
    have h1:5 ^ E.toNat≤2 ^ (3*E.toNat):=by rw [Nat.pow_mul];exact Nat.pow_le_pow_left (by decide) _
    rw [Nat.pow_add]
    refine Nat.lt_of_lt_of_le (Nat.mul_lt_mul_of_pos_right hM (five_pos _)) (Nat.mul_le_mul_left _ (Nat.le_trans h1 ?_))
    rw [e]
    exact Nat.pow_le_pow_right (by decide) (by omega)
  · rw [if_neg h0] at h
    split at h
    · cases h
      exact Nat.lt_of_le_of_lt (Nat.div_le_self _ _) (Nat.lt_of_lt_of_le hM (Nat.pow_le_pow_right B32_pos (by omega)))
    · cases h
def toF (width:Int) (ng:Bool) (M:Nat) (E:Int):Option Nat:=match layOf width with
  | none=>none
  | some (e,f)=>if M=0 then some 0 else match toN e f M E with
    | none=>none
    | some y=>some (y+(if ng then 2 ^ (e+f) else 0))
def toA (o:Option Nat):Value:=match o with
  | none=>.tuple #[.int .u64 0,.bool false]
  | some y=>.tuple #[.int .u64 (y:Int),.bool true]
def ToPost (w0:World) (l:List Ent) (o:Option Nat) (r:Ending) (w':World):Prop:=r=.returned (toA o)∧Ctx w0 w' l
theorem to_none {w0 w:World} {l:List Ent} (h:Ctx w0 w l) (width:Int) (v:Value) (ng:Bool) (E:Int) (hlo:layOf width=none) :
    Calls Tryz.prog 87 #[.int .i64 width,.agg #[.bool ng,v,.int .i64 E]] w (ToPost w0 l none):=by
  have KL:=fun W=>layoutOf_any width W
  unfold layA at KL
  rw [hlo] at KL
  have KLH:=Lib.hid KL
  have H:=Lib.hid (h.step (below_box' w #[.bool ng,v,.int .i64 E] 25))
  clear KL h hlo
  unfold layV at *
  go_enter Tryz.func87,Tryz.ntmps87
  go_wp2_with fail
  refine (KLH.out _).mono ?_
  rintro r w1 ⟨rfl,hb1⟩
  have H1:=Lib.hid ((H.out.step hb1).step (below_box' w1 #[.int .i64 0,.int .i64 0] 151))
  clear hb1
  go_wp2
  go_ret2
  exact ⟨rfl,H1.out⟩
theorem to_zero {w0 w : World} {l : List Ent} (h : Ctx w0 w l) (width : Int) {e f : Nat} (hlo : layOf width = some (e, f)) (ng : Bool) (E : Int) (ad : Option Addr) (n cap : Nat) (xs : List Nat) (hn : xs.length = n) (hcap : n ≤ cap) (hm : n ≤ 1000000000) (ho : Okl xs) (hr : Rd w ad xs) (hbad : chkB ng xs E = false ∨ xs = []) :
    Calls Tryz.prog 87 #[.int .i64 width, .agg #[.bool ng, .slice ad n cap, .int .i64 E]] w (ToPost w0 l (some 0)) := by
  have KL := fun W => layoutOf_any width W
  unfold layA at KL
  rw [hlo] at KL
  have KLH := Lib.hid KL
  have H := Lib.hid (h.step (below_box' w #[.bool ng, .slice ad n cap, .int .i64 E] 25))
  have KC := Lib.hid (fun W (hb : Below w.heap.size w W) => check_any ng ad n cap xs E W hn hcap hm ho (hr.below hb))
  have hbx := below_box' w #[.bool ng, .slice ad n cap, .int .i64 E] 25
  have z0 : (w.alloc (.cells #[.bool ng, .slice ad n cap, .int .i64 E] 25)).cell? ⟨w.heap.size, 0, none⟩ = some (.bool ng) := by simp
  have z1 : (w.alloc (.cells #[.bool ng, .slice ad n cap, .int .i64 E] 25)).cell? ⟨w.heap.size, 1, none⟩ = some (.slice ad n cap) := by simp
  have z2 : (w.alloc (.cells #[.bool ng, .slice ad n cap, .int .i64 E] 25)).cell? ⟨w.heap.size, 2, none⟩ = some (.int .i64 E) := by simp
  have hz : w.heap.size < (w.alloc (.cells #[.bool ng, .slice ad n cap, .int .i64 E] 25)).heap.size := by simp
  have HBX := Lib.hid hbx
  have HBAD := Lib.hid hbad
  have hn0 : xs = [] → n = 0 := fun h => by rw [← hn, h]; rfl
  clear KL h hlo hr ho hbad hbx hn
  unfold layV at *
  go_enter Tryz.func87, Tryz.ntmps87
  go_wp2_with fail
  generalize w.alloc (.cells #[.bool ng, .slice ad n cap, .int .i64 E] 25) = W at *
  refine (KLH.out _).mono ?_
  rintro r w1 ⟨rfl, hb1⟩
  have hb2 := below_on hb1 (below_box' w1 #[.int .i64 (e : Int), .int .i64 (f : Int)] 151)
  have HB2 := Lib.hid hb2
  have y0 := (hb2.cell (p := ⟨w.heap.size, 0, none⟩) hz).trans z0
  have y1 := (hb2.cell (p := ⟨w.heap.size, 1, none⟩) hz).trans z1
  have y2 := (hb2.cell (p := ⟨w.heap.size, 2, none⟩) hz).trans z2
  clear hb1 hb2
  go_wp2_with fail
  generalize w1.alloc (.cells #[.int .i64 (e : Int), .int .i64 (f : Int)] 151) = W2 at *
  have hz2 : w.heap.size < W2.heap.size := cell_lt y0
  refine (KC.out _ (by exact below_on HBX.out HB2.out)).mono ?_
  rintro r w2 ⟨rfl, hb3⟩
  have u0 := (hb3.cell (p := ⟨w.heap.size, 0, none⟩) hz2).trans y0
  have u1 := (hb3.cell (p := ⟨w.heap.size, 1, none⟩) hz2).trans y1
  have u2 := (hb3.cell (p := ⟨w.heap.size, 2, none⟩) hz2).trans y2
  have H3 := Lib.hid ((H.out.step HB2.out).step hb3)
  clear hb3
  cases hch : chkB ng xs E
  · go_wp2
    go_ret2
    exact ⟨rfl, H3.out⟩
  · have hx0 : n = 0 := hn0 (by rcases HBAD.out with h | h
                                · rw [hch] at h; cases h
                                · exact h)
    subst hx0
    go_wp2
    go_ret2
    exact ⟨rfl, H3.out⟩
theorem to_main {w0 w:World} {l:List Ent} (h:Ctx w0 w l) (hT:DB w) (width:Int) {e f:Nat} (hlo:layOf width=some (e,f)) (i:Nat) {ad:Option Addr} {n cap L M:Nat} {xs:List Nat} (hi:l[i]? = some ⟨.slice ad n cap,L,M,xs⟩) (hL:L≤100) (ng:Bool) (E:Int) (hc:chkB ng xs E=true) (hne:xs ≠ []) :
    Calls Tryz.prog 87 #[.int .i64 width,.agg #[.bool ng,.slice ad n cap,.int .i64 E]] w (ToPost w0 l (toF width ng M E)):=by
  obtain ⟨c1,c2,c3,c4,c5⟩:=chkB_some hne hc
  have hl:=layOf_lay hlo
  obtain ⟨ad',cap',hv,a2,a3,a4,a5,a6⟩:=h.get i hi
  simp only [Value.slice.injEq] at hv
  obtain ⟨rfl,rfl,rfl⟩:=hv
  have hM:M ≠ 0:=by rw [← a6];intro h0;rw [h0] at c5;exact c5 rfl
  have hnn:((xs.length:Int) == 0)=false:=by rw [int_beq0];exact decide_eq_false (fun h=>hne (List.eq_nil_of_length_eq_zero h))
  have KL:=fun W=>layoutOf_any width W
  unfold layA at KL
  rw [hlo] at KL
  have KLH:=Lib.hid KL
  have KC:=Lib.hid (fun W (hb:Below w.heap.size w W)=>(by have K:=check_any ng ad xs.length cap xs E W rfl a2 (by omega) a4 (a5.below hb);rw [hc] at K;exact K:Calls Tryz.prog 102 #[.agg #[.bool ng,.slice ad xs.length cap,.int .i64 E]] W (BoolBelow true W)))
  have KB:=Lib.hid (fun W (hW:Ctx W W l) (hD:DB W)=>binaryOf_any hW hD i hi hL hM ng E ⟨c3,c4⟩)
  have hMl:M<B32 ^ 100:=by rw [← a6];exact Nat.lt_of_lt_of_le (val_lt a4) (Nat.pow_le_pow_right B32_pos (by omega))
  have HBD:=Lib.hid (fun P (hP:fives M E=some P)=>tz_bd (fives_ne hM hP) (fives_bd 120 (by decide) hP hMl c4))
  have hto:toF width ng M E=match toN e f M E with | none=>none | some y=>some (y+(if ng then 2 ^ (e+f) else 0)):=by unfold toF;rw [hlo];simp only [];rw [if_neg hM]
  have htn:toN e f M E=match fives M E with | none=>none | some P=>if odd P<2 ^ 64 then joinF e f (odd P) (E+(tz P:Int)) else none:=rfl
  have HTO:=Lib.hid hto;have HTN:=Lib.hid htn
  have HF:=Lib.hid (fun P (hP:fives M E=some P)=>fives_ne hM hP)
  have HFB:=Lib.hid (fun P (hP:fives M E=some P) (h64:odd P<2 ^ 64) W (ht:-100000≤E+(tz P:Int)∧E+(tz P:Int)≤100000)=>join_any hl ng (odd P) (E+(tz P:Int)) (tz_spec (fives_ne hM hP)).2 h64 ht W)
  have hbx:=below_box' w #[.bool ng,.slice ad xs.length cap,.int .i64 E] 25
  have H:=Lib.hid (h.step hbx)
  have HD:=Lib.hid (hT.below hbx)
  have hz:w.heap.size<(w.alloc (.cells #[.bool ng,.slice ad xs.length cap,.int .i64 E] 25)).heap.size:=by simp
  have z0:(w.alloc (.cells #[.bool ng,.slice ad xs.length cap,.int .i64 E] 25)).cell? ⟨w.heap.size,0,none⟩=some (.bool ng):=by simp
  have z1:(w.alloc (.cells #[.bool ng,.slice ad xs.length cap,.int .i64 E] 25)).cell? ⟨w.heap.size,1,none⟩=some (.slice ad xs.length cap):=by simp
  have z2:(w.alloc (.cells #[.bool ng,.slice ad xs.length cap,.int .i64 E] 25)).cell? ⟨w.heap.size,2,none⟩=some (.int .i64 E):=by simp
  have HBX:=Lib.hid hbx
  clear KL h hlo hbx hT a2 a3 a4 a5 a6 hc hne hto htn hM hi hl c1 c2 c5 hMl
  unfold layV at *
  go_enter Tryz.func87,Tryz.ntmps87
  go_wp2_with fail
  generalize w.alloc (.cells #[.bool ng,.slice ad xs.length cap,.int .i64 E] 25)=W at *
  refine (KLH.out _).mono ?_
  rintro r w1 ⟨rfl,hb1⟩
  have hb2:=below_on hb1 (below_box' w1 #[.int .i64 (e:Int),.int .i64 (f:Int)] 151)
  have HB2:=Lib.hid hb2
  have y0:=(hb2.cell (p:=⟨w.heap.size,0,none⟩) hz).trans z0
  have y1:=(hb2.cell (p:=⟨w.heap.size,1,none⟩) hz).trans z1
  have y2:=(hb2.cell (p:=⟨w.heap.size,2,none⟩) hz).trans z2
  have l0:(w1.alloc (.cells #[.int .i64 (e:Int),.int .i64 (f:Int)] 151)).cell? ⟨w1.heap.size,0,none⟩=some (.int .i64 (e:Int)):=by simp
  have l1:(w1.alloc (.cells #[.int .i64 (e:Int),.int .i64 (f:Int)] 151)).cell? ⟨w1.heap.size,1,none⟩=some (.int .i64 (f:Int)):=by simp
  clear hb1 hb2 z0 z1 z2 hz
  go_wp2_with fail
  generalize w1.alloc (.cells #[.int .i64 (e:Int),.int .i64 (f:Int)] 151)=W2 at *
  have hz2:w.heap.size<W2.heap.size:=cell_lt y0
  have hz3:w1.heap.size<W2.heap.size:=cell_lt l0
  refine (KC.out _ (by exact below_on HBX.out HB2.out)).mono ?_
  rintro r w2 ⟨rfl,hb3⟩
  have u0:=(hb3.cell (p:=⟨w.heap.size,0,none⟩) hz2).trans y0
  have u1:=(hb3.cell (p:=⟨w.heap.size,1,none⟩) hz2).trans y1
  have u2:=(hb3.cell (p:=⟨w.heap.size,2,none⟩) hz2).trans y2
  have m0:=(hb3.cell (p:=⟨w1.heap.size,0,none⟩) hz3).trans l0
  have m1:=(hb3.cell (p:=⟨w1.heap.size,1,none⟩) hz3).trans l1
  have H3:=Lib.hid ((H.out.step HB2.out).step hb3)
  have HD3:=Lib.hid ((HD.out.below HB2.out).below hb3)
  clear hb3 l0 l1 y0 y1 y2 hz2 hz3
  go_wp2_with fail
  refine (KB.out _ (by exact H3.out.again) (by exact HD3.out)).mono ?_
  rintro r w3 ⟨rfl,h4⟩
  have hz4:w1.heap.size<w2.heap.size:=cell_lt m0
  have n0:=(h4.below.cell (p:=⟨w1.heap.size,0,none⟩) hz4).trans m0
  have n1:=(h4.below.cell (p:=⟨w1.heap.size,1,none⟩) hz4).trans m1
  have H4:=Lib.hid (h4.on H3.out)
  clear h4 m0 m1 u0 u1 u2
  cases hfv:fives M E with
  | none =>
    have hA:Hid (toF width ng M E=none):=by
      unfold Hid
      have h1:=HTN.out
      rw [hfv] at h1
      rw [HTO.out,h1]
    have hb:bofA ng M E=.tuple #[binV false 0 0,.bool false]:=by unfold bofA;rw [hfv]
    rw [hb]
    unfold binV
    have H5:=Lib.hid (H4.out.step (below_box' w3 #[.bool false,.int .u64 0,.int .i64 0] 155))
    clear hb HTO HTN HF HFB
    go_wp2
    go_ret2
    exact ⟨by rw [hA.out];rfl,H5.out⟩
  | some P =>
    by_cases h64:odd P<2 ^ 64
    · have hb:bofA ng M E=.tuple #[binV ng (odd P) (E+(tz P:Int)),.bool true]:=by unfold bofA;rw [hfv];simp only [];rw [if_pos h64]
      rw [hb]
      have htb:=HBD.out P hfv
      have KJ:=Lib.hid (fun W=>HFB.out P hfv h64 W (by omega))
      have hA:Hid (toF width ng M E=match joinF e f (odd P) (E+(tz P:Int)) with | none=>none | some y=>some (y+(if ng then 2 ^ (e+f) else 0))):=by
        unfold Hid
        have h1:=HTN.out
        rw [hfv] at h1
        simp only [] at h1
        rw [if_pos h64] at h1
        rw [HTO.out,h1]
      have hjA:joinA e f ng (odd P) (E+(tz P:Int))=toA (toF width ng M E):=by
        rw [hA.out];unfold joinA toA
        cases joinF e f (odd P) (E+(tz P:Int)) <;> rfl
      rw [hjA] at KJ
      clear hb HTO HTN HF HFB hjA hA
      generalize odd P=o at *
      generalize E+(tz P:Int)=t at *
      have hbx3:=below_box' w3 #[.bool ng,.int .u64 (o:Int),.int .i64 t] 155
      have hz5:w1.heap.size<w3.heap.size:=cell_lt n0
      have o0:=(hbx3.cell (p:=⟨w1.heap.size,0,none⟩) hz5).trans n0
      have o1:=(hbx3.cell (p:=⟨w1.heap.size,1,none⟩) hz5).trans n1
      have H5:=Lib.hid (H4.out.step hbx3)
      clear hbx3
      unfold binV at *
      cases htf:toF width ng M E with
      | none =>
        rw [htf] at KJ
        unfold toA at KJ
        go_wp2_with fail
        refine (KJ.out _).mono ?_
        rintro r w4 ⟨rfl,hb4⟩
        have H6:=Lib.hid (H5.out.step hb4)
        clear hb4
        go_wp2
        go_ret2
        exact ⟨by first | rfl | (rw [htf];rfl),H6.out⟩
      | some y =>
        rw [htf] at KJ
        unfold toA at KJ
        go_wp2_with fail
        refine (KJ.out _).mono ?_
        rintro r w4 ⟨rfl,hb4⟩
        have H6:=Lib.hid (H5.out.step hb4)
        clear hb4
        go_wp2
        go_ret2
        exact ⟨by first | rfl | (rw [htf];rfl),H6.out⟩
    · have hA:Hid (toF width ng M E=none):=by
        unfold Hid
        have h1:=HTN.out
        rw [hfv] at h1
        simp only [] at h1
        rw [if_neg h64] at h1
        rw [HTO.out,h1]
      have hb:bofA ng M E=.tuple #[binV false 0 0,.bool false]:=by unfold bofA;rw [hfv];simp only [];rw [if_neg h64]
      rw [hb]
      unfold binV
      have H5:=Lib.hid (H4.out.step (below_box' w3 #[.bool false,.int .u64 0,.int .i64 0] 155))
      clear hb HTO HTN HF HFB
      go_wp2
      go_ret2
      exact ⟨by rw [hA.out];rfl,H5.out⟩
def shA (ng:Bool) (M:Nat) (E:Int):Value:=match toF 16 ng M E with
  | some y=>.tuple #[.int .i64 16,.int .u64 (y:Int),.bool true]
  | none=>match toF 32 ng M E with
    | some y=>.tuple #[.int .i64 32,.int .u64 (y:Int),.bool true]
    | none=>match toF 64 ng M E with
      | some y=>.tuple #[.int .i64 64,.int .u64 (y:Int),.bool true]
      | none=>.tuple #[.int .i64 0,.int .u64 0,.bool false]
def SWRel (w0 w : World) (l : List Ent) (G : Nat) (ng : Bool) (v : Value) (E : Int) (T : Int → Option Nat) (i : Value) (wr : World) : Prop :=
  ∃ k : Nat, k ≤ 3 ∧ i = .int .i64 (if k = 0 then 16 else if k = 1 then 32 else if k = 2 then 64 else 128) ∧ (0 < k → T 16 = none) ∧ (1 < k → T 32 = none) ∧ (2 < k → T 64 = none) ∧ Ctx w0 wr l ∧ Below w.heap.size w wr ∧
    wr.cell? ⟨G, 0, none⟩ = some (.bool ng) ∧ wr.cell? ⟨G, 1, none⟩ = some v ∧ wr.cell? ⟨G, 2, none⟩ = some (.int .i64 E)
theorem shortest_core {w0 w:World} {l:List Ent} (h:Ctx w0 w l) (ng:Bool) (v:Value) (E:Int) (T:Int→Option Nat)
    (KT:∀ W (width:Int),Below w.heap.size w W→Calls Tryz.prog 87 #[.int .i64 width,.agg #[.bool ng,v,.int .i64 E]] W fun r w'=>r=.returned (toA (T width))∧Below W.heap.size W w') (A:Value)
    (hA:A=match T 16 with
      | some y=>.tuple #[.int .i64 16,.int .u64 (y:Int),.bool true]
      | none=>match T 32 with
        | some y=>.tuple #[.int .i64 32,.int .u64 (y:Int),.bool true]
        | none=>match T 64 with
          | some y=>.tuple #[.int .i64 64,.int .u64 (y:Int),.bool true]
          | none=>.tuple #[.int .i64 0,.int .u64 0,.bool false]) :
    Calls Tryz.prog 50 #[.agg #[.bool ng,v,.int .i64 E]] w fun r w'=>r=.returned A∧Ctx w0 w' l:=by
  have KTH:=Lib.hid KT
  have HAA:=Lib.hid hA
  have HBX:=Lib.hid (below_box' w #[.bool ng,v,.int .i64 E] 25)
  have H:=Lib.hid h
  clear KT hA h
  go_enter Tryz.func50,Tryz.ntmps50
  go_wp2_with fail
  have z0:(w.alloc (.cells #[.bool ng,v,.int .i64 E] 25)).cell? ⟨w.heap.size,0,none⟩=some (.bool ng):=by simp
  have z1:(w.alloc (.cells #[.bool ng,v,.int .i64 E] 25)).cell? ⟨w.heap.size,1,none⟩=some v:=by simp
  have z2:(w.alloc (.cells #[.bool ng,v,.int .i64 E] 25)).cell? ⟨w.heap.size,2,none⟩=some (.int .i64 E):=by simp
  have hzW:w.heap.size<(w.alloc (.cells #[.bool ng,v,.int .i64 E] 25)).heap.size:=by simp
  generalize w.alloc (.cells #[.bool ng,v,.int .i64 E] 25)=W at *
  have HW:=Lib.hid (H.out.step HBX.out)
  go_loopw [2,3,4] (fun i b o wr=>SWRel w0 w l w.heap.size ng v E T i wr) (fun i _ _ _=>(200 - intOf i).toNat)
  case atStart=>exact ⟨0,by omega,rfl,fun h=>absurd h (by omega),fun h=>absurd h (by omega),fun h=>absurd h (by omega),HW.out,HBX.out,z0,z1,z2⟩
  case round =>
    clear HBX HW H
    obtain ⟨k,hk,rfl,h16,h32,h64,hctx,hbw,d0,d1,d2⟩:=hrel
    replace hctx:=Lib.hid hctx
    replace hbw:=Lib.hid hbw
    have hzr:w.heap.size<wr.heap.size:=cell_lt d0
    have hk4:k=0∨k=1∨k=2∨k=3:=by omega
    rcases hk4 with rfl | rfl | rfl | rfl
    · rw [if_pos rfl]
      cases hT:T 16 with
      | none =>
        have KT2:=Lib.hid (KTH.out wr 16 (by exact hbw.out))
        rw [hT] at KT2
        unfold toA at KT2
        go_wp2_with fail
        refine KT2.out.mono ?_
        rintro r w2 ⟨rfl,hb2⟩
        have HC2:=Lib.hid (hctx.out.step hb2)
        have HB2:=Lib.hid (below_on hbw.out hb2)
        have e0:=(hb2.cell (p:=⟨w.heap.size,0,none⟩) hzr).trans d0
        have e1:=(hb2.cell (p:=⟨w.heap.size,1,none⟩) hzr).trans d1
        have e2:=(hb2.cell (p:=⟨w.heap.size,2,none⟩) hzr).trans d2
        clear hb2 d0 d1 d2
        go_wp2
        go_roundw
        case rel=>exact ⟨1,by omega,rfl,fun _=>hT,fun h=>absurd h (by omega),fun h=>absurd h (by omega),HC2.out,HB2.out,e0,e1,e2⟩
        case measure=>simp [intOf]
      | some y =>
        have KT2:=Lib.hid (KTH.out wr 16 (by exact hbw.out))
        rw [hT] at KT2
        unfold toA at KT2
        go_wp2_with fail
        refine KT2.out.mono ?_
        rintro r w2 ⟨rfl,hb2⟩
        have HC2:=Lib.hid (hctx.out.step hb2)
        clear hb2
        have HA2:Hid (A=.tuple #[.int .i64 16,.int .u64 (y:Int),.bool true]):=by
          unfold Hid
          rw [HAA.out,hT]
        go_wp2
        exact bodyPost_ret (v:=.tuple #[.int .i64 16,.int .u64 (y:Int),.bool true]) (by simp [results,Tryz.results50,go_sem]) rfl ⟨by rw [HA2.out],HC2.out⟩
    · rw [if_neg (by decide),if_pos rfl]
      cases hT:T 32 with
      | none =>
        have KT2:=Lib.hid (KTH.out wr 32 (by exact hbw.out))
        rw [hT] at KT2
        unfold toA at KT2
        go_wp2_with fail
        refine KT2.out.mono ?_
        rintro r w2 ⟨rfl,hb2⟩
        have HC2:=Lib.hid (hctx.out.step hb2)
        have HB2:=Lib.hid (below_on hbw.out hb2)
        have e0:=(hb2.cell (p:=⟨w.heap.size,0,none⟩) hzr).trans d0
        have e1:=(hb2.cell (p:=⟨w.heap.size,1,none⟩) hzr).trans d1
        have e2:=(hb2.cell (p:=⟨w.heap.size,2,none⟩) hzr).trans d2
        clear hb2 d0 d1 d2
        go_wp2
        go_roundw
        case rel=>exact ⟨2,by omega,rfl,fun _=>h16 (by omega),fun h=>hT,fun h=>absurd h (by omega),HC2.out,HB2.out,e0,e1,e2⟩
        case measure=>simp [intOf]
      | some y =>
        have KT2:=Lib.hid (KTH.out wr 32 (by exact hbw.out))
        rw [hT] at KT2
        unfold toA at KT2
        go_wp2_with fail
        refine KT2.out.mono ?_
        rintro r w2 ⟨rfl,hb2⟩
        have HC2:=Lib.hid (hctx.out.step hb2)
        clear hb2
        have HA2:Hid (A=.tuple #[.int .i64 32,.int .u64 (y:Int),.bool true]):=by
          unfold Hid
          rw [HAA.out,h16 (by omega),hT]
        go_wp2
        exact bodyPost_ret (v:=.tuple #[.int .i64 32,.int .u64 (y:Int),.bool true]) (by simp [results,Tryz.results50,go_sem]) rfl ⟨by rw [HA2.out],HC2.out⟩
    · rw [if_neg (by decide),if_neg (by decide),if_pos rfl]
      cases hT:T 64 with
      | none =>
        have KT2:=Lib.hid (KTH.out wr 64 (by exact hbw.out))
        rw [hT] at KT2
        unfold toA at KT2
        go_wp2_with fail
        refine KT2.out.mono ?_
        rintro r w2 ⟨rfl,hb2⟩
        have HC2:=Lib.hid (hctx.out.step hb2)
        have HB2:=Lib.hid (below_on hbw.out hb2)
        have e0:=(hb2.cell (p:=⟨w.heap.size,0,none⟩) hzr).trans d0
        have e1:=(hb2.cell (p:=⟨w.heap.size,1,none⟩) hzr).trans d1
        have e2:=(hb2.cell (p:=⟨w.heap.size,2,none⟩) hzr).trans d2
        clear hb2 d0 d1 d2
        go_wp2
        go_roundw
        case rel=>exact ⟨3,by omega,rfl,fun _=>h16 (by omega),fun h=>h32 (by omega),fun h=>hT,HC2.out,HB2.out,e0,e1,e2⟩
        case measure=>simp [intOf]
      | some y =>
        have KT2:=Lib.hid (KTH.out wr 64 (by exact hbw.out))
        rw [hT] at KT2
        unfold toA at KT2
        go_wp2_with fail
        refine KT2.out.mono ?_
        rintro r w2 ⟨rfl,hb2⟩
        have HC2:=Lib.hid (hctx.out.step hb2)
        clear hb2
        have HA2:Hid (A=.tuple #[.int .i64 64,.int .u64 (y:Int),.bool true]):=by
          unfold Hid
          rw [HAA.out,h16 (by omega),h32 (by omega),hT]
        go_wp2
        exact bodyPost_ret (v:=.tuple #[.int .i64 64,.int .u64 (y:Int),.bool true]) (by simp [results,Tryz.results50,go_sem]) rfl ⟨by rw [HA2.out],HC2.out⟩
    · rw [if_neg (by decide),if_neg (by decide),if_neg (by decide)]
      have HA2:Hid (A=.tuple #[.int .i64 0,.int .u64 0,.bool false]):=by
        unfold Hid
        rw [HAA.out,h16 (by omega),h32 (by omega),h64 (by omega)]
      go_wp2
      exact bodyPost_ret (v:=.tuple #[.int .i64 0,.int .u64 0,.bool false]) (by simp [results,Tryz.results50,go_sem]) rfl ⟨by rw [HA2.out],hctx.out⟩
theorem to_num {w0 w:World} {l:List Ent} (h:Ctx w0 w l) (hT:DB w) (width:Int) (i:Nat) {ad:Option Addr} {n cap L M:Nat} {xs:List Nat} (hi:l[i]? = some ⟨.slice ad n cap,L,M,xs⟩) (hL:L≤100) (ng:Bool) (E:Int) (hc:chkB ng xs E=true) :
    Calls Tryz.prog 87 #[.int .i64 width,.agg #[.bool ng,.slice ad n cap,.int .i64 E]] w (ToPost w0 l (toF width ng M E)):=by
  cases hlo:layOf width with
  | none =>
    have:toF width ng M E=none:=by unfold toF;rw [hlo]
    rw [this]
    exact to_none h width _ ng E hlo
  | some p =>
    obtain ⟨e,f⟩:=p
    by_cases hx:xs=[]
    · obtain ⟨ad',cap',hv,a2,a3,a4,a5,a6⟩:=h.get i hi
      have hM:M=0:=by rw [← a6,hx];rfl
      have:toF width ng M E=some 0:=by unfold toF;rw [hlo];simp only [];rw [if_pos hM]
      rw [this]
      simp only [Value.slice.injEq] at hv
      obtain ⟨rfl,rfl,rfl⟩:=hv
      exact to_zero h width hlo ng E ad _ cap xs rfl a2 (by omega) a4 a5 (.inr hx)
    · exact to_main h hT width hlo i hi hL ng E hc hx
theorem shortest_num {w0 w:World} {l:List Ent} (h:Ctx w0 w l) (hT:DB w) (i:Nat) {ad:Option Addr} {n cap L M:Nat} {xs:List Nat} (hi:l[i]? = some ⟨.slice ad n cap,L,M,xs⟩) (hL:L≤100) (ng:Bool) (E:Int) (hc:chkB ng xs E=true) :
    Calls Tryz.prog 50 #[.agg #[.bool ng,.slice ad n cap,.int .i64 E]] w fun r w'=>r=.returned (shA ng M E)∧Ctx w0 w' l :=
  shortest_core h ng _ E (fun width=>toF width ng M E) (fun W width hW=>(to_num (h.step hW).again (hT.below hW) width i hi hL ng E hc).mono fun _ _ ⟨h1,h2⟩=>⟨h1,h2.below⟩) _ rfl
end Go.Proofs.YtnacbakcalcgaaaGreatDoor
