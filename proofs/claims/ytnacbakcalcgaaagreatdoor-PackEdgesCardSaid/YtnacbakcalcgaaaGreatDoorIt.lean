/- Texts of the claim. -/
import Derived.Test.YtnacbakcalcgaaaGreatDoorIs
set_option linter.unusedVariables false
set_option linter.unusedSimpArgs false
set_option maxHeartbeats 8000000
set_option maxRecDepth 100000
namespace Go.Proofs.YtnacbakcalcgaaaGreatDoor
open Go.RowKit Go.Sort
structure JB (w:World) (g e f:Nat) (ng:Bool) (o:Nat) (t:Int):Prop where
  lt:g+1<w.heap.size
  c0:w.cell? ⟨g,0,none⟩=some (.int .i64 (e:Int))
  c1:w.cell? ⟨g,1,none⟩=some (.int .i64 (f:Int))
  d0:w.cell? ⟨g+1,0,none⟩=some (.bool ng)
  d1:w.cell? ⟨g+1,1,none⟩=some (.int .u64 (o:Int))
  d2:w.cell? ⟨g+1,2,none⟩=some (.int .i64 t)
theorem JB.step {w w':World} {g e f o:Nat} {ng:Bool} {t:Int} (h:JB w g e f ng o t) (hb:Below w.heap.size w w'):JB w' g e f ng o t :=
  have h0:g<w.heap.size:=by have:=h.lt;omega
  ⟨Nat.lt_of_lt_of_le h.lt hb.size,(hb.cell (p:=⟨g,0,none⟩) h0).trans h.c0,(hb.cell (p:=⟨g,1,none⟩) h0).trans h.c1,(hb.cell (p:=⟨g+1,0,none⟩) h.lt).trans h.d0,(hb.cell (p:=⟨g+1,1,none⟩) h.lt).trans h.d1,(hb.cell (p:=⟨g+1,2,none⟩) h.lt).trans h.d2⟩
theorem jb_new (w:World) (e f o:Nat) (ng:Bool) (t:Int):JB ((w.alloc (.cells #[.int .i64 (e:Int),.int .i64 (f:Int)] 151)).alloc (.cells #[.bool ng,.int .u64 (o:Int),.int .i64 t] 155)) w.heap.size e f ng o t :=
  ⟨by simp,by rw [cell_old _ _ _ _ (by simp),cell_new];rfl,by rw [cell_old _ _ _ _ (by simp),cell_new];rfl,by rw [cell_at _ _ _ _ _ (by simp)];rfl,by rw [cell_at _ _ _ _ _ (by simp)];rfl,by rw [cell_at _ _ _ _ _ (by simp)];rfl⟩
theorem len64_any (o:Nat) (w:World) (h:o<18446744073709551616):Calls Tryz.prog 160 #[.int .u64 (o:Int)] w fun e w'=>e=.returned (.int .i64 ((lenB o:Nat):Int))∧w'=w :=
  (Tryz.bits_Len64 (o:Int) w (by omega) (by omega)).mono fun _ _ h=>by simpa [lenB] using h
theorem or_add2 {a f:Nat} (h:a<2 ^ f) (hf:f<64):bits BinOp.or IntKind.u64 (a:Int) ((2 ^ f:Nat):Int)=((a+2 ^ f:Nat):Int):=by
  have h1:2 ^ f≤2 ^ 63:=Nat.pow_le_pow_right (by decide) (by omega)
  rw [bits_or_u64_nat a _ (by omega) (by omega),Nat.or_comm,nat_join f (2 ^ f) a (Nat.mod_self _) h,Nat.add_comm]
def joinA (e f:Nat) (ng:Bool) (o:Nat) (t:Int):Value:=match joinF e f o t with | none=>.tuple #[.int .u64 0,.bool false] | some y=>.tuple #[.int .u64 ((y+(if ng then 2 ^ (e+f) else 0):Nat):Int),.bool true]
theorem join_any {e f:Nat} (hl:Lay e f) (ng:Bool) (o:Nat) (t:Int) (ho:o % 2=1) (h64:o<18446744073709551616) (ht:-100000≤t∧t≤100000) (w:World) :
    Calls Tryz.prog 130 #[layV e f,binV ng o t] w fun r w'=>r=.returned (joinA e f ng o t)∧Below w.heap.size w w':=by
  have h0:o ≠ 0:=by omega
  obtain ⟨l1,l2,l3⟩:=lenB_bounds h0 h64
  have hL64:lenB o≤64:=Lib.bitLen_le o 64 (by decide) h64
  obtain ⟨p1,p2,f1,f2,b1,b2⟩:=lay_bd hl
  have hls:-1074≤leastF e f∧leastF e f≤-24:=by rcases hl with ⟨rfl,rfl⟩ | ⟨rfl,rfl⟩ | ⟨rfl,rfl⟩ <;> decide
  have KL:=Lib.hid (fun W=>leastPlace_any hl W)
  have KB:=Lib.hid (fun W=>bias_any hl W)
  have K6:=Lib.hid (fun W=>len64_any o W h64)
  have HJ:=Lib.hid (jb_new w e f o ng t)
  have HB:=Lib.hid ((below_box' w #[.int .i64 (e:Int),.int .i64 (f:Int)] 151).alloc (by simp) (.cells #[.bool ng,.int .u64 (o:Int),.int .i64 t] 155))
  have hjf:joinA e f ng o t=if (t+(lenB o:Int) - 1 > 2 ^ (e - 1) - 1∨t<max (t+(lenB o:Int) - 1 - (f:Int)) (leastF e f)) then .tuple #[.int .u64 0,.bool false] else .tuple #[.int .u64 ((o*2 ^ (t - max (t+(lenB o:Int) - 1 - (f:Int)) (leastF e f)).toNat+(max (t+(lenB o:Int) - 1 - (f:Int)) (leastF e f) - leastF e f).toNat*2 ^ f+(if ng then 2 ^ (e+f) else 0):Nat):Int),.bool true]:=by
    unfold joinA joinF
    simp only []
    by_cases hc:(t+(lenB o:Int) - 1 > 2 ^ (e - 1) - 1∨t<max (t+(lenB o:Int) - 1 - (f:Int)) (leastF e f))
    · rw [if_pos hc,if_pos hc]
    · rw [if_neg hc,if_neg hc]
  have HJF:=Lib.hid hjf;clear hjf
  have HYB:Hid (¬ (t+(lenB o:Int) - 1 > 2 ^ (e - 1) - 1∨t<max (t+(lenB o:Int) - 1 - (f:Int)) (leastF e f))→o*2 ^ (t - max (t+(lenB o:Int) - 1 - (f:Int)) (leastF e f)).toNat+(max (t+(lenB o:Int) - 1 - (f:Int)) (leastF e f) - leastF e f).toNat*2 ^ f<2 ^ (e+f)):=fun hc=>(join_back hl ho h64 (by unfold joinF;simp only [];rw [if_neg hc])).1
  have hef63:2 ^ (e+f)≤2 ^ 63:=Nat.pow_le_pow_right (by decide) (by omega)
  have hpw:(2:Int) ^ f=((2 ^ f:Nat):Int):=by push_cast;rfl
  have hpw2:(2:Int) ^ (e+f)=((2 ^ (e+f):Nat):Int):=by push_cast;rfl
  have hor2:∀ y:Nat,y<2 ^ (e+f)→bits BinOp.or IntKind.u64 (y:Int) ((2 ^ (e+f):Nat):Int)=((y+2 ^ (e+f):Nat):Int):=fun y hy=>or_add2 hy (by omega)
  generalize joinA e f ng o t=A at *
  generalize hlb:lenB o=L at *
  generalize leastF e f=lst at *
  generalize (2:Int) ^ (e - 1) - 1=b at *
  obtain ⟨top,htop⟩:∃ top:Int,t+(L:Int) - 1=top:=⟨_,rfl⟩
  have hw1:IntKind.i64.wrap (t+(L:Int))=t+(L:Int):=IntWalk.i64_in _ (by omega)
  have hw2:IntKind.i64.wrap (t+(L:Int) - 1)=top:=by rw [htop];exact IntWalk.i64_in _ (by omega)
  rw [htop] at HJF HYB
  have HTOP:=Lib.hid htop
  have htb:-110000≤top∧top≤110000:=by omega
  clear htop
  go_enter Tryz.func130,Tryz.ntmps130
  unfold layV binV
  go_wp2_with fail
  generalize hW:((w.alloc (.cells #[.int .i64 (e:Int),.int .i64 (f:Int)] 151)).alloc (.cells #[.bool ng,.int .u64 (o:Int),.int .i64 t] 155))=W at *
  clear hW
  obtain ⟨j1,j2,j3,j4,j5,j6⟩:=HJ.out
  go_region_held3 (fun w'=>w'.cell? ⟨w.heap.size+1,1,none⟩=some (.int .u64 (o:Int))∧w'.cell? ⟨w.heap.size+1,2,none⟩=some (.int .i64 t)) (go_keep)
    (first
      | (go_at_call 160;refine (K6.out _).mono ?_;rintro r w1 ⟨rfl,rfl⟩))
  all_goals go_wp2_with fail
  have HJ1:=Lib.hid (HJ.out.step (below_drew (Below.refl _ _)))
  have HB1:=Lib.hid (below_on HB.out (below_drew (Below.refl _ _)))
  clear HJ HB j1 j2 j3 j4 j5 j6
  generalize W.drew=W1 at *
  obtain ⟨j1,j2,j3,j4,j5,j6⟩:=HJ1.out
  have hw3:IntKind.i64.wrap (top - (f:Int))=top - (f:Int):=IntWalk.i64_in _ (by omega)
  have hz1:w.heap.size<W1.heap.size:=by omega
  go_region_held3 (fun w'=>w'.cell? ⟨w.heap.size,0,none⟩=some (.int .i64 (e:Int))∧w'.cell? ⟨w.heap.size,1,none⟩=some (.int .i64 (f:Int))) (go_keep)
    (first
      | (go_at_call 166;refine (KL.out _).mono ?_;rintro r w2 ⟨rfl,hb2⟩;have hB2:=below_on (below_drew (Below.refl W1.heap.size W1)) hb2;have q0:=(hB2.cell (p:=⟨w.heap.size,0,none⟩) hz1).trans j2;have q1:=(hB2.cell (p:=⟨w.heap.size,1,none⟩) hz1).trans j3))
  all_goals go_wp2_with fail
  have HJ2:=Lib.hid (HJ1.out.step hB2)
  have HB2:=Lib.hid (below_on HB1.out hB2)
  clear HJ1 HB1 j1 j2 j3 j4 j5 j6 q0 q1 hb2 hB2
  obtain ⟨pl,hpl⟩:∃ pl:Int,max (top - (f:Int)) lst=pl:=⟨_,rfl⟩
  rw [hpl] at HJF HYB ⊢
  have hpb:-110000≤pl∧pl≤110000∧lst≤pl:=by omega
  clear hpl
  refine (KB.out _).mono ?_
  rintro r w3 ⟨rfl,hb3⟩
  have HJ3:=Lib.hid (HJ2.out.step hb3)
  have HB3:=Lib.hid (below_on HB2.out hb3)
  clear HJ2 HB2 hb3
  obtain ⟨j1,j2,j3,j4,j5,j6⟩:=HJ3.out
  by_cases hc1:top > b
  · have hJ:=HJF.out
    rw [if_pos (.inl hc1)] at hJ
    have hcc:b<top:=hc1
    have HJX:=Lib.hid hJ;clear hJ HJF HYB hc1
    go_wp2
    go_ret2
    exact ⟨by rw [HJX.out];rfl,HB3.out⟩
  · have hcc:¬ b<top:=hc1
    by_cases hc2:t<pl
    · have hJ:=HJF.out
      rw [if_pos (.inr hc2)] at hJ
      have HJX:=Lib.hid hJ;clear hJ HJF HYB hc1
      go_wp2
      go_ret2
      exact ⟨by rw [HJX.out];rfl,HB3.out⟩
    · have hJ:=HJF.out
      have hno:¬ (top > b∨t<pl):=by omega
      rw [if_neg hno] at hJ
      have hy:=HYB.out hno
      obtain ⟨d,hd⟩:∃ d:Nat,t - pl=(d:Int):=⟨(t - pl).toNat,by omega⟩
      obtain ⟨q,hq⟩:∃ q:Nat,pl - lst=(q:Int):=⟨(pl - lst).toNat,by omega⟩
      rw [hd,hq,Int.toNat_natCast,Int.toNat_natCast] at hJ hy
      have hsh1:IntKind.u64.wrap ((o:Int)*2 ^ min d 64)=((o*2 ^ d:Nat):Int):=by
        have hlt:o*2 ^ d<18446744073709551616:=by omega
        have e1:o*2 ^ min d 64=o*2 ^ d:=min_shift hlt
        have e:(o:Int)*2 ^ min d 64=((o*2 ^ d:Nat):Int):=by rw [← e1];push_cast;rfl
        rw [e]
        generalize o*2 ^ d=Y at *
        exact IntWalk.u64_in _ (by omega)
      have hsh2:IntKind.u64.wrap ((q:Int)*2 ^ f)=((q*2 ^ f:Nat):Int):=by
        have e:(q:Int)*2 ^ f=((q*2 ^ f:Nat):Int):=by push_cast;rfl
        rw [e]
        generalize q*2 ^ f=Y at *
        exact IntWalk.u64_in _ (by omega)
      have hor:=hor2 _ hy
      have HPW2:=Lib.hid hpw2
      have HSH1:=Lib.hid hsh1
      have HSH2:=Lib.hid hsh2
      have HJX:=Lib.hid hJ
      clear hJ HJF HYB hc1 hno hor2 hsh1 hsh2 hpw hpw2
      generalize q*2 ^ f=Y2 at *
      generalize o*2 ^ d=Y1 at *
      generalize (2:Nat) ^ (e+f)=Q at *
      have hwq:IntKind.i64.wrap (pl - lst)=(q:Int):=by rw [hq];exact IntWalk.i64_in _ (by omega)
      have hwd:IntKind.i64.wrap (t - pl)=(d:Int):=by rw [hd];exact IntWalk.i64_in _ (by omega)
      have hwe:IntKind.i64.wrap ((e:Int)+(f:Int))=(e:Int)+(f:Int):=IntWalk.i64_in _ (by omega)
      have hsum:IntKind.u64.wrap ((Y1:Int)+(Y2:Int))=((Y1+Y2:Nat):Int):=by rw [← Int.natCast_add];exact IntWalk.u64_in _ (by omega)
      have HSUM:=Lib.hid hsum
      have HOR:=Lib.hid hor
      have HY:=Lib.hid hy
      clear hsum hor hy
      go_wp2_with fail
      rw [HSH1.out]
      have hz3:w.heap.size<w3.heap.size:=by omega
      have hfl:(0:Int)≤(f:Int)∧(f:Int)<64:=by omega
      have hq0:IntKind.u64.wrap (q:Int)=(q:Int):=IntWalk.u64_in _ (by omega)
      go_region_held3 (fun w'=>w'.cell? ⟨w.heap.size,0,none⟩=some (.int .i64 (e:Int))∧w'.cell? ⟨w.heap.size,1,none⟩=some (.int .i64 (f:Int))) (go_keep)
        (first
          | (go_at_call 166;refine (KL.out _).mono ?_;rintro r w4 ⟨rfl,hb4⟩;have hB4:=below_on (below_drew (Below.refl w3.heap.size w3)) hb4;have q0:=(hB4.cell (p:=⟨w.heap.size,0,none⟩) hz3).trans j2;have q1:=(hB4.cell (p:=⟨w.heap.size,1,none⟩) hz3).trans j3))
      all_goals
        have hjj:=HJ3.out.step hB4
        obtain ⟨i1,i2,i3,i4,i5,i6⟩:=hjj
        have hqi:IntKind.i64.wrap (q:Int)=(q:Int):=IntWalk.i64_in _ (by omega)
        have HB4:=Lib.hid (below_on HB3.out hB4)
        rw [hqi,hq0,HSH2.out,HSUM.out]
        clear hb4 hB4 q0 q1 hqi hq0 hwq hwd hw1 hw2 hw3 j1 j2 j3 j4 j5 j6 hd hq
        have hY:=HY.out
        generalize Y1+Y2=Y at *
        cases ng
        · go_wp2
          go_ret2
          exact ⟨by rw [HJX.out];rfl,HB4.out⟩
        · have hsq:IntKind.u64.wrap (1*2 ^ (e+f))=(Q:Int):=by rw [Int.one_mul,HPW2.out];exact IntWalk.u64_in _ (by omega)
          have hsq2:IntKind.u64.wrap (2 ^ (e+f))=(Q:Int):=by rw [HPW2.out];exact IntWalk.u64_in _ (by omega)
          have hef:(0:Int)≤(e:Int)+(f:Int)∧(e:Int)+(f:Int)<64:=by omega
          have hor:=HOR.out
          go_wp2_with fail
          go_ret2
          exact ⟨by rw [HJX.out];first | rfl | (simp;done),HB4.out⟩
def fiveP (M:Nat) (E:Int):Nat:=if 0≤E then M*5 ^ E.toNat else M / 5 ^ (-E).toNat
theorem fives_some {M:Nat} {E:Int}:fives M E=if (fives M E).isSome then some (fiveP M E) else none:=by
  unfold fives fiveP
  by_cases h:0≤E
  · rw [if_pos h,if_pos h];rfl
  · rw [if_neg h,if_neg h]
    split <;> rfl
theorem timesFives_any {w0 w:World} {l:List Ent} (h:Ctx w0 w l) (i:Nat) {v:Value} {L M:Nat} {xs:List Nat} (hi:l[i]? = some ⟨v,L,M,xs⟩) (hL:L≤100) (E:Int) (hE:-1200≤E∧E≤1200) :
    Calls Tryz.prog 163 #[v,.int .i64 E] w fun r w'=>∃ v',r=.returned (.tuple #[v',.bool (fives M E).isSome])∧Ctx w0 w' (⟨v',2000,fiveP M E,limbs (fiveP M E)⟩::l):=by
  by_cases h0:0≤E
  · obtain ⟨k,hk⟩:∃ k:Nat,E=(k:Int):=⟨E.toNat,by omega⟩
    have KP:=Lib.hid (pow_c h (b:=5) (by decide) E k (by unfold cutP;omega))
    have KM:=Lib.hid (fun w1 v1 (h1:Ctx w0 w1 (⟨v1,k+1,5 ^ k,limbs (5 ^ k)⟩::l))=>mul_c h1 (i+1) 0 (by rw [List.getElem?_cons_succ];exact hi) rfl (by omega) (by omega))
    have H1:Hid ((fives M E).isSome=true):=by unfold fives;rw [if_pos h0];rfl
    have H2:Hid (fiveP M E=M*5 ^ k):=by unfold fiveP;rw [if_pos h0,hk];rfl
    have hkb:k≤1200:=by omega
    clear h hi hk
    go_enter Tryz.func163,Tryz.ntmps163
    go_wp2_with fail
    refine KP.out.mono ?_
    rintro r w1 ⟨v1,rfl,h1⟩
    have HH1:=Lib.hid h1;clear h1
    go_wp2_with fail
    refine (KM.out _ _ (by exact HH1.out)).mono ?_
    rintro r w2 ⟨v2,rfl,h2⟩
    have HH2:=Lib.hid h2;clear h2
    go_wp2
    go_ret2
    refine ⟨v2,by rw [H1.out];rfl,?_⟩
    rw [H2.out]
    have h3:=HH2.out
    have h4:Ctx w0 w2 (⟨v2,L+(k+1),M*5 ^ k,limbs (M*5 ^ k)⟩::l):=⟨h3.below,fun y hy=>h3.all y (by rcases List.mem_cons.1 hy with rfl | h5 <;> simp_all)⟩
    exact h4.wide (by omega)
  · obtain ⟨k,hk⟩:∃ k:Nat,E = -(k:Int):=⟨(-E).toNat,by omega⟩
    have hlt:¬ (E ≥ 0):=by omega
    have KP:=Lib.hid (pow_c h (b:=5) (by decide) (-E) k (by unfold cutP;omega))
    have KM:=Lib.hid (fun w1 v1 (h1:Ctx w0 w1 (⟨v1,k+1,5 ^ k,limbs (5 ^ k)⟩::l))=>div_c h1 (i+1) 0 (by rw [List.getElem?_cons_succ];exact hi) rfl (by omega) (by omega))
    have H1:Hid ((fives M E).isSome=decide (rmN M (5 ^ k)=0)):=by
      unfold fives rmN;rw [if_neg h0,if_neg (Nat.pos_iff_ne_zero.1 (five_pos k)),show (-E).toNat=k by omega]
      by_cases hr:M % 5 ^ k=0
      · rw [if_pos hr,decide_eq_true hr];rfl
      · rw [if_neg hr,decide_eq_false hr];rfl
    have H2:Hid (fiveP M E=M / 5 ^ k):=by unfold fiveP;rw [if_neg h0,show (-E).toNat=k by omega];exact rfl
    have hnw:IntKind.i64.wrap (-E) = -E:=IntWalk.i64_in _ (by omega)
    have HK:=Lib.hid hk
    clear h hi hk
    go_enter Tryz.func163,Tryz.ntmps163
    go_wp2_with fail
    refine KP.out.mono ?_
    rintro r w1 ⟨v1,rfl,h1⟩
    have HH1:=Lib.hid h1;clear h1
    go_wp2_with fail
    refine (KM.out _ _ (by exact HH1.out)).mono ?_
    rintro r w2 ⟨v2,v3,rfl,h2⟩
    obtain ⟨ad3,cap3,hv3,_⟩:=h2.get 1 rfl
    subst hv3
    have HH2:=Lib.hid h2;clear h2
    have HR:=Lib.hid (limbs_nil_iff (rmN M (5 ^ k)))
    generalize hzz:limbs (rmN M (5 ^ k))=zs at *
    have HZ:=Lib.hid hzz;clear hzz
    have h3:=HH2.out
    have h4:Ctx w0 w2 (⟨v2,L,M / 5 ^ k,limbs (M / 5 ^ k)⟩::l):=⟨h3.below,fun y hy=>h3.all y (by rcases List.mem_cons.1 hy with rfl | h5 <;> simp_all)⟩
    have H4:=Lib.hid (h4.wide (L':=2000) (by omega))
    clear h3 h4
    have HB:Hid (((zs.length:Int) == 0)=decide (rmN M (5 ^ k)=0)):=by
      unfold Hid
      rw [int_beq0]
      refine decide_eq_decide.2 ?_
      rw [← HR.out]
      exact ⟨fun h=>List.eq_nil_of_length_eq_zero h,fun h=>by rw [h];rfl⟩
    go_wp2
    go_ret2
    refine ⟨v2,by rw [H1.out,← HB.out];rfl,?_⟩
    rw [H2.out]
    exact H4.out
theorem Ctx.boxW {w0 w:World} {l:List Ent} {g:Nat} {b:Bool} {n x:Int} (h:Ctx w0 w l) (hg:w0.heap.size≤g)
    (c0:w.cell? ⟨g,0,none⟩=some (.bool b)) (c1:w.cell? ⟨g,1,none⟩=some (.int .u64 n)) (c2:w.cell? ⟨g,2,none⟩=some (.int .i64 x)) (v0 v1 v2:Value) :
    Ctx w0 (((w.setCell ⟨g,0,none⟩ v0).setCell ⟨g,1,none⟩ v1).setCell ⟨g,2,none⟩ v2) l:=by
  have d1:(w.setCell ⟨g,0,none⟩ v0).cell? ⟨g,1,none⟩=some (.int .u64 n):=by rw [World.cell?_setCell_other (h:=by simp)];exact c1
  have d2:((w.setCell ⟨g,0,none⟩ v0).setCell ⟨g,1,none⟩ v1).cell? ⟨g,2,none⟩=some (.int .i64 x):=by
    rw [World.cell?_setCell_other (h:=by simp),World.cell?_setCell_other (h:=by simp)];exact c2
  exact ((h.setBox hg c0 (fun _=>by simp) v0).setBox hg d1 (fun _=>by simp) v1).setBox hg d2 (fun _=>by simp) v2
theorem tz_bd {P n:Nat} (h0:P ≠ 0) (hP:P<B32 ^ n):tz P<32*n:=by
  obtain ⟨a,b⟩:=tz_spec h0
  have e:B32 ^ n=2 ^ (32*n):=by rw [Nat.pow_mul];rfl
  rw [e] at hP
  have h1:2 ^ tz P≤P:=by
    conv=>rhs;rw [a]
    exact Nat.le_mul_of_pos_left _ (odd_pos h0)
  exact two_lt_iff.1 (Nat.lt_of_le_of_lt h1 hP)
theorem bits_bd {P n:Nat} (h0:P ≠ 0) (hP:P<B32 ^ n):bitsN P≤32*n:=by
  obtain ⟨t,h1,h2,h3⟩:=bitsN_bounds h0
  have e:B32 ^ n=2 ^ (32*n):=by rw [Nat.pow_mul];rfl
  rw [e] at hP
  have:=two_lt_iff.1 (Nat.lt_of_le_of_lt h2 hP)
  omega
def bofA (neg:Bool) (M:Nat) (E:Int):Value:=match fives M E with
  | none=>.tuple #[binV false 0 0,.bool false]
  | some P=>if odd P<2 ^ 64 then .tuple #[binV neg (odd P) (E+(tz P:Int)),.bool true] else .tuple #[binV false 0 0,.bool false]
theorem binaryOf_any {w0 w:World} {l:List Ent} (h:Ctx w0 w l) (hT:DB w) (i:Nat) {v:Value} {L M:Nat} {xs:List Nat} (hi:l[i]? = some ⟨v,L,M,xs⟩) (hL:L≤100) (hM:M ≠ 0) (ng:Bool) (E:Int) (hE:-1200≤E∧E≤1200) :
    Calls Tryz.prog 129 #[.agg #[.bool ng,v,.int .i64 E]] w fun r w'=>r=.returned (bofA ng M E)∧Ctx w0 w' l:=by
  have hb1:=below_box' w #[.bool ng,v,.int .i64 E] 25
  have hb2:=hb1.alloc hb1.size (.cells #[.bool false,.int .u64 0,.int .i64 0] 155)
  have h2:=h.step hb2
  have z0:((w.alloc (.cells #[.bool ng,v,.int .i64 E] 25)).alloc (.cells #[.bool false,.int .u64 0,.int .i64 0] 155)).cell? ⟨w.heap.size,0,none⟩=some (.bool ng):=by rw [cell_old _ _ _ _ (by simp),cell_new];rfl
  have z1:((w.alloc (.cells #[.bool ng,v,.int .i64 E] 25)).alloc (.cells #[.bool false,.int .u64 0,.int .i64 0] 155)).cell? ⟨w.heap.size,1,none⟩=some v:=by rw [cell_old _ _ _ _ (by simp),cell_new];rfl
  have z2:((w.alloc (.cells #[.bool ng,v,.int .i64 E] 25)).alloc (.cells #[.bool false,.int .u64 0,.int .i64 0] 155)).cell? ⟨w.heap.size,2,none⟩=some (.int .i64 E):=by rw [cell_old _ _ _ _ (by simp),cell_new];rfl
  have y0:((w.alloc (.cells #[.bool ng,v,.int .i64 E] 25)).alloc (.cells #[.bool false,.int .u64 0,.int .i64 0] 155)).cell? ⟨w.heap.size+1,0,none⟩=some (.bool false):=by rw [cell_at _ _ _ _ _ (by simp)];rfl
  have y1:((w.alloc (.cells #[.bool ng,v,.int .i64 E] 25)).alloc (.cells #[.bool false,.int .u64 0,.int .i64 0] 155)).cell? ⟨w.heap.size+1,1,none⟩=some (.int .u64 0):=by rw [cell_at _ _ _ _ _ (by simp)];rfl
  have y2:((w.alloc (.cells #[.bool ng,v,.int .i64 E] 25)).alloc (.cells #[.bool false,.int .u64 0,.int .i64 0] 155)).cell? ⟨w.heap.size+1,2,none⟩=some (.int .i64 0):=by rw [cell_at _ _ _ _ _ (by simp)];rfl
  have yf:∀ j,((w.alloc (.cells #[.bool ng,v,.int .i64 E] 25)).alloc (.cells #[.bool false,.int .u64 0,.int .i64 0] 155)).frozen? ⟨w.heap.size+1,j,none⟩=false:=fun j=>by rw [show w.heap.size+1=(w.alloc (.cells #[.bool ng,v,.int .i64 E] 25)).heap.size by simp];exact World.frozen?_alloc_new ..
  have hzz:((w.alloc (.cells #[.bool ng,v,.int .i64 E] 25)).alloc (.cells #[.bool false,.int .u64 0,.int .i64 0] 155)).heap.size=w.heap.size+2:=by simp
  have hT2:=hT.below hb2
  have KF:=Lib.hid (timesFives_any h2.again i hi hL E hE)
  have hg:=Lib.hid h.below.size
  obtain ⟨ad,cap,hv,a2,a3,a4,a5,a6⟩:=h.get i hi
  have hlo:=a4
  subst hv
  generalize hW:(w.alloc (.cells #[.bool ng,.slice ad xs.length cap,.int .i64 E] 25)).alloc (.cells #[.bool false,.int .u64 0,.int .i64 0] 155)=W at *
  have HW:=Lib.hid hW
  have HH:=Lib.hid h2
  have HT:=Lib.hid hT2
  have hz0:w.heap.size<W.heap.size:=by omega
  have hz1:w.heap.size+1<W.heap.size:=by omega
  have hM2:∀ P,fives M E=some P→P ≠ 0:=fun P hP=>fives_ne hM hP
  have hfs:=fives_some (M:=M) (E:=E)
  have HFS:=Lib.hid hfs
  have HM2:=Lib.hid hM2
  clear h h2 hb1 hb2 hW hT hT2 a2 a3 a4 a5 a6 hlo hM2 hfs hM
  go_enter Tryz.func129,Tryz.ntmps129
  go_wp2_with fail
  rw [HW.out]
  refine KF.out.mono ?_
  rintro r w1 ⟨v1,rfl,h1⟩
  have hB1:=h1.below
  have H1:=Lib.hid h1
  have q0:=(hB1.cell (p:=⟨w.heap.size,0,none⟩) hz0).trans z0
  have q2:=(hB1.cell (p:=⟨w.heap.size,2,none⟩) hz0).trans z2
  have x0:=(hB1.cell (p:=⟨w.heap.size+1,0,none⟩) hz1).trans y0
  have x1:=(hB1.cell (p:=⟨w.heap.size+1,1,none⟩) hz1).trans y1
  have x2:=(hB1.cell (p:=⟨w.heap.size+1,2,none⟩) hz1).trans y2
  have xf0:=(hB1.frozen (p:=⟨w.heap.size+1,0,none⟩) hz1).trans (yf 0)
  have xf1:=(hB1.frozen (p:=⟨w.heap.size+1,1,none⟩) hz1).trans (yf 1)
  have xf2:=(hB1.frozen (p:=⟨w.heap.size+1,2,none⟩) hz1).trans (yf 2)
  have HTw:=Lib.hid (HT.out.below hB1)
  have HCw:=Lib.hid (HH.out.step hB1)
  cases hsome:(fives M E).isSome
  · have hno:fives M E=none:=by have h:=HFS.out;rw [hsome] at h;simpa using h
    have HA:Hid (bofA ng M E=.tuple #[binV false 0 0,.bool false]):=by unfold bofA;rw [hno];rfl
    have HX:=Lib.hid (HCw.out.boxW (g:=w.heap.size+1) (Nat.le_succ_of_le hg.out) x0 x1 x2 (.bool false) (.int .u64 0) (.int .i64 0))
    clear h1 hB1 z0 z1 z2 y0 y1 y2 yf hno
    go_wp2_with fail
    exact bodyPost_ret (v:=.tuple #[binV false 0 0,.bool false]) (by simp [results,Tryz.results129,go_sem,x0,x1,x2,binV]) rfl ⟨by rw [HA.out],HX.out⟩
  · have hyes:fives M E=some (fiveP M E):=by have h:=HFS.out;rw [hsome] at h;simpa using h
    have hP0:=HM2.out _ hyes
    have hbA:bofA ng M E=if odd (fiveP M E)<2 ^ 64 then .tuple #[binV ng (odd (fiveP M E)) (E+(tz (fiveP M E):Int)),.bool true] else .tuple #[binV false 0 0,.bool false]:=by unfold bofA;rw [hyes]
    obtain ⟨ad1,cap1,hv1,g2,g3,g4,g5,g6⟩:=h1.get 0 rfl
    subst hv1
    have hl1:=limbs_lt_pow (fiveP M E)
    have hob:=odd_bits hP0
    have htb:=tz_bd hP0 hl1
    have hbb:=bits_bd hP0 hl1
    have hvl:val (limbs (fiveP M E)) ≠ 0:=by rw [val_limbs];exact hP0
    have KZ:=Lib.hid (zeroBits_any ad1 (limbs (fiveP M E)).length cap1 (limbs (fiveP M E)) w1 rfl g2 (by omega) g4 g5 hvl HTw.out)
    have KB:=Lib.hid (bits_c h1 0 rfl (by omega))
    have hdiv:val (limbs (fiveP M E)) / 2 ^ tz (fiveP M E)=odd (fiveP M E):=by rw [val_limbs];rfl
    have KW:=Lib.hid (fun (ho:odd (fiveP M E)<2 ^ 64) W (hW:Below w1.heap.size w1 W)=>wordFrom_any ad1 (limbs (fiveP M E)).length cap1 (limbs (fiveP M E)) (tz (fiveP M E)) W rfl g2 (by omega) g4 (g5.below hW) (by rw [hdiv];exact ho) (by omega))
    rw [val_limbs] at KZ
    rw [hdiv] at KW
    have HBA:=Lib.hid hbA
    have HOB:=Lib.hid hob
    clear h1 hB1 z0 z1 z2 y0 y1 y2 yf g4 g5 g6 hl1 hvl hdiv hbA hob hyes hP0
    generalize (limbs (fiveP M E)).length=n1 at *
    generalize tz (fiveP M E)=zP at *
    generalize bitsN (fiveP M E)=bP at *
    generalize odd (fiveP M E)=oP at *
    have hws:IntKind.i64.wrap ((bP:Int) - (zP:Int))=(bP:Int) - (zP:Int):=IntWalk.i64_in _ (by omega)
    have hwe:IntKind.i64.wrap (E+(zP:Int))=E+(zP:Int):=IntWalk.i64_in _ (by omega)
    go_wp2_with fail
    refine KZ.out.mono ?_
    rintro r w2 ⟨rfl,rfl⟩
    go_wp2_with fail
    refine KB.out.mono ?_
    rintro r w2 ⟨rfl,rfl⟩
    by_cases ho:oP<2 ^ 64
    · have hA:=HBA.out
      rw [if_pos ho] at hA
      have HA:=Lib.hid hA
      have hng:¬ (64<(bP:Int) - (zP:Int)):=fun h=>HOB.out.1 h ho
      have KW2:=Lib.hid (KW.out ho)
      have HCx:=Lib.hid (HCw.out.step (below_drew (Below.refl _ _)))
      have HX:=Lib.hid (HCx.out.boxW (g:=w.heap.size+1) (Nat.le_succ_of_le hg.out) (by exact x0) (by exact x1) (by exact x2) (.bool ng) (.int .u64 (oP:Int)) (.int .i64 (E+(zP:Int))))
      have hne1:¬ w.heap.size+1=w.heap.size:=by omega
      clear hA KW HBA HOB ho
      go_wp2_with fail
      go_region_held3 (fun w'=>w'.cell? ⟨w.heap.size,0,none⟩=some (.bool ng)∧w'.cell? ⟨w.heap.size,2,none⟩=some (.int .i64 E)) (go_keep)
        (first | (go_at_call 165;refine (KW2.out _ (by exact below_drew (Below.refl _ _))).mono ?_;rintro r w3 ⟨rfl,rfl⟩))
      all_goals
        go_wp2_with fail
        exact bodyPost_ret (v:=.tuple #[binV ng oP (E+(zP:Int)),.bool true]) (by simp [results,Tryz.results129,go_sem,x0,x1,x2,binV]) rfl ⟨by rw [HA.out],HX.out⟩
    · have hA:=HBA.out
      rw [if_neg ho] at hA
      have HA:=Lib.hid hA
      have hng:64<(bP:Int) - (zP:Int):=HOB.out.2 ho
      have HX:=Lib.hid (HCw.out.boxW (g:=w.heap.size+1) (Nat.le_succ_of_le hg.out) x0 x1 x2 (.bool false) (.int .u64 0) (.int .i64 0))
      clear hA KW HBA HOB ho
      go_wp2_with fail
      exact bodyPost_ret (v:=.tuple #[binV false 0 0,.bool false]) (by simp [results,Tryz.results129,go_sem,x0,x1,x2,binV]) rfl ⟨by rw [HA.out],HX.out⟩
theorem fives_bd {M P n:Nat} {E:Int} (K:Nat) (hK:113≤K) (h:fives M E=some P) (hM:M<B32 ^ n) (hE:E≤1200):P<B32 ^ (n+K):=by
  unfold fives at h
  have e:∀ k,B32 ^ k=2 ^ (32*k):=fun k=>by rw [Nat.pow_mul];rfl
  by_cases h0:0≤E
  · rw [if_pos h0] at h
    cases h
    have h1:5 ^ E.toNat≤2 ^ (3*E.toNat):=by rw [Nat.pow_mul];exact Nat.pow_le_pow_left (by decide) _
    rw [Nat.pow_add]
    refine Nat.lt_of_lt_of_le (Nat.mul_lt_mul_of_pos_right hM (five_pos _)) (Nat.mul_le_mul_left _ (Nat.le_trans h1 ?_))
    rw [e]
    exact Nat.pow_le_pow_right (by decide) (by omega)
  · rw [if_neg h0] at h
    split at h
    · cases h
      exact Nat.lt_of_le_of_lt (Nat.div_le_self _ _) (Nat.lt_of_lt_of_le hM (Nat.pow_le_pow_right B32_pos (by omega)))
    · cases h
def toF (width:Int) (ng:Bool) (M:Nat) (E:Int):Option Nat:=match layOf width with
  | none=>none
  | some (e,f)=>if M=0 then some 0 else match toN e f M E with
    | none=>none
    | some y=>some (y+(if ng then 2 ^ (e+f) else 0))
def toA (o:Option Nat):Value:=match o with
  | none=>.tuple #[.int .u64 0,.bool false]
  | some y=>.tuple #[.int .u64 (y:Int),.bool true]
def ToPost (w0:World) (l:List Ent) (o:Option Nat) (r:Ending) (w':World):Prop:=r=.returned (toA o)∧Ctx w0 w' l
theorem to_none {w0 w:World} {l:List Ent} (h:Ctx w0 w l) (width:Int) (v:Value) (ng:Bool) (E:Int) (hlo:layOf width=none) :
    Calls Tryz.prog 87 #[.int .i64 width,.agg #[.bool ng,v,.int .i64 E]] w (ToPost w0 l none):=by
  have KL:=fun W=>layoutOf_any width W
  unfold layA at KL
  rw [hlo] at KL
  have KLH:=Lib.hid KL
  have H:=Lib.hid (h.step (below_box' w #[.bool ng,v,.int .i64 E] 25))
  clear KL h hlo
  unfold layV at *
  go_enter Tryz.func87,Tryz.ntmps87
  go_wp2_with fail
  refine (KLH.out _).mono ?_
  rintro r w1 ⟨rfl,hb1⟩
  have H1:=Lib.hid ((H.out.step hb1).step (below_box' w1 #[.int .i64 0,.int .i64 0] 151))
  clear hb1
  go_wp2
  go_ret2
  exact ⟨rfl,H1.out⟩
theorem to_zero {w0 w : World} {l : List Ent} (h : Ctx w0 w l) (width : Int) {e f : Nat} (hlo : layOf width = some (e, f)) (ng : Bool) (E : Int) (ad : Option Addr) (n cap : Nat) (xs : List Nat) (hn : xs.length = n) (hcap : n ≤ cap) (hm : n ≤ 1000000000) (ho : Okl xs) (hr : Rd w ad xs) (hbad : chkB ng xs E = false ∨ xs = []) :
    Calls Tryz.prog 87 #[.int .i64 width, .agg #[.bool ng, .slice ad n cap, .int .i64 E]] w (ToPost w0 l (some 0)) := by
  have KL := fun W => layoutOf_any width W
  unfold layA at KL
  rw [hlo] at KL
  have KLH := Lib.hid KL
  have H := Lib.hid (h.step (below_box' w #[.bool ng, .slice ad n cap, .int .i64 E] 25))
  have KC := Lib.hid (fun W (hb : Below w.heap.size w W) => check_any ng ad n cap xs E W hn hcap hm ho (hr.below hb))
  have hbx := below_box' w #[.bool ng, .slice ad n cap, .int .i64 E] 25
  have z0 : (w.alloc (.cells #[.bool ng, .slice ad n cap, .int .i64 E] 25)).cell? ⟨w.heap.size, 0, none⟩ = some (.bool ng) := by simp
  have z1 : (w.alloc (.cells #[.bool ng, .slice ad n cap, .int .i64 E] 25)).cell? ⟨w.heap.size, 1, none⟩ = some (.slice ad n cap) := by simp
  have z2 : (w.alloc (.cells #[.bool ng, .slice ad n cap, .int .i64 E] 25)).cell? ⟨w.heap.size, 2, none⟩ = some (.int .i64 E) := by simp
  have hz : w.heap.size < (w.alloc (.cells #[.bool ng, .slice ad n cap, .int .i64 E] 25)).heap.size := by simp
  have HBX := Lib.hid hbx
  have HBAD := Lib.hid hbad
  have hn0 : xs = [] → n = 0 := fun h => by rw [← hn, h]; rfl
  clear KL h hlo hr ho hbad hbx hn
  unfold layV at *
  go_enter Tryz.func87, Tryz.ntmps87
  go_wp2_with fail
  generalize w.alloc (.cells #[.bool ng, .slice ad n cap, .int .i64 E] 25) = W at *
  refine (KLH.out _).mono ?_
  rintro r w1 ⟨rfl, hb1⟩
  have hb2 := below_on hb1 (below_box' w1 #[.int .i64 (e : Int), .int .i64 (f : Int)] 151)
  have HB2 := Lib.hid hb2
  have y0 := (hb2.cell (p := ⟨w.heap.size, 0, none⟩) hz).trans z0
  have y1 := (hb2.cell (p := ⟨w.heap.size, 1, none⟩) hz).trans z1
  have y2 := (hb2.cell (p := ⟨w.heap.size, 2, none⟩) hz).trans z2
  clear hb1 hb2
  go_wp2_with fail
  generalize w1.alloc (.cells #[.int .i64 (e : Int), .int .i64 (f : Int)] 151) = W2 at *
  have hz2 : w.heap.size < W2.heap.size := cell_lt y0
  refine (KC.out _ (by exact below_on HBX.out HB2.out)).mono ?_
  rintro r w2 ⟨rfl, hb3⟩
  have u0 := (hb3.cell (p := ⟨w.heap.size, 0, none⟩) hz2).trans y0
  have u1 := (hb3.cell (p := ⟨w.heap.size, 1, none⟩) hz2).trans y1
  have u2 := (hb3.cell (p := ⟨w.heap.size, 2, none⟩) hz2).trans y2
  have H3 := Lib.hid ((H.out.step HB2.out).step hb3)
  clear hb3
  cases hch : chkB ng xs E
  · go_wp2
    go_ret2
    exact ⟨rfl, H3.out⟩
  · have hx0 : n = 0 := hn0 (by rcases HBAD.out with h | h
                                · rw [hch] at h; cases h
                                · exact h)
    subst hx0
    go_wp2
    go_ret2
    exact ⟨rfl, H3.out⟩
theorem to_main {w0 w:World} {l:List Ent} (h:Ctx w0 w l) (hT:DB w) (width:Int) {e f:Nat} (hlo:layOf width=some (e,f)) (i:Nat) {ad:Option Addr} {n cap L M:Nat} {xs:List Nat} (hi:l[i]? = some ⟨.slice ad n cap,L,M,xs⟩) (hL:L≤100) (ng:Bool) (E:Int) (hc:chkB ng xs E=true) (hne:xs ≠ []) :
    Calls Tryz.prog 87 #[.int .i64 width,.agg #[.bool ng,.slice ad n cap,.int .i64 E]] w (ToPost w0 l (toF width ng M E)):=by
  obtain ⟨c1,c2,c3,c4,c5⟩:=chkB_some hne hc
  have hl:=layOf_lay hlo
  obtain ⟨ad',cap',hv,a2,a3,a4,a5,a6⟩:=h.get i hi
  simp only [Value.slice.injEq] at hv
  obtain ⟨rfl,rfl,rfl⟩:=hv
  have hM:M ≠ 0:=by rw [← a6];intro h0;rw [h0] at c5;exact c5 rfl
  have hnn:((xs.length:Int) == 0)=false:=by rw [int_beq0];exact decide_eq_false (fun h=>hne (List.eq_nil_of_length_eq_zero h))
  have KL:=fun W=>layoutOf_any width W
  unfold layA at KL
  rw [hlo] at KL
  have KLH:=Lib.hid KL
  have KC:=Lib.hid (fun W (hb:Below w.heap.size w W)=>(by have K:=check_any ng ad xs.length cap xs E W rfl a2 (by omega) a4 (a5.below hb);rw [hc] at K;exact K:Calls Tryz.prog 102 #[.agg #[.bool ng,.slice ad xs.length cap,.int .i64 E]] W (BoolBelow true W)))
  have KB:=Lib.hid (fun W (hW:Ctx W W l) (hD:DB W)=>binaryOf_any hW hD i hi hL hM ng E ⟨c3,c4⟩)
  have hMl:M<B32 ^ 100:=by rw [← a6];exact Nat.lt_of_lt_of_le (val_lt a4) (Nat.pow_le_pow_right B32_pos (by omega))
  have HBD:=Lib.hid (fun P (hP:fives M E=some P)=>tz_bd (fives_ne hM hP) (fives_bd 120 (by decide) hP hMl c4))
  have hto:toF width ng M E=match toN e f M E with | none=>none | some y=>some (y+(if ng then 2 ^ (e+f) else 0)):=by unfold toF;rw [hlo];simp only [];rw [if_neg hM]
  have htn:toN e f M E=match fives M E with | none=>none | some P=>if odd P<2 ^ 64 then joinF e f (odd P) (E+(tz P:Int)) else none:=rfl
  have HTO:=Lib.hid hto;have HTN:=Lib.hid htn
  have HF:=Lib.hid (fun P (hP:fives M E=some P)=>fives_ne hM hP)
  have HFB:=Lib.hid (fun P (hP:fives M E=some P) (h64:odd P<2 ^ 64) W (ht:-100000≤E+(tz P:Int)∧E+(tz P:Int)≤100000)=>join_any hl ng (odd P) (E+(tz P:Int)) (tz_spec (fives_ne hM hP)).2 h64 ht W)
  have hbx:=below_box' w #[.bool ng,.slice ad xs.length cap,.int .i64 E] 25
  have H:=Lib.hid (h.step hbx)
  have HD:=Lib.hid (hT.below hbx)
  have hz:w.heap.size<(w.alloc (.cells #[.bool ng,.slice ad xs.length cap,.int .i64 E] 25)).heap.size:=by simp
  have z0:(w.alloc (.cells #[.bool ng,.slice ad xs.length cap,.int .i64 E] 25)).cell? ⟨w.heap.size,0,none⟩=some (.bool ng):=by simp
  have z1:(w.alloc (.cells #[.bool ng,.slice ad xs.length cap,.int .i64 E] 25)).cell? ⟨w.heap.size,1,none⟩=some (.slice ad xs.length cap):=by simp
  have z2:(w.alloc (.cells #[.bool ng,.slice ad xs.length cap,.int .i64 E] 25)).cell? ⟨w.heap.size,2,none⟩=some (.int .i64 E):=by simp
  have HBX:=Lib.hid hbx
  clear KL h hlo hbx hT a2 a3 a4 a5 a6 hc hne hto htn hM hi hl c1 c2 c5 hMl
  unfold layV at *
  go_enter Tryz.func87,Tryz.ntmps87
  go_wp2_with fail
  generalize w.alloc (.cells #[.bool ng,.slice ad xs.length cap,.int .i64 E] 25)=W at *
  refine (KLH.out _).mono ?_
  rintro r w1 ⟨rfl,hb1⟩
  have hb2:=below_on hb1 (below_box' w1 #[.int .i64 (e:Int),.int .i64 (f:Int)] 151)
  have HB2:=Lib.hid hb2
  have y0:=(hb2.cell (p:=⟨w.heap.size,0,none⟩) hz).trans z0
  have y1:=(hb2.cell (p:=⟨w.heap.size,1,none⟩) hz).trans z1
  have y2:=(hb2.cell (p:=⟨w.heap.size,2,none⟩) hz).trans z2
  have l0:(w1.alloc (.cells #[.int .i64 (e:Int),.int .i64 (f:Int)] 151)).cell? ⟨w1.heap.size,0,none⟩=some (.int .i64 (e:Int)):=by simp
  have l1:(w1.alloc (.cells #[.int .i64 (e:Int),.int .i64 (f:Int)] 151)).cell? ⟨w1.heap.size,1,none⟩=some (.int .i64 (f:Int)):=by simp
  clear hb1 hb2 z0 z1 z2 hz
  go_wp2_with fail
  generalize w1.alloc (.cells #[.int .i64 (e:Int),.int .i64 (f:Int)] 151)=W2 at *
  have hz2:w.heap.size<W2.heap.size:=cell_lt y0
  have hz3:w1.heap.size<W2.heap.size:=cell_lt l0
  refine (KC.out _ (by exact below_on HBX.out HB2.out)).mono ?_
  rintro r w2 ⟨rfl,hb3⟩
  have u0:=(hb3.cell (p:=⟨w.heap.size,0,none⟩) hz2).trans y0
  have u1:=(hb3.cell (p:=⟨w.heap.size,1,none⟩) hz2).trans y1
  have u2:=(hb3.cell (p:=⟨w.heap.size,2,none⟩) hz2).trans y2
  have m0:=(hb3.cell (p:=⟨w1.heap.size,0,none⟩) hz3).trans l0
  have m1:=(hb3.cell (p:=⟨w1.heap.size,1,none⟩) hz3).trans l1
  have H3:=Lib.hid ((H.out.step HB2.out).step hb3)
  have HD3:=Lib.hid ((HD.out.below HB2.out).below hb3)
  clear hb3 l0 l1 y0 y1 y2 hz2 hz3
  go_wp2_with fail
  refine (KB.out _ (by exact H3.out.again) (by exact HD3.out)).mono ?_
  rintro r w3 ⟨rfl,h4⟩
  have hz4:w1.heap.size<w2.heap.size:=cell_lt m0
  have n0:=(h4.below.cell (p:=⟨w1.heap.size,0,none⟩) hz4).trans m0
  have n1:=(h4.below.cell (p:=⟨w1.heap.size,1,none⟩) hz4).trans m1
  have H4:=Lib.hid (h4.on H3.out)
  clear h4 m0 m1 u0 u1 u2
  cases hfv:fives M E with
  | none =>
    have hA:Hid (toF width ng M E=none):=by
      unfold Hid
      have h1:=HTN.out
      rw [hfv] at h1
      rw [HTO.out,h1]
    have hb:bofA ng M E=.tuple #[binV false 0 0,.bool false]:=by unfold bofA;rw [hfv]
    rw [hb]
    unfold binV
    have H5:=Lib.hid (H4.out.step (below_box' w3 #[.bool false,.int .u64 0,.int .i64 0] 155))
    clear hb HTO HTN HF HFB
    go_wp2
    go_ret2
    exact ⟨by rw [hA.out];rfl,H5.out⟩
  | some P =>
    by_cases h64:odd P<2 ^ 64
    · have hb:bofA ng M E=.tuple #[binV ng (odd P) (E+(tz P:Int)),.bool true]:=by unfold bofA;rw [hfv];simp only [];rw [if_pos h64]
      rw [hb]
      have htb:=HBD.out P hfv
      have KJ:=Lib.hid (fun W=>HFB.out P hfv h64 W (by omega))
      have hA:Hid (toF width ng M E=match joinF e f (odd P) (E+(tz P:Int)) with | none=>none | some y=>some (y+(if ng then 2 ^ (e+f) else 0))):=by
        unfold Hid
        have h1:=HTN.out
        rw [hfv] at h1
        simp only [] at h1
        rw [if_pos h64] at h1
        rw [HTO.out,h1]
      have hjA:joinA e f ng (odd P) (E+(tz P:Int))=toA (toF width ng M E):=by
        rw [hA.out];unfold joinA toA
        cases joinF e f (odd P) (E+(tz P:Int)) <;> rfl
      rw [hjA] at KJ
      clear hb HTO HTN HF HFB hjA hA
      generalize odd P=o at *
      generalize E+(tz P:Int)=t at *
      have hbx3:=below_box' w3 #[.bool ng,.int .u64 (o:Int),.int .i64 t] 155
      have hz5:w1.heap.size<w3.heap.size:=cell_lt n0
      have o0:=(hbx3.cell (p:=⟨w1.heap.size,0,none⟩) hz5).trans n0
      have o1:=(hbx3.cell (p:=⟨w1.heap.size,1,none⟩) hz5).trans n1
      have H5:=Lib.hid (H4.out.step hbx3)
      clear hbx3
      unfold binV at *
      cases htf:toF width ng M E with
      | none =>
        rw [htf] at KJ
        unfold toA at KJ
        go_wp2_with fail
        refine (KJ.out _).mono ?_
        rintro r w4 ⟨rfl,hb4⟩
        have H6:=Lib.hid (H5.out.step hb4)
        clear hb4
        go_wp2
        go_ret2
        exact ⟨by first | rfl | (rw [htf];rfl),H6.out⟩
      | some y =>
        rw [htf] at KJ
        unfold toA at KJ
        go_wp2_with fail
        refine (KJ.out _).mono ?_
        rintro r w4 ⟨rfl,hb4⟩
        have H6:=Lib.hid (H5.out.step hb4)
        clear hb4
        go_wp2
        go_ret2
        exact ⟨by first | rfl | (rw [htf];rfl),H6.out⟩
    · have hA:Hid (toF width ng M E=none):=by
        unfold Hid
        have h1:=HTN.out
        rw [hfv] at h1
        simp only [] at h1
        rw [if_neg h64] at h1
        rw [HTO.out,h1]
      have hb:bofA ng M E=.tuple #[binV false 0 0,.bool false]:=by unfold bofA;rw [hfv];simp only [];rw [if_neg h64]
      rw [hb]
      unfold binV
      have H5:=Lib.hid (H4.out.step (below_box' w3 #[.bool false,.int .u64 0,.int .i64 0] 155))
      clear hb HTO HTN HF HFB
      go_wp2
      go_ret2
      exact ⟨by rw [hA.out];rfl,H5.out⟩
theorem to_num {w0 w:World} {l:List Ent} (h:Ctx w0 w l) (hT:DB w) (width:Int) (i:Nat) {ad:Option Addr} {n cap L M:Nat} {xs:List Nat} (hi:l[i]? = some ⟨.slice ad n cap,L,M,xs⟩) (hL:L≤100) (ng:Bool) (E:Int) (hc:chkB ng xs E=true) :
    Calls Tryz.prog 87 #[.int .i64 width,.agg #[.bool ng,.slice ad n cap,.int .i64 E]] w (ToPost w0 l (toF width ng M E)):=by
  cases hlo:layOf width with
  | none =>
    have:toF width ng M E=none:=by unfold toF;rw [hlo]
    rw [this]
    exact to_none h width _ ng E hlo
  | some p =>
    obtain ⟨e,f⟩:=p
    by_cases hx:xs=[]
    · obtain ⟨ad',cap',hv,a2,a3,a4,a5,a6⟩:=h.get i hi
      have hM:M=0:=by rw [← a6,hx];rfl
      have:toF width ng M E=some 0:=by unfold toF;rw [hlo];simp only [];rw [if_pos hM]
      rw [this]
      simp only [Value.slice.injEq] at hv
      obtain ⟨rfl,rfl,rfl⟩:=hv
      exact to_zero h width hlo ng E ad _ cap xs rfl a2 (by omega) a4 a5 (.inr hx)
    · exact to_main h hT width hlo i hi hL ng E hc hx
end Go.Proofs.YtnacbakcalcgaaaGreatDoor
namespace Go.Proofs.YtnacbakcalcgaaaGreatDoor
open Go.RowKit Go.Lib Go.Sort
def intAt (N:Nat) (e:Int):Option Nat:=if 0≤e∧bitsN (N*tenN e.toNat)≤400 then some (N*tenN e.toNat) else none
theorem toF_bd {width:Int} {M d:Nat} {E:Int} {ng:Bool} (hM:M=0∨M % 10 ≠ 0) (h:toF width ng M E=some d):d<18446744073709551616:=by
  unfold toF at h
  split at h
  · cases h
  next e f hl =>
    have hL:=layOf_lay hl
    have h63:2 ^ (e+f)≤2 ^ 63:=Nat.pow_le_pow_right (by decide) (by rcases hL with ⟨rfl,rfl⟩ | ⟨rfl,rfl⟩ | ⟨rfl,rfl⟩ <;> decide)
    split at h
    · cases h;decide
    next h0 =>
      cases ht:toN e f M E with
      | none=>rw [ht] at h;cases h
      | some y =>
        rw [ht] at h
        simp only [Option.some.injEq] at h
        obtain ⟨h1,_⟩:=ex_to hL (by omega) ht
        cases ng <;> simp at h <;> omega
theorem chk_tens {neg:Bool} {xs:List Nat} {e:Int} (ho:Okl xs) (h:chkB neg xs e=true):val xs=0∨val xs % 10 ≠ 0:=by
  by_cases h0:xs=[]
  · left;rw [h0];rfl
  · exact .inr (chkB_some h0 h).2.2.2.2
theorem NumOk.list {w:World} {neg:Bool} {ad:Option Addr} {n cap:Nat} {xs:List Nat} {e:Int} (h:NumOk w neg ad n cap xs e):ListOk w (.slice ad n cap) 90 (val xs) xs :=
  ⟨ad,cap,by rw [h.len],by rw [h.len];exact h.cap,by rw [h.len];exact h.n90,h.ok,h.rd,rfl⟩
theorem bits_mono {N M:Nat} (h:N≤M):bitsN N≤bitsN M:=by
  rcases Nat.eq_zero_or_pos N with rfl | h0
  · rw [bitsN_z];exact Nat.zero_le _
  · obtain ⟨t,h1,h2,_⟩:=bitsN_bounds (Nat.ne_of_gt h0)
    have h3:=lt_bits M
    have:=(Nat.pow_lt_pow_iff_right (show 1<2 by decide)).1 (Nat.lt_of_le_of_lt (Nat.le_trans h2 h) h3)
    omega
end Go.Proofs.YtnacbakcalcgaaaGreatDoor
