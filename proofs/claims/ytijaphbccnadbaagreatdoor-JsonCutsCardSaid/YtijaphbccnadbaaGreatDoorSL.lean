/- Texts of the claim. -/
import Derived.Test.YtijaphbccnadbaaGreatDoorSe
import Derived.Test.YtijaphbccnadbaaGreatDoorSg
import Derived.Test.YtijaphbccnadbaaGreatDoorSC
set_option linter.unusedVariables false
set_option linter.unusedSimpArgs false
set_option maxHeartbeats 4000000
set_option maxRecDepth 100000
namespace Go.Proofs.YtijaphbccnadbaaGreatDoor
open Go.RowKit
theorem refNorm_any (ad:Option Addr) (n cap:Nat) (xs:List Nat) (w:World) (hn:xs.length=n) (hcap:n≤cap) (hm:n≤100000000) (ho:Okl xs) (hr:Rd w ad xs) :
    Calls Tryz.prog 150 #[.slice ad n cap] w (Gives (val xs) w):=by
  have hcl:=cutLen_le xs n
  have hcv:=cut_limbs ho
  rw [hn] at hcv
  have hr':=hr.take (cutLen xs n)
  have hlc:(xs.take (cutLen xs n)).length=cutLen xs n:=by rw [List.length_take];omega
  have hot:=ho.take (cutLen xs n)
  have HN:=Lib.hid hn;clear hn
  have HF:Hid (∀ v w1,Own w.heap.size w1 v ([]++xs.take (cutLen xs n))→Below w.heap.size w w1→Gives (val xs) w (.returned v) w1):=fun v w1 h1 h2=>⟨v,rfl,by rw [← hcv];simpa using h1,h2⟩
  clear hcv
  have HC:=Lib.hid (rfl:cutLen xs n=cutLen xs n)
  generalize hc0:cutLen xs n=c at *
  have HC0:=Lib.hid hc0;clear hc0 HC
  generalize hY:xs.take c=Y at *
  clear hY
  have HLC:=Lib.hid hlc;clear hlc
  go_enter Tryz.func150,Tryz.ntmps150
  go_wp2
  go_loop [3] (fun i=>∃ k:Nat,k≤n∧i=.int .i64 k∧cutLen xs k=c) (fun i=>(intOf i).toNat)
  case atStart=>exact ⟨n,Nat.le_refl _,rfl,HC0.out⟩
  case round =>
    obtain ⟨k,hk,rfl,he⟩:=hrel
    have HE:=Lib.hid he;clear he
    rcases k with _ | k
    · have h0:c=0:=by rw [← HE.out];rfl
      subst h0
      go_wp2_with (at_builtin;refine wpl_append_rd rfl _ _ rfl w.heap.size _ [] rfl (Own.nil _ _) _ _ _ Y rfl hot HLC.out hr' (by simp) (Nat.le_refl _) ?_;intro v' w' hv hb)
      go_ret
      exact HF.out _ _ hv hb
    · obtain ⟨b,o,hadd,_,hc⟩:=hr k (by rw [HN.out];omega)
      subst hadd
      generalize hx:xs.getD k 0=x at *
      have HX:=Lib.hid hx;clear hx
      by_cases hz:x=0
      · go_wp2
        go_round
        case rel=>exact ⟨k,by omega,rfl,by rw [← HE.out];simp only [cutLen];rw [if_pos (by rw [HX.out];exact hz)]⟩
        case measure=>simp [intOf]
      · have h0:c=k+1:=by rw [← HE.out];simp only [cutLen];rw [if_neg (by rw [HX.out];exact hz)]
        subst h0
        go_wp2_with (at_builtin;refine wpl_append_rd rfl _ _ rfl w.heap.size _ [] rfl (Own.nil _ _) _ _ _ Y rfl hot HLC.out hr' (by simp;omega) (Nat.le_refl _) ?_;intro v' w' hv hb)
        go_ret
        exact HF.out _ _ hv hb
def SMRel (g n:Nat) (xs:List Nat) (d:Nat) (w1:World) (c i:Value) (wr:World):Prop :=
  ∃ (k q:Nat) (zs:List Nat),k≤n∧i=.int .i64 ((k:Int) - 1)∧c=.int .u64 (q:Int)∧q<d∧zs.length=n∧Okl zs∧val (zs.drop k)*d+q=val (xs.drop k)∧wr=put g zs [] w1
def SmallPost (N d:Nat) (w:World) (e:Ending) (w':World):Prop :=
  ∃ v,e=.returned (.tuple #[v,.int .u32 ((N % d:Nat):Int)])∧Own w.heap.size w' v (limbs (N / d))∧Below w.heap.size w w'
theorem sm_step {g n d j q x:Nat} {xs zs:List Nat} {w1:World} (hl:zs.length=n) (hn:xs.length=n) (hj:j+1≤n) (hd:d<B32) (hd0:0<d) (hq:q<d) (hoz:Okl zs) (hx:xs.getD j 0=x) (hxb:x<B32)
    (he:val (zs.drop (j+1))*d+q=val (xs.drop (j+1))) (hb:Blk w1 g (List.replicate n 0) []) :
    SMRel g n xs d w1 (.int .u64 ((wd q x % d:Nat):Int)) (.int .i64 ((j:Int) - 1)) ((put g zs [] w1).setCell ⟨g,j,none⟩ (.int .u32 ((wd q x / d:Nat):Int))):=by
  have hql:wd q x / d<B32:=by
    rw [Nat.div_lt_iff_lt_mul hd0];unfold wd
    have:(q+1)*B32≤d*B32:=Nat.mul_le_mul_right _ hq
    rw [Nat.add_mul,Nat.one_mul] at this
    rw [Nat.mul_comm B32 d];omega
  have hml:wd q x % d<d:=Nat.mod_lt _ hd0
  rw [set_blk (put_blk _ _ hb.lt) _ _ (by omega),put_put]
  refine ⟨j,_,zs.set j (wd q x / d),by omega,rfl,rfl,hml,by rw [List.length_set];exact hl,hoz.set _ _ hql,?_,rfl⟩
  rw [val_drop_succ _ j (by rw [List.length_set];omega),val_drop_succ xs j (by omega),hx,List.drop_set_of_lt (by omega)]
  have e3:(zs.set j (wd q x / d)).getD j 0=wd q x / d:=by simp [List.getD,show j<zs.length by omega]
  rw [e3]
  exact sh_num he (Nat.div_add_mod _ _)
theorem refSmall_any (ad:Option Addr) (n cap:Nat) (xs:List Nat) (d:Nat) (w:World) (hn:xs.length=n) (hcap:n≤cap) (hm:n≤100000000) (ho:Okl xs) (hr:Rd w ad xs) (hd:d<B32) (hd0:0<d) :
    Calls Tryz.prog 151 #[.slice ad n cap,.int .u32 (d:Int)] w (SmallPost (val xs) d w):=by
  have HN:=Lib.hid hn;clear hn
  have hd':=hd
  rw [B32_eq] at hd'
  have hd0':¬ ((d:Int)=0):=by omega
  go_enter Tryz.func151,Tryz.ntmps151
  go_wp2_with (at_make;refine wpl_make _ rfl _ _ rfl _ _ _ _ n rfl rfl rfl rfl (by omega) ?_;intro w1 hB1 hb1)
  have hg1:=hr.apart (Nat.le_refl w.heap.size)
  have hr1:=hr.below hb1
  go_loopw [7,8] (fun c i wr=>SMRel w.heap.size n xs d w1 c i wr) (fun _ i _=>(intOf i+1).toNat)
  case atStart=>exact ⟨n,0,List.replicate n 0,Nat.le_refl _,by go_num,rfl,hd0,by simp,Okl.replicate n,by rw [List.drop_of_length_le (by simp),List.drop_of_length_le (by rw [HN.out];exact Nat.le_refl _)];simp [val],(put_same hB1).symm⟩
  case round =>
    obtain ⟨k,q,zs,hk,rfl,rfl,hq,hl,hoz,he,rfl⟩:=hrel
    have HL:=Lib.hid hl;clear hl
    have HE:=Lib.hid he;clear he
    have hbz:Blk (put w.heap.size zs [] w1) w.heap.size zs []:=put_blk _ _ hB1.lt
    rcases k with _ | j
    · have hv:=HE.out
      simp only [List.drop_zero] at hv
      have hdv:val xs / d=val zs:=by rw [← hv,Nat.mul_comm,Nat.mul_add_div hd0,Nat.div_eq_of_lt hq,Nat.add_zero]
      have hmd:val xs % d=q:=by rw [← hv,Nat.mul_comm,Nat.mul_add_mod,Nat.mod_eq_of_lt hq]
      have HD:=Lib.hid hdv;clear hdv
      have HM:=Lib.hid hmd;clear hmd hv
      have hbl:Below w.heap.size w (put w.heap.size zs [] w1):=put_below hb1 (Nat.le_refl _) _ _
      have KN:=Lib.hid (refNorm_any (some ⟨w.heap.size,0,none⟩) n n zs _ HL.out (Nat.le_refl _) hm hoz hbz.rd_all)
      have hq':q<4294967296:=by omega
      rw [show (((0:Nat):Int) - 1) = -1 from rfl]
      have HBL:=Lib.hid hbl;clear hbl
      generalize put w.heap.size zs [] w1=W at *
      go_wp2_with fail
      refine KN.out.mono ?_
      rintro e w' ⟨v,rfl,hv,hb'⟩
      go_wp2
      go_ret2
      exact ⟨v,by rw [HM.out];rfl,by rw [HD.out];exact hv.mono HBL.out.size,below_on HBL.out hb'⟩
    · rw [show (((j+1:Nat):Int) - 1)=(j:Int) by omega]
      obtain ⟨b,o,rfl,hblt,hc⟩:=(hr1.put (g:=w.heap.size) hg1 zs []) j (by rw [HN.out];omega)
      have hcz:=hbz.cell j (by rw [HL.out];omega)
      have hfz:=hbz.free j
      have hxb:=ho.getD j
      generalize hx:xs.getD j 0=x at *
      have R:=Lib.hid (sm_step (g:=w.heap.size) (w1:=w1) HL.out HN.out hk hd hd0 hq hoz hx hxb HE.out hB1)
      clear hx
      have hq':q<4294967296:=by omega
      have hwl:=wd_lt (Nat.lt_trans hq hd) hxb
      have hwd:(q:Int)*4294967296+(x:Int)=((wd q x:Nat):Int):=by unfold wd;rw [B32_eq];omega
      have hqb:wd q x / d<4294967296:=by
        have:wd q x / d<B32:=by
          rw [Nat.div_lt_iff_lt_mul hd0];unfold wd
          have:(q+1)*B32≤d*B32:=Nat.mul_le_mul_right _ hq
          rw [Nat.add_mul,Nat.one_mul] at this
          rw [Nat.mul_comm B32 d];omega
        rwa [B32_eq] at this
      rw [B32_eq] at hxb
      generalize wd q x=D at *
      have hml:D % d<4294967296:=by have:=Nat.mod_lt D hd0;omega
      go_wp2
      go_roundw
      case rel =>
        have e1:IntKind.u64.wrap ((D:Int) / (d:Int)) % 4294967296=((D / d:Nat):Int):=by
          rw [← Int.natCast_ediv]
          generalize D / d=Q at *
          rw [IntWalk.u64_in _ (by omega)];omega
        rw [e1];exact R.out
      case measure=>simp [intOf]
def RTPost (a:Nat) (w:World) (e:Ending) (w':World):Prop :=
  ∃ v m k,e=.returned (.tuple #[v,.int .i64 ((k:Nat):Int)])∧Own w.heap.size w' v (limbs m)∧Below w.heap.size w w'∧a=m*tenN k∧(a=0→k=0)∧(a ≠ 0→m % 10 ≠ 0)∧k≤400000000
def RTRel (G N:Nat) (w:World) (M:Nat) (lv n:Value) (wr:World):Prop :=
  ∃ k:Nat,n=.int .i64 (k:Int)∧Own G wr lv (limbs M)∧N=M*tenN k∧(N=0→k=0)∧M≤N∧k≤400000000∧Below G w wr
theorem rt_step {N M k n:Nat} (h:N=M*tenN k) (h0:M ≠ 0) (hm:M % 10=0) (hN:N<B32 ^ n) (hn:n≤10000000):N=M / 10*tenN (k+1)∧(N=0→k+1=0)∧k+1≤400000000:=by
  have e:=Nat.div_add_mod M 10
  rw [hm,Nat.add_zero] at e
  have hN0:N ≠ 0:=by rw [h];exact Nat.mul_ne_zero h0 (tenN_ne _)
  have e1:N=M / 10*tenN (k+1):=by
    rw [h];conv=>lhs;rw [← e]
    rw [tenN_succ]
    generalize tenN k=T;generalize M / 10=q;grind
  have h1:M / 10 ≠ 0:=by omega
  have h2:tenN (k+1)≤N:=by rw [e1];exact Nat.le_mul_of_pos_left _ (by omega)
  have:=ten_bound h2 hN
  exact ⟨e1,fun h0=>absurd h0 hN0,by omega⟩
theorem refTrim_any (ad:Option Addr) (n cap:Nat) (xs:List Nat) (w:World) (hn:xs.length=n) (hcap:n≤cap) (hm:n≤10000000) (ho:Okl xs) (hr:Rd w ad xs) :
    Calls Tryz.prog 175 #[.slice ad n cap] w (RTPost (val xs) w):=by
  have KN:=Lib.hid (refNorm_any ad n cap xs w hn hcap (by omega) ho hr)
  have hlen:=limbs_len_le ho
  rw [hn] at hlen
  have hlt:=val_lt ho
  rw [hn] at hlt
  generalize val xs=N at *
  clear ho hr hn
  generalize hG:w.heap.size=G at *
  have HLT:=Lib.hid hlt;clear hlt
  go_enter Tryz.func175,Tryz.ntmps175
  go_wp2_with fail
  refine KN.out.mono ?_
  rintro e w' ⟨v,rfl,hv,hbl⟩
  rw [hG] at hv hbl
  have HV:=Lib.hid hv;have HB:=Lib.hid hbl;clear hv hbl
  go_wp2_with fail
  go_loopg [4,5] N (fun M lv nv wr=>RTRel G N w M lv nv wr)
  case atStart=>exact ⟨0,rfl,HV.out,by rw [tenN_zero,Nat.mul_one],fun _=>rfl,Nat.le_refl _,by omega,HB.out⟩
  case round =>
    clear HV HB
    obtain ⟨k,rfl,hown,hT,hk0,hle,hk4,hbl⟩:=hrel
    obtain ⟨ad2,cap2,hve,hc2,hrd,hadd⟩:=hown.view
    have hll:(limbs gk).length≤n:=Nat.le_trans (limbs_len_mono hle) hlen
    by_cases hM:gk=0
    · subst hM
      rw [limbs_zero] at hve
      subst hve
      have F:=Lib.hid (show RTPost N w (.returned (.tuple #[.slice ad2 0 cap2,.int .i64 ((k:Nat):Int)])) wr from ⟨_,0,k,rfl,by rw [hG];exact hown,by rw [hG];exact hbl,hT,hk0,fun h=>absurd (by rw [hT,Nat.zero_mul]) h,hk4⟩)
      clear hown hrd hadd hT hbl hc2 hll hk0
      go_wp2
      go_ret2
      exact F.out
    · have hpos:(0:Int)<((limbs gk).length:Int):=by
        have:(limbs gk).length ≠ 0:=fun h=>hM ((limbs_nil_iff gk).1 (List.eq_nil_of_length_eq_zero h))
        omega
      have K:=refSmall_any ad2 (limbs gk).length cap2 (limbs gk) 10 wr rfl hc2 (by omega) (limbs_ok gk) hrd (by decide) (by decide)
      rw [val_limbs] at K
      have KS:=Lib.hid K;clear K
      have hGs:G≤wr.heap.size:=Nat.le_trans (by rw [← hG];exact Nat.le_refl _) hbl.size
      have HT:=Lib.hid hT;have HB:=Lib.hid hbl;have HO:=Lib.hid hown;have HK0:=Lib.hid hk0;have HVE:=Lib.hid hve
      subst hve
      clear hown hrd hadd hT hbl hc2 hk0
      go_wp2_with fail
      refine KS.out.mono ?_
      rintro r w1 ⟨v1,rfl,hv1,hb1⟩
      have hv2:=hv1.mono hGs
      have hbl2:=HB.out.trans (hb1.mono hGs)
      have ho2:=HO.out.below hb1
      have h10:gk % 10<10:=Nat.mod_lt _ (by decide)
      have HV2:=Lib.hid hv2;have HB2:=Lib.hid hbl2;have HO2:=Lib.hid ho2
      clear hv1 hb1 hv2 hbl2 KS ho2
      by_cases h0:gk % 10=0
      · have HS:=Lib.hid (rt_step HT.out hM h0 HLT.out hm)
        have hqm:gk / 10<gk:=by omega
        have HQN:=Lib.hid (show gk / 10≤N by omega)
        have hb:((((gk % 10:Nat):Int)) != 0)=false:=by rw [h0];rfl
        have hi:((gk % 10:Nat):Int)=0:=by omega
        generalize gk % 10=r at *
        subst h0
        generalize gk / 10=q at *
        go_wp2
        go_roundg q
        case measure=>exact hqm
        case rel=>exact ⟨k+1,by go_num,HV2.out,HS.out.1,HS.out.2.1,HQN.out,HS.out.2.2,HB2.out⟩
      · have F:=Lib.hid (show RTPost N w (.returned (.tuple #[.slice ad2 (limbs gk).length cap2,.int .i64 ((k:Nat):Int)])) w1 from ⟨_,gk,k,rfl,by rw [hG];exact HO2.out,by rw [hG];exact HB2.out,HT.out,HK0.out,fun _=>h0,hk4⟩)
        have hi:¬ ((gk % 10:Nat):Int)=0:=by omega
        generalize gk % 10=r at *
        go_wp2
        go_ret2
        exact F.out

end Go.Proofs.YtijaphbccnadbaaGreatDoor
namespace Go.Proofs.YtijaphbccnadbaaGreatDoor
open Go.RowKit Go.Sort

theorem box3_cells {w:World} {g:Nat} {x0 x1 x2:Value} (hz:g<w.heap.size) (c0:w.cell? ⟨g,0,none⟩=some x0) (c1:w.cell? ⟨g,1,none⟩=some x1) (c2:w.cell? ⟨g,2,none⟩=some x2) (v0 v1 v2:Value) (b:Array Value) (t:TypeId) :
    ((((w.setCell ⟨g,0,none⟩ v0).setCell ⟨g,1,none⟩ v1).setCell ⟨g,2,none⟩ v2).alloc (.cells b t)).cell? ⟨g,0,none⟩=some v0∧((((w.setCell ⟨g,0,none⟩ v0).setCell ⟨g,1,none⟩ v1).setCell ⟨g,2,none⟩ v2).alloc (.cells b t)).cell? ⟨g,1,none⟩=some v1∧((((w.setCell ⟨g,0,none⟩ v0).setCell ⟨g,1,none⟩ v1).setCell ⟨g,2,none⟩ v2).alloc (.cells b t)).cell? ⟨g,2,none⟩=some v2:=by
  have hb:=below_box (((w.setCell ⟨g,0,none⟩ v0).setCell ⟨g,1,none⟩ v1).setCell ⟨g,2,none⟩ v2) b t
  have hs:g<(((w.setCell ⟨g,0,none⟩ v0).setCell ⟨g,1,none⟩ v1).setCell ⟨g,2,none⟩ v2).heap.size:=by simpa [World.setCell] using hz
  refine ⟨?_,?_,?_⟩
  · rw [hb.cell (p:=⟨g,0,none⟩) hs];simp [go_sem,c0,c1,c2]
  · rw [hb.cell (p:=⟨g,1,none⟩) hs];simp [go_sem,c0,c1,c2]
  · rw [hb.cell (p:=⟨g,2,none⟩) hs];simp [go_sem,c0,c1,c2]

end Go.Proofs.YtijaphbccnadbaaGreatDoor
