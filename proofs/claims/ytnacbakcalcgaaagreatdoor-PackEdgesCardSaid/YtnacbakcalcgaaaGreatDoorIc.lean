/- Texts of the claim. -/
import Derived.Test.YtnacbakcalcgaaaGreatDoorIb
set_option linter.unusedVariables false
set_option linter.unusedSimpArgs false
set_option maxHeartbeats 4000000
set_option maxRecDepth 100000
namespace Go.Proofs.YtnacbakcalcgaaaGreatDoor
open Go.RowKit
open Go.RowKit
open Go.RowKit
theorem limbs_top {N t:Nat} (h:(limbs N).length=t+1):(limbs N).getD t 0 ≠ 0:=by
  have hc:=limbs_cutLen N
  rw [h] at hc
  exact cut_top _ _ _ hc
theorem limbs_len_mono {a b:Nat} (h:b≤a):(limbs b).length≤(limbs a).length:=by
  rcases Nat.lt_or_ge (limbs a).length (limbs b).length with h1 | h1
  · have:=limbs_len_lt h1;omega
  · exact h1
def rmN (a b:Nat):Nat:=if b=0 then 0 else a % b
def QuoPost (a b:Nat) (w:World) (e:Ending) (w':World):Prop :=
  ∃ v1 v2,e=.returned (.tuple #[v1,v2])∧Own w.heap.size w' v1 (limbs (a / b))∧Own w.heap.size w' v2 (limbs (rmN a b))∧Below w.heap.size w w'
theorem cmpN_neg {a b:Nat}:(cmpN a b<0) ↔ a<b:=by unfold cmpN;split <;> (try split) <;> omega
theorem div_any (ad:Option Addr) (n cap:Nat) (xs:List Nat) (ad':Option Addr) (n' cap':Nat) (ys:List Nat) (w:World) (hn:xs.length=n) (hcap:n≤cap) (hm:n≤10000000) (ho:Okl xs) (hr:Rd w ad xs)
    (hn':ys.length=n') (hcap':n'≤cap') (hm':n'≤10000000) (ho':Okl ys) (hr':Rd w ad' ys) :
    Calls Tryz.prog 198 #[.slice ad n cap,.slice ad' n' cap'] w (QuoPost (val xs) (val ys) w):=by
  have K1:=Lib.hid (cut_nat ad n cap xs w hn hcap (by omega) ho hr)
  have K2:=Lib.hid (cut_nat ad' n' cap' ys w hn' hcap' (by omega) ho' hr')
  have hrX:=rd_limbs ho hr
  have hrY:=rd_limbs ho' hr'
  have hlX:=limbs_len_le ho
  have hlY:=limbs_len_le ho'
  rw [hn] at hlX
  rw [hn'] at hlY
  generalize val xs=a at *
  generalize val ys=b at *
  have hoX:=limbs_ok a
  have hoY:=limbs_ok b
  have hvX:=val_limbs a
  have hvY:=val_limbs b
  have HNil:=Lib.hid (limbs_nil_iff b)
  have HTop:=Lib.hid (fun t=>@limbs_top b t)
  have HMono:=Lib.hid (@limbs_len_mono a b)
  generalize limbs a=X at *
  generalize limbs b=Y at *
  generalize hc:X.length=c at *
  generalize hc':Y.length=c' at *
  clear hn hn' ho ho' hr hr'
  have C1:=Lib.hid hc;clear hc
  have C2:=Lib.hid hc';clear hc'
  have V1:=Lib.hid hvX;clear hvX
  have V2:=Lib.hid hvY;clear hvY
  by_cases h0:c'=0
  · subst h0
    have hb0:b=0:=HNil.out.1 (List.eq_nil_of_length_eq_zero C2.out)
    have hq:a / b=0:=by rw [hb0,Nat.div_zero]
    have hr:rmN a b=0:=by unfold rmN;rw [if_pos hb0]
    have HQ:=Lib.hid hq
    have HR:=Lib.hid hr
    clear hq hr hb0
    go_enter Tryz.func198,Tryz.ntmps198
    go_wp2_with fail
    refine K1.out.mono ?_
    rintro e w' ⟨rfl,rfl⟩
    go_wp2_with fail
    refine K2.out.mono ?_
    rintro e w' ⟨rfl,rfl⟩
    go_wp2
    go_ret2
    exact ⟨_,_,rfl,by rw [HQ.out];exact Own.nil _ _,by rw [HR.out];exact Own.nil _ _,Below.refl _ _⟩
  · have hb0:0<b:=by
      rcases Nat.eq_zero_or_pos b with h1 | h1
      · have:=HNil.out.2 h1;rw [this] at C2;exact absurd C2.out.symm h0
      · exact h1
    have hcne:((c':Int) == 0)=false:=by rw [beq_eq_false_iff_ne];omega
    have KC:=cmp_any ad c cap X ad' c' cap' Y w C1.out (by omega) (by omega) hoX hrX C2.out (by omega) (by omega) hoY hrY
    rw [V1.out,V2.out] at KC
    have KCH:=Lib.hid KC;clear KC
    by_cases hlt:a<b
    · have KN:=fun q=>norm_any ad c cap X (w.drewN q) C1.out (by omega) (by omega) hoX (hrX.drewN q)
      rw [V1.out] at KN
      have KNH:=Lib.hid KN;clear KN
      have HQ:=Lib.hid (Nat.div_eq_of_lt hlt)
      have HR:=Lib.hid (show rmN a b=a by unfold rmN;rw [if_neg (by omega),Nat.mod_eq_of_lt hlt])
      have hcn:=cmpN_neg.2 hlt
      clear hlt
      go_enter Tryz.func198,Tryz.ntmps198
      go_wp2_with fail
      refine K1.out.mono ?_
      rintro e w' ⟨rfl,rfl⟩
      go_wp2_with fail
      refine K2.out.mono ?_
      rintro e w' ⟨rfl,rfl⟩
      go_wp2_with fail
      refine KCH.out.mono ?_
      rintro e w' ⟨rfl,q,rfl⟩
      generalize cmpN a b=m at *
      go_wp2_with fail
      refine (KNH.out q).mono ?_
      rintro e w' ⟨v,rfl,hv,hbl⟩
      go_wp2
      go_ret2
      exact ⟨_,v,rfl,by rw [HQ.out];exact Own.nil _ _,by rw [HR.out];exact hv,(below_drewN' (Below.refl _ _) q).trans hbl⟩
    · have hcn:¬ cmpN a b<0:=fun h=>hlt (cmpN_neg.1 h)
      have KD:=fun q=>divide_any ad c cap X ad' c' cap' Y (w.drewN q) C1.out (by omega) (by omega) hoX (hrX.drewN q) C2.out (by omega) (by omega) (by have:=HMono.out (by omega);omega) hoY (hrY.drewN q) (HTop.out (c' - 1) (by omega))
      rw [V1.out,V2.out] at KD
      have KDH:=Lib.hid KD;clear KD
      have HR:=Lib.hid (show rmN a b=a % b by unfold rmN;rw [if_neg (by omega)])
      clear hlt
      go_enter Tryz.func198,Tryz.ntmps198
      go_wp2_with fail
      refine K1.out.mono ?_
      rintro e w' ⟨rfl,rfl⟩
      go_wp2_with fail
      refine K2.out.mono ?_
      rintro e w' ⟨rfl,rfl⟩
      go_wp2_with fail
      refine KCH.out.mono ?_
      rintro e w' ⟨rfl,q,rfl⟩
      generalize cmpN a b=m at *
      go_wp2_with fail
      refine (KDH.out q).mono ?_
      rintro e w' ⟨v1,v2,rfl,hv1,hv2,hbl⟩
      go_wp2
      go_ret2
      exact ⟨v1,v2,rfl,hv1,by rw [HR.out];exact hv2,(below_drewN' (Below.refl _ _) q).trans hbl⟩
/-! zeros, tens -/
def tenN (n:Nat):Nat:=10 ^ n
theorem tenN_zero:tenN 0=1:=rfl
theorem tenN_succ (n:Nat):tenN (n+1)=tenN n*10:=Nat.pow_succ _ _
theorem tenN_pos (n:Nat):0<tenN n:=Nat.pow_pos (by decide)
theorem tenN_le {n m:Nat} (h:n≤m):tenN n≤tenN m:=Nat.pow_le_pow_right (by decide) h
theorem tenN_9:tenN 9=1000000000:=by decide
theorem tenN_add (a b:Nat):tenN (a+b)=tenN a*tenN b:=Nat.pow_add _ _ _
theorem tens_any (n:Nat) (w:World) (hn:n≤9) :
    Calls Tryz.prog 207 #[.int .i64 (n:Int)] w fun e w'=>e=.returned (.int .u32 ((tenN n:Nat):Int))∧w=w':=by
  go_enter Tryz.func207,Tryz.ntmps207
  go_wp2
  go_loop [3,5] (fun p i=>∃ (k:Nat),k≤n∧i=.int .i64 k∧p=.int .u32 (tenN k)) (fun _ i=>n - (intOf i).toNat)
  case atStart=>exact ⟨0,by omega,rfl,rfl⟩
  case round =>
    obtain ⟨k,hk,rfl,rfl⟩:=hrel
    by_cases hlt:k<n
    · have hb:tenN k*10≤1000000000:=by rw [← tenN_succ,← tenN_9];exact tenN_le (by omega)
      have HX:=Lib.hid (tenN_succ k)
      go_wp2
      go_round
      case rel=>exact ⟨k+1,by omega,by go_num,by rw [HX.out];go_num⟩
      case measure=>simp [intOf];omega
    · obtain rfl:k=n:=by omega
      go_wp2
      go_ret
      exact ⟨rfl,rfl⟩
def ZerosPost (v:Nat) (w:World) (e:Ending) (w':World):Prop :=
  ∃ z m,e=.returned (.int .i64 ((z:Nat):Int))∧v=m*tenN z∧m % 10 ≠ 0∧z≤8∧w=w'
theorem zeros_any (v:Nat) (w:World) (h0:v ≠ 0) (hv:v<1000000000) :
    Calls Tryz.prog 206 #[.int .u32 (v:Int)] w (ZerosPost v w):=by
  go_enter Tryz.func206,Tryz.ntmps206
  go_wp2
  go_loop [0,3] (fun p i=>∃ (k x:Nat),i=.int .i64 k∧p=.int .u32 x∧v=x*tenN k∧x ≠ 0∧x≤v∧k≤8) (fun p _=>(intOf p).toNat)
  case atStart=>exact ⟨0,v,rfl,rfl,by rw [tenN_zero,Nat.mul_one],h0,Nat.le_refl _,by omega⟩
  case round =>
    obtain ⟨k,x,rfl,rfl,hx,hx0,hxv,hk8⟩:=hrel
    have HX:=Lib.hid hx;clear hx
    by_cases hm:x % 10=0
    · have hmb:(((x:Int) % 10) == 0)=true:=by rw [beq_iff_eq];omega
      have hx':v=x / 10*tenN (k+1):=by
        have e:=Nat.div_add_mod x 10
        rw [hm,Nat.add_zero] at e
        rw [HX.out]
        conv=>lhs;rw [← e]
        rw [tenN_succ,Nat.mul_comm (tenN k),← Nat.mul_assoc,Nat.mul_comm (x / 10) 10]
      have hk9:k+1≤8:=by
        rcases Nat.lt_or_ge k 8 with h1 | h1
        · exact h1
        · exfalso
          have h2:tenN 9≤tenN (k+1):=tenN_le (by omega)
          have h3:1*tenN (k+1)≤x / 10*tenN (k+1):=Nat.mul_le_mul_right _ (by omega)
          rw [tenN_9] at h2
          omega
      have H2:=Lib.hid hx';clear hx'
      go_wp2
      go_round
      case rel=>exact ⟨k+1,x / 10,by go_num,by go_num,H2.out,by omega,by omega,hk9⟩
      case measure=>simp [intOf];omega
    · have hmb:(((x:Int) % 10) == 0)=false:=by rw [beq_eq_false_iff_ne];omega
      go_wp2
      go_ret
      exact ⟨k,x,rfl,HX.out,hm,hk8,rfl⟩
def TrimPost (a:Nat) (w:World) (e:Ending) (w':World):Prop :=
  ∃ v m k,e=.returned (.tuple #[v,.int .i64 ((k:Nat):Int)])∧Own w.heap.size w' v (limbs m)∧Below w.heap.size w w'∧a=m*tenN k∧(a=0→k=0)∧(a ≠ 0→m % 10 ≠ 0)∧k≤400000000
theorem ten_bound {k N n:Nat} (h:tenN k≤N) (h2:N<B32 ^ n):k<32*n:=by
  have h1:2 ^ k≤tenN k:=Nat.pow_le_pow_left (by decide) k
  have e:B32 ^ n=2 ^ (32*n):=by rw [Nat.pow_mul];rfl
  rw [e] at h2
  have h3:2 ^ k<2 ^ (32*n):=by omega
  exact (Nat.pow_lt_pow_iff_right (by decide)).1 h3
theorem trim_last {L m z:Nat} (h:L % 1000000000=m*tenN z) (hm:m % 10 ≠ 0) (hz:z≤8):L=L / tenN z*tenN z∧(L / tenN z) % 10 ≠ 0:=by
  have e9:(1000000000:Nat)=tenN (9 - z)*tenN z:=by rw [← tenN_add,Nat.sub_add_cancel (by omega),tenN_9]
  have hd:=Nat.div_add_mod L 1000000000
  rw [h] at hd
  generalize L / 1000000000=q at *
  have hL:L=(tenN (9 - z)*q+m)*tenN z:=by
    rw [← hd];conv=>lhs;lhs;rw [e9]
    grind
  have hq:L / tenN z=tenN (9 - z)*q+m:=by rw [hL];exact Nat.mul_div_cancel _ (tenN_pos z)
  refine ⟨by rw [hq];exact hL,?_⟩
  rw [hq]
  have:tenN (9 - z)=10*tenN (8 - z):=by rw [show 9 - z=(8 - z)+1 by omega,tenN_succ,Nat.mul_comm]
  rw [this,Nat.mul_assoc,Nat.mul_add_mod]
  exact hm
def TrimRel (G a n:Nat) (w:World) (L:Nat) (lv cnt:Value) (wr:World):Prop :=
  ∃ c:Nat,L ≠ 0∧cnt=.int .i64 c∧Own G wr lv (limbs L)∧a=L*tenN c∧Below G w wr
theorem shrink_chunk (B:Nat) (v:Value) (xs:List Nat) (w:World) (hown:Own B w v xs) (hB:B≤w.heap.size) (hm:xs.length≤100000000) :
    Calls Tryz.prog 205 #[v,.int .u32 1000000000] w (ShrinkPost B (val xs) 1000000000 v.ownBlock w) :=
  shrink_any B v xs 1000000000 w hown hB hm (by decide) (by decide)
theorem trim_any (ad:Option Addr) (n cap:Nat) (xs:List Nat) (w:World) (hn:xs.length=n) (hcap:n≤cap) (hm:n≤10000000) (ho:Okl xs) (hr:Rd w ad xs) :
    Calls Tryz.prog 195 #[.slice ad n cap] w (TrimPost (val xs) w):=by
  have KN:=Lib.hid (norm_any ad n cap xs w hn hcap (by omega) ho hr)
  have hlt:=val_lt ho
  rw [hn] at hlt
  have hlen:=limbs_len_le ho
  rw [hn] at hlen
  generalize val xs=a at *
  clear ho hr hn
  have HLT:=Lib.hid hlt;clear hlt
  by_cases h0:a=0
  · subst h0
    go_enter Tryz.func195,Tryz.ntmps195
    go_wp2_with fail
    refine KN.out.mono ?_
    rintro e w' ⟨v,rfl,hv,hbl⟩
    obtain ⟨ad1,cap1,rfl,_,_,_⟩:=hv.view
    rw [limbs_zero] at hv ⊢
    go_wp2_with fail
    go_wp2
    go_ret2
    exact ⟨_,0,0,rfl,Own.nil _ _,hbl,by rw [Nat.zero_mul],fun _=>rfl,fun h=>absurd rfl h,by omega⟩
  · have hne:(limbs a).length ≠ 0:=fun h=>h0 ((limbs_nil_iff a).1 (List.eq_nil_of_length_eq_zero h))
    have hnb:(((limbs a).length:Int) == 0)=false:=by rw [beq_eq_false_iff_ne];omega
    have HNB:=Lib.hid hnb
    clear hnb
    generalize hG:w.heap.size=G at *
    go_enter Tryz.func195,Tryz.ntmps195
    go_wp2_with fail
    refine KN.out.mono ?_
    rintro e w' ⟨v,rfl,hv,hbl⟩
    rw [hG] at hv hbl
    obtain ⟨ad1,cap1,hve,_,_,_⟩:=hv.view
    subst hve
    have hnb:=HNB.out
    go_wp2
    clear hnb
    go_loopg [4,5] a (fun L lv cnt wr=>TrimRel G a n w L lv cnt wr)
    case atStart=>exact ⟨0,h0,rfl,hv,by rw [tenN_zero,Nat.mul_one],hbl⟩
    case round =>
      clear hv hbl
      obtain ⟨c,hL0,rfl,hown,ha,hbl⟩:=hrel
      have hLa:gk≤a:=by rw [ha];exact Nat.le_mul_of_pos_right _ (tenN_pos c)
      have hcb:c<32*n:=ten_bound (N:=a) (by rw [ha];exact Nat.le_mul_of_pos_left _ (by omega)) HLT.out
      have hll:(limbs gk).length≤n:=Nat.le_trans (limbs_len_mono hLa) hlen
      have HA:=Lib.hid ha;clear ha
      obtain ⟨ad2,cap2,rfl,hle,hrd,hadd⟩:=hown.view
      have K2:=norm_any ad2 (limbs gk).length cap2 (limbs gk) wr rfl hle (by omega) (limbs_ok gk) hrd
      rw [val_limbs] at K2
      have hsG:G≤wr.heap.size:=Nat.le_trans (by rw [← hG];exact Nat.le_refl _) hbl.size
      have K2H:=Lib.hid K2
      have HADD:=Lib.hid hadd
      clear K2 hadd hrd hle
      go_wp2_with fail
      refine K2H.out.mono ?_
      rintro e w1 ⟨v1,rfl,hv1,hb1⟩
      go_wp2_with fail
      have K3:=shrink_chunk wr.heap.size v1 (limbs gk) w1 hv1 hb1.size (by omega)
      rw [val_limbs] at K3
      refine K3.mono ?_
      clear K3
      rintro e w2 ⟨v2,rfl,hv2,hb2,_⟩
      have hb12:Below wr.heap.size wr w2:=hb1.trans hb2
      have hown2:=hown.below hb12
      have hbl2:Below G w w2:=hbl.trans (hb12.mono hsG)
      have hsG2:G≤w2.heap.size:=Nat.le_trans hsG hb12.size
      have hrl:gk % 1000000000<1000000000:=Nat.mod_lt _ (by decide)
      generalize hrm:gk % 1000000000=rm at *
      have HRM:=Lib.hid hrm;clear hrm
      clear hv1 hb1 hb2 hown hb12
      by_cases hr0:rm=0
      · subst hr0
        have hdv:gk=gk / 1000000000*1000000000:=by have h1:=HRM.out;omega
        have HDV:=Lib.hid hdv;clear hdv
        have hq0:gk / 1000000000 ≠ 0:=by intro h1;have:=HDV.out;rw [h1] at this;omega
        have hql:gk / 1000000000<gk:=by omega
        have hv3:=hv2.mono hsG
        generalize hQ:gk / 1000000000=Q at *
        have HQ:=Lib.hid hQ;clear hQ
        go_wp2
        go_roundg Q
        case measure=>exact hql
        case rel=>exact ⟨c+9,hq0,by go_num,hv3,by rw [HA.out,HDV.out,tenN_add,tenN_9,Nat.mul_assoc,Nat.mul_comm 1000000000],hbl2⟩
      · have hpos:(0:Int)<(rm:Int):=by omega
        go_wp2_with fail
        refine (zeros_any rm w2 hr0 hrl).mono ?_
        rintro e w' ⟨z,m,rfl,hzm,hm10,hz8,rfl⟩
        have htl:=trim_last (by rw [HRM.out];exact hzm) hm10 hz8
        have HTL:=Lib.hid htl
        clear htl hzm hm10
        go_wp2_with fail
        refine (tens_any z _ (by omega)).mono ?_
        rintro e w' ⟨rfl,rfl⟩
        go_wp2_with fail
        have K4:=shrink_any G _ (limbs gk) (tenN z) w2 hown2 hsG2 (by omega) (by have:=tenN_le (show z≤9 by omega);rw [tenN_9] at this;rw [B32_eq];omega) (tenN_pos z)
        rw [val_limbs] at K4
        refine K4.mono ?_
        clear K4
        rintro e w3 ⟨v3,rfl,hv3,hb3,_⟩
        go_wp2
        go_ret2
        exact ⟨v3,gk / tenN z,c+z,by go_num,by rw [hG];exact hv3,by rw [hG];exact hbl2.trans hb3,
          by rw [HA.out,Nat.add_comm,tenN_add,← Nat.mul_assoc,← HTL.out.1],fun h=>absurd h h0,fun _=>HTL.out.2,by omega⟩
def cutP (n:Int):Nat:=(min (max n 0) 1300).toNat
theorem cutP_le (n:Int):cutP n≤1300:=by unfold cutP;omega
theorem cutP_eq (n:Int):min (max n 0) 1300=(cutP n:Int):=by unfold cutP;omega
theorem cutP_nat {n:Nat} (h:n≤1300):cutP (n:Int)=n:=by unfold cutP;omega
theorem limbs_one:limbs 1=[1]:=by decide
theorem pow_bound {b:Nat} (hb:b<B32) (e:Nat):b ^ e<B32 ^ (e+1):=by
  have h1:b ^ e≤B32 ^ e:=Nat.pow_le_pow_left (Nat.le_of_lt hb) e
  have h2:B32 ^ e<B32 ^ (e+1):=Nat.pow_lt_pow_right (by decide) (Nat.lt_succ_self e)
  exact Nat.lt_of_le_of_lt h1 h2
theorem and_one (m:Nat) (h:m≤1300):bits BinOp.and IntKind.i64 (m:Int) 1=((m % 2:Nat):Int):=by
  have:=bits_mask .i64 62 (by decide) (fun n h0 h1=>IntWalk.i64_in n (by omega)) 1 (by decide) (m:Int) (by omega) (by omega)
  have e:(2:Int) ^ 1 - 1=1:=by decide
  rw [e] at this
  rw [this];omega
theorem shr_cast (N j:Nat):(N:Int) / 2 ^ j=((N / 2 ^ j:Nat):Int):=by push_cast;rfl
theorem half_step (N j:Nat):N / 2 ^ j=2*(N / 2 ^ (j+1))+N / 2 ^ j % 2:=by
  rw [Nat.pow_succ,← Nat.div_div_eq_div_mul];omega
def PowRel (G b N:Nat) (w:World) (pv i:Value) (wr:World):Prop :=
  ∃ k:Nat,k≤12∧i=.int .i64 ((k:Int) - 1)∧Own G wr pv (limbs (b ^ (N / 2 ^ k)))∧Below G w wr
theorem pow_any (b:Nat) (n:Int) (w:World) (hb:b<B32) :
    Calls Tryz.prog 82 #[.int .u32 (b:Int),.int .i64 n] w (Gives (b ^ cutP n) w):=by
  have hce:=cutP_eq n
  have hcl:=cutP_le n
  generalize cutP n=N at *
  have HCE:=Lib.hid hce;clear hce
  have hbl:blen N≤11:=Lib.bitLen_le N 11 (by decide) (by omega)
  have hz:N / 2 ^ blen N=0:=by
    by_cases h0:N=0
    · subst h0;exact Nat.zero_div _
    · exact Nat.div_eq_of_lt (bitLen_bounds N N (Nat.le_refl _) (by omega) h0).2.2
  have HZ:=Lib.hid hz;clear hz
  have KL:=Lib.hid (fun w=>len_small N w (by omega))
  generalize blen N=t at *
  go_enter Tryz.func82,Tryz.ntmps82
  go_wp2_with fail
  rw [HCE.out]
  refine (KL.out _).mono ?_
  rintro e w' ⟨rfl,rfl⟩
  go_wp2_with fail
  go_loopw [5,6] (fun p i wr=>PowRel w.heap.size b N w p i wr) (fun _ i _=>(intOf i+1).toNat)
  case atStart =>
    refine ⟨t,by omega,rfl,?_,(Below.refl _ _).alloc (Nat.le_refl _) _⟩
    rw [HZ.out,Nat.pow_zero,limbs_one]
    refine ⟨Okl.cons (by decide) Okl.nil,.inr ⟨w.heap.size,1,[],rfl,Nat.le_refl _,?_,rfl,by unfold maxLen;omega⟩⟩
    exact heap_alloc_new w _
  case round =>
    obtain ⟨k,hk,rfl,hown,hbl2⟩:=hrel
    rcases k with _ | j
    · rw [show (((0:Nat):Int) - 1) = -1 from rfl]
      go_wp2
      go_ret
      exact ⟨_,rfl,by simpa using hown,hbl2⟩
    · rw [show (((j+1:Nat):Int) - 1)=(j:Int) by omega]
      obtain ⟨ad,cap,rfl,hle,hrd,_⟩:=hown.view
      have hE:N / 2 ^ (j+1)≤1300:=Nat.le_trans (Nat.div_le_self _ _) hcl
      have hlen:=limbs_length_le (pow_bound hb (N / 2 ^ (j+1)))
      have K2:=mul_any ad _ cap _ ad _ cap _ wr rfl hle (by omega) (limbs_ok _) hrd rfl hle (by omega) (limbs_ok _) hrd
      rw [val_limbs,← Nat.pow_add,← Nat.two_mul] at K2
      have K2H:=Lib.hid K2;clear K2 hrd hle
      go_wp2_with fail
      refine K2H.out.mono ?_
      rintro e w1 ⟨v1,rfl,hv1,hb1⟩
      have hst:=half_step N j
      have hbit:Hid (bits BinOp.and IntKind.i64 ((N:Int) / 2 ^ j) 1=((N / 2 ^ j % 2:Nat):Int)):=by
        unfold Hid;rw [shr_cast];exact and_one _ (Nat.le_trans (Nat.div_le_self _ _) hcl)
      have hm2:N / 2 ^ j % 2<2:=Nat.mod_lt _ (by decide)
      have hE0:N / 2 ^ j≤1300:=Nat.le_trans (Nat.div_le_self _ _) hcl
      generalize hbt:N / 2 ^ j % 2=bt at *
      generalize hM:N / 2 ^ j=M at *
      generalize hH:N / 2 ^ (j+1)=H at *
      have HM:=Lib.hid hM;clear hM hbt
      have HST:=Lib.hid hst;clear hst hH
      have hsz:w.heap.size≤wr.heap.size:=hbl2.size
      by_cases h1:bt=1
      · have hb1':(bits BinOp.and IntKind.i64 ((N:Int) / 2 ^ j) 1 == 1)=true:=by rw [hbit.out,h1];rfl
        have K4:=timesPlus_any w.heap.size v1 (limbs (b ^ (2*H))) b 0 w1 (hv1.mono hsz) (Nat.le_trans hsz hb1.size) (by have:=limbs_length_le (pow_bound hb (2*H));have:=HST.out;omega) hb (by decide)
        rw [val_limbs,Nat.add_zero,← Nat.pow_succ] at K4
        have K4H:=Lib.hid K4;clear K4
        go_wp2_with fail
        refine K4H.out.mono ?_
        rintro e w2 ⟨v2,rfl,hv2,hb2⟩
        have hfin:b ^ (2*H+1)=b ^ (N / 2 ^ j):=by rw [HM.out,HST.out,h1]
        have HF:=Lib.hid hfin;clear hfin
        go_wp2
        go_roundw
        case rel=>exact ⟨j,by omega,by go_num,by rw [← HF.out];exact hv2,hbl2.trans ((hb1.mono hsz).trans hb2)⟩
        case measure=>simp [intOf]
      · have h0:bt=0:=by omega
        have hb1':(bits BinOp.and IntKind.i64 ((N:Int) / 2 ^ j) 1 == 1)=false:=by rw [hbit.out,h0];rfl
        have hfin:b ^ (2*H)=b ^ (N / 2 ^ j):=by rw [HM.out,HST.out,h0,Nat.add_zero]
        have HF:=Lib.hid hfin;clear hfin
        go_wp2
        go_roundw
        case rel=>exact ⟨j,by omega,by go_num,by rw [← HF.out];exact hv1.mono hsz,hbl2.trans (hb1.mono hsz)⟩
        case measure=>simp [intOf]
def Okb (xs:List Nat):Prop:=∀ x∈xs,x<256
theorem Okb.nil:Okb []:=by intro x h;cases h
theorem Okb.take {xs:List Nat} (h:Okb xs) (n:Nat):Okb (xs.take n):=fun y hy=>h y (List.mem_of_mem_take hy)
theorem Okb.append {xs ys:List Nat} (h:Okb xs) (k:Okb ys):Okb (xs++ys):=by
  intro y hy;rcases List.mem_append.1 hy with hy | hy
  · exact h y hy
  · exact k y hy
theorem Okb.set {xs:List Nat} (h:Okb xs) (i v:Nat) (hv:v<256):Okb (xs.set i v):=by
  intro y hy;rcases List.mem_or_eq_of_mem_set hy with hy | hy
  · exact h y hy
  · exact hy ▸ hv
theorem Okb.getD {xs:List Nat} (h:Okb xs) (i:Nat):xs.getD i 0<256:=by
  by_cases hi:i<xs.length
  · simp only [List.getD,List.getElem?_eq_getElem hi,Option.getD_some];exact h _ (List.getElem_mem hi)
  · simp only [List.getD,List.getElem?_eq_none (Nat.le_of_not_lt hi),Option.getD_none];decide
def bv (n:Nat):Value:=.int .u8 (n:Int)
def Rdb (w:World) (ad:Option Addr) (xs:List Nat):Prop :=
  ∀ i,i<xs.length→∃ b o,ad=some ⟨b,o,none⟩∧b<w.heap.size∧w.cell? ⟨b,o+i,none⟩=some (.int .u8 ((xs.getD i 0:Nat):Int))
theorem Rdb.at {w:World} {b o:Nat} {xs:List Nat} (h:Rdb w (some ⟨b,o,none⟩) xs) (i:Nat) (hi:i<xs.length) :
    w.cell? ⟨b,o+i,none⟩=some (.int .u8 ((xs.getD i 0:Nat):Int)):=by
  obtain ⟨b',o',e,_,hc⟩:=h i hi
  cases e;exact hc
theorem Rdb.lt {w:World} {ad:Option Addr} {xs:List Nat} (h:Rdb w ad xs) (a:Addr) (e:ad=some a) (hx:0<xs.length):a.block<w.heap.size:=by
  obtain ⟨b,o,e',hb,_⟩:=h 0 hx
  rw [e] at e';cases e';exact hb
theorem Rdb.apart {w:World} {ad:Option Addr} {xs:List Nat} (h:Rdb w ad xs) {g:Nat} (hg:w.heap.size≤g) (a:Addr) (e:ad=some a) (hx:0<xs.length):a.block ≠ g:=by
  have:=h.lt a e hx;omega
theorem Rdb.nil (w:World) (ad:Option Addr):Rdb w ad []:=by intro i h;simp at h
theorem Rdb.take {w:World} {ad:Option Addr} {xs:List Nat} (h:Rdb w ad xs) (n:Nat):Rdb w ad (xs.take n):=by
  intro i hi
  rw [List.length_take] at hi
  obtain ⟨b,o,e,hb,hc⟩:=h i (by omega)
  exact ⟨b,o,e,hb,by rw [hc];simp [List.getD,show i<n by omega]⟩
theorem Rdb.below {w w':World} {ad:Option Addr} {xs:List Nat} (h:Rdb w ad xs) (hb:Below w.heap.size w w'):Rdb w' ad xs:=by
  intro i hi
  obtain ⟨b,o,e,hlt,hc⟩:=h i hi
  exact ⟨b,o,e,Nat.lt_of_lt_of_le hlt hb.size,by rw [hb.cell (p:=⟨b,o+i,none⟩) hlt];exact hc⟩
def Bkb (w:World) (g:Nat) (ys:List Nat) (r:List Value):Prop:=w.heap[g]? = some (.cells (ys.map bv++r).toArray 5 (0,0))
theorem Bkb.lt {w:World} {g:Nat} {ys:List Nat} {r:List Value} (h:Bkb w g ys r):g<w.heap.size:=by
  rcases Nat.lt_or_ge g w.heap.size with h1 | h1
  · exact h1
  · rw [Bkb,Array.getElem?_eq_none h1] at h;cases h
theorem Bkb.cell {w:World} {g:Nat} {ys:List Nat} {r:List Value} (h:Bkb w g ys r) (i:Nat) (hi:i<ys.length) :
    w.cell? ⟨g,i,none⟩=some (.int .u8 ((ys.getD i 0:Nat):Int)):=by
  unfold Bkb at h
  have e:(List.map bv ys++r)[i]? = some (bv (ys.getD i 0)):=by
    rw [List.getElem?_append_left (by simpa using hi)]
    simp [List.getD,hi]
  simp only [World.cell?,h]
  simpa [bv] using e
theorem Bkb.free {w:World} {g:Nat} {ys:List Nat} {r:List Value} (h:Bkb w g ys r) (i:Nat):w.frozen? ⟨g,i,none⟩=false:=by
  unfold Bkb at h
  simp [World.frozen?,h]
theorem Bkb.rd {w:World} {g:Nat} {ys:List Nat} {r:List Value} (h:Bkb w g ys r) (o n:Nat) (hn:o+n≤ys.length):Rdb w (some ⟨g,o,none⟩) ((ys.drop o).take n):=by
  intro i hi
  rw [List.length_take,List.length_drop] at hi
  refine ⟨g,o,rfl,h.lt,?_⟩
  rw [h.cell (o+i) (by omega)]
  simp [List.getD,show i<n by omega]
theorem Bkb.rd_all {w:World} {g:Nat} {ys:List Nat} {r:List Value} (h:Bkb w g ys r):Rdb w (some ⟨g,0,none⟩) ys:=by
  have:=h.rd 0 ys.length (by omega)
  simpa using this
theorem Rdb.drewN {w:World} {ad:Option Addr} {xs:List Nat} (h:Rdb w ad xs) (q:Nat):Rdb (w.drewN q) ad xs:=h
theorem Bkb.drewN {w:World} {g:Nat} {ys:List Nat} {r:List Value} (h:Bkb w g ys r) (q:Nat):Bkb (w.drewN q) g ys r:=h
theorem Bkb.below {w w':World} {g:Nat} {ys:List Nat} {r:List Value} (h:Bkb w g ys r) {B:Nat} (hb:Below B w w') (hg:g<B):Bkb w' g ys r:=by
  unfold Bkb;rw [hb.block g hg];exact h
def Ownb (B:Nat) (w:World) (v:Value) (xs:List Nat):Prop :=
  Okb xs∧((v=.slice none 0 0∧xs=[])∨∃ g cap r,v=.slice (some ⟨g,0,none⟩) xs.length cap∧B≤g∧Bkb w g xs r∧cap=xs.length+r.length∧cap≤maxLen)
theorem Ownb.nil (B:Nat) (w:World):Ownb B w (.slice none 0 0) []:=⟨Okb.nil,.inl ⟨rfl,rfl⟩⟩
theorem Ownb.view {B:Nat} {w:World} {v:Value} {xs:List Nat} (h:Ownb B w v xs) :
    ∃ ad cap,v=.slice ad xs.length cap∧xs.length≤cap∧Rdb w ad xs∧∀ a,ad=some a→B≤a.block∧a.block<w.heap.size:=by
  obtain ⟨_,⟨rfl,rfl⟩ | ⟨g,cap,r,rfl,hg,hb,hc,_⟩⟩:=h
  · exact ⟨none,0,rfl,Nat.le_refl _,Rdb.nil _ _,fun a h=>by cases h⟩
  · exact ⟨_,cap,rfl,by omega,hb.rd_all,fun a h=>by cases h;exact ⟨hg,hb.lt⟩⟩
theorem Ownb.mono {B B':Nat} {w:World} {v:Value} {xs:List Nat} (h:Ownb B w v xs) (hB:B'≤B):Ownb B' w v xs:=by
  obtain ⟨ho,h | ⟨g,cap,r,e,hg,hb,hc⟩⟩:=h
  · exact ⟨ho,.inl h⟩
  · exact ⟨ho,.inr ⟨g,cap,r,e,by omega,hb,hc⟩⟩
theorem Ownb.below {B:Nat} {w w':World} {v:Value} {xs:List Nat} (h:Ownb B w v xs) (hb:Below w.heap.size w w'):Ownb B w' v xs:=by
  obtain ⟨ho,h | ⟨g,cap,r,e,hg,hk,hc⟩⟩:=h
  · exact ⟨ho,.inl h⟩
  · exact ⟨ho,.inr ⟨g,cap,r,e,hg,hk.below hb hk.lt,hc⟩⟩
theorem Ownb.drewN {B:Nat} {w:World} {v:Value} {xs:List Nat} (h:Ownb B w v xs) (q:Nat):Ownb B (w.drewN q) v xs:=h
theorem Bkb.own {w:World} {g B:Nat} {ys:List Nat} {r:List Value} (h:Bkb w g ys r) (hg:B≤g) (ho:Okb ys) (n cap:Nat) (hn:n≤ys.length) (hc:cap=ys.length+r.length) (hm:cap≤maxLen) :
    Ownb B w (.slice (some ⟨g,0,none⟩) n cap) (ys.take n):=by
  refine ⟨ho.take n,.inr ⟨g,cap,(ys.drop n).map bv++r,?_,hg,?_,?_,hm⟩⟩
  · rw [List.length_take,Nat.min_eq_left hn]
  · unfold Bkb at h ⊢;rw [h,← List.append_assoc,← List.map_append,List.take_append_drop]
  · simp;omega
theorem info_u8:(Tryz.prog.info? 5).map (fun i=>(i.zero,i.size,i.bytes))=some (some (.int .u8 0),1,1):=by kernel_rfl
theorem Ownb.row {B:Nat} {w:World} {v:Value} {xs:List Nat} (h:Ownb B w v xs):w.ownsRow B 5 1 v xs.length (xs.map bv):=by
  obtain ⟨_,⟨rfl,rfl⟩ | ⟨g,cap,r,rfl,hg,hb,hc,hm⟩⟩:=h
  · exact ⟨by simp,.inl ⟨rfl,rfl⟩⟩
  · refine ⟨by simp,.inr ⟨g,cap,_,rfl,hg,hb,by omega,hm,by simp;omega,?_⟩⟩
    simp
theorem Ownb.blockGe {B:Nat} {w:World} {v:Value} {xs:List Nat} (h:Ownb B w v xs):∀ k,v.ownBlock=some k→B≤k:=by
  obtain ⟨_,⟨rfl,rfl⟩ | ⟨g,cap,r,rfl,hg,_⟩⟩:=h
  · intro k e;cases e
  · intro k e;cases e;exact hg
def dval:List Nat→Nat
  | []=>0
  | x::xs=>(x - 48)+10*dval xs
def Okd (xs:List Nat):Prop:=∀ x∈xs,48≤x∧x≤57
theorem Okd.nil:Okd []:=by intro x h;cases h
theorem Okd.b {xs:List Nat} (h:Okd xs):Okb xs:=fun x hx=>by have:=h x hx;omega
theorem Okd.take {xs:List Nat} (h:Okd xs) (n:Nat):Okd (xs.take n):=fun y hy=>h y (List.mem_of_mem_take hy)
theorem Okd.tail {x:Nat} {xs:List Nat} (h:Okd (x::xs)):Okd xs:=fun y hy=>h y (by simp [hy])
def Half (xs ys:List Nat) (k:Nat):Prop:=ys.length=xs.length∧∀ t,t<xs.length→ys.getD t 0=if t<k∨xs.length - k≤t then xs.getD (xs.length - 1 - t) 0 else xs.getD t 0
theorem Half.zero (xs:List Nat):Half xs xs 0:=⟨rfl,fun t ht=>by rw [if_neg (by omega)]⟩
theorem getD_set (l:List Nat) (i t v:Nat) (h:i<l.length):(l.set i v).getD t 0=if i=t then v else l.getD t 0:=by
  by_cases hit:i=t
  · subst hit;simp [List.getD,h]
  · simp [List.getD,hit]
theorem Half.step {xs ys:List Nat} {k:Nat} (h:Half xs ys k) (hk:k<xs.length - 1 - k) :
    Half xs ((ys.set k (ys.getD (xs.length - 1 - k) 0)).set (xs.length - 1 - k) (ys.getD k 0)) (k+1):=by
  obtain ⟨hl,h2⟩:=h
  have hk1:ys.getD k 0=xs.getD k 0:=by rw [h2 k (by omega),if_neg (by omega)]
  have hk2:ys.getD (xs.length - 1 - k) 0=xs.getD (xs.length - 1 - k) 0:=by rw [h2 _ (by omega),if_neg (by omega)]
  refine ⟨by simp [hl],fun t ht=>?_⟩
  rw [getD_set _ _ _ _ (by rw [List.length_set];omega),getD_set _ _ _ _ (by omega),hk1,hk2]
  by_cases h3:xs.length - 1 - k=t
  · subst h3
    rw [if_pos rfl,if_pos (by omega),show xs.length - 1 - (xs.length - 1 - k)=k by omega]
  · rw [if_neg h3]
    by_cases h4:k=t
    · subst h4;rw [if_pos rfl,if_pos (by omega)]
    · rw [if_neg h4,h2 t ht]
      by_cases h5:t<k∨xs.length - k≤t
      · rw [if_pos h5,if_pos (by omega)]
      · rw [if_neg h5,if_neg (by omega)]
theorem Half.done {xs ys:List Nat} {k:Nat} (h:Half xs ys k) (hk:xs.length≤2*k+1):ys=xs.reverse:=by
  obtain ⟨hl,h2⟩:=h
  apply List.ext_getElem (by simp [hl])
  intro i h1 h3
  have h4:=h2 i (by omega)
  have h5:ys[i]=ys.getD i 0:=by simp [List.getD,h1]
  rw [h5,h4,List.getElem_reverse]
  by_cases h6:i<k∨xs.length - k≤i
  · rw [if_pos h6];simp [List.getD,show xs.length - 1 - i<xs.length by omega]
  · rw [if_neg h6]
    have h7:xs.length - 1 - i=i:=by omega
    simp only [h7]
    simp [List.getD,show i<xs.length by omega]
def nums (s:ByteArray):List Nat:=s.data.toList.map UInt8.toNat
def hval (l:List Nat):Nat:=dval l.reverse
end Go.Proofs.YtnacbakcalcgaaaGreatDoor
namespace Go.Proofs.YtnacbakcalcgaaaGreatDoor
open Go.RowKit
open Go.RowKit
theorem ten_unique {m m' k k':Nat} (h:m*tenN k=m'*tenN k') (hm:m % 10 ≠ 0) (hm':m' % 10 ≠ 0):m=m'∧k=k':=by
  have key:∀ {a b x y:Nat},a*tenN x=b*tenN y→a % 10 ≠ 0→x<y→False:=by
    intro a b x y h1 h2 h3
    obtain ⟨d,rfl⟩:∃ d,y=x+(d+1):=⟨y - x - 1,by omega⟩
    rw [tenN_add,tenN_succ] at h1
    have h4:a=b*tenN d*10:=by
      have h5:a*tenN x=(b*tenN d*10)*tenN x:=by rw [h1];grind
      exact Nat.eq_of_mul_eq_mul_right (tenN_pos x) h5
    rw [h4] at h2
    exact h2 (Nat.mul_mod_left _ _)
  rcases Nat.lt_trichotomy k k' with h1 | h1 | h1
  · exact (key h hm h1).elim
  · subst h1;exact ⟨Nat.eq_of_mul_eq_mul_right (tenN_pos k) h,rfl⟩
  · exact (key h.symm hm' h1).elim
theorem alloc_blk (w:World) (xs:List Nat):Blk (w.alloc (.cells (xs.map lv).toArray 51)) w.heap.size xs []:=by
  unfold Blk;rw [List.append_nil];exact heap_alloc_new w _
theorem retb {a b:Bool} (h:a=b):Ending.returned (.bool a)=.returned (.bool b):=by rw [h]
theorem bitsN_z:bitsN 0=0:=bitsN_zero limbs_zero
theorem below_on {w w1 w2:World} (h:Below w.heap.size w w1) (h2:Below w1.heap.size w1 w2):Below w.heap.size w w2:=h.trans (h2.mono h.size)
structure Ent where
  v:Value
  len:Nat
  nat:Nat
  xs:List Nat
def ListOk (w:World) (v:Value) (L N:Nat) (xs:List Nat):Prop:=∃ ad cap,v=.slice ad xs.length cap∧xs.length≤cap∧xs.length≤L∧Okl xs∧Rd w ad xs∧val xs=N
def Ent.Ok (w:World) (x:Ent):Prop:=ListOk w x.v x.len x.nat x.xs
structure Ctx (w0 w:World) (l:List Ent):Prop where
  below:Below w0.heap.size w0 w
  all:∀ x∈l,x.Ok w
theorem Ctx.step {w0 w w':World} {l:List Ent} (h:Ctx w0 w l) (hb:Below w.heap.size w w'):Ctx w0 w' l :=
  ⟨below_on h.below hb,fun x hx=>by
    obtain ⟨ad,cap,h1,h2,h3,h4,h5,h6⟩:=h.all x hx
    exact ⟨ad,cap,h1,h2,h3,h4,h5.below hb,h6⟩⟩
theorem Ctx.drewN {w0 w:World} {l:List Ent} (h:Ctx w0 w l) (q:Nat):Ctx w0 (w.drewN q) l:=h.step (below_drewN' (Below.refl _ _) q)
theorem Ctx.push {w0 w:World} {l:List Ent} (h:Ctx w0 w l) {x:Ent} (hx:x.Ok w):Ctx w0 w (x::l) :=
  ⟨h.below,fun y hy=>by rcases List.mem_cons.1 hy with rfl | h1 <;> first | exact hx | exact h.all y h1⟩
theorem Ctx.get {w0 w:World} {l:List Ent} (h:Ctx w0 w l) (i:Nat) {v:Value} {L N:Nat} {xs:List Nat} (hi:l[i]? = some ⟨v,L,N,xs⟩):ListOk w v L N xs:=h.all _ (List.mem_of_getElem? hi)
theorem Ctx.begin (w:World):Ctx w w []:=⟨Below.refl _ _,fun x hx=>by cases hx⟩
theorem ent_own {B:Nat} {w:World} {v:Value} {N L:Nat} (h:Own B w v (limbs N)) (hL:(limbs N).length≤L):Ent.Ok w ⟨v,L,N,limbs N⟩:=by
  obtain ⟨ad,cap,rfl,h1,h2,_⟩:=h.view
  exact ⟨ad,cap,rfl,h1,hL,limbs_ok _,h2,val_limbs _⟩
theorem ent_lit (w:World) {x:Nat} (hx:x<B32):Ent.Ok (w.alloc (.cells #[.int .u32 (x:Int)] 51)) ⟨.slice (some ⟨w.heap.size,0,none⟩) 1 1,1,x,[x]⟩ :=
  ⟨_,1,rfl,Nat.le_refl _,Nat.le_refl _,Okl.cons hx Okl.nil,(alloc_blk w [x]).rd_all,by simp [val]⟩
theorem Ctx.lit {w0 w:World} {l:List Ent} (h:Ctx w0 w l) {x:Nat} (hx:x<B32) :
    Ctx w0 (w.alloc (.cells #[.int .u32 (x:Int)] 51)) (⟨.slice (some ⟨w.heap.size,0,none⟩) 1 1,1,x,[x]⟩::l) :=
  (h.step ((Below.refl _ _).alloc (Nat.le_refl _) _)).push (ent_lit w hx)
theorem len_prod {xs ys:List Nat} (hx:Okl xs) (hy:Okl ys) {L M:Nat} (h1:xs.length≤L) (h2:ys.length≤M):(limbs (val xs*val ys)).length≤L+M:=by
  apply limbs_length_le
  have a1:=Nat.lt_of_lt_of_le (val_lt hx) (Nat.pow_le_pow_right (by decide) h1)
  have a2:=Nat.lt_of_lt_of_le (val_lt hy) (Nat.pow_le_pow_right (by decide) h2)
  rw [Nat.pow_add]
  exact Nat.mul_lt_mul'' a1 a2
theorem len_leq {xs:List Nat} (hx:Okl xs) {N L:Nat} (h:N≤val xs) (h1:xs.length≤L):(limbs N).length≤L :=
  Nat.le_trans (limbs_len_mono h) (Nat.le_trans (limbs_len_le hx) h1)
section
variable {w0 w : World} {l : List Ent} {v1 v2 : Value} {L1 L2 N1 N2 : Nat} {xs ys : List Nat}
theorem sub_c (h:Ctx w0 w l) (i j:Nat) (hi:l[i]? = some ⟨v1,L1,N1,xs⟩) (hj:l[j]? = some ⟨v2,L2,N2,ys⟩) (h1:L1≤100000000) (h2:L2≤100000000) :
    Calls Tryz.prog 84 #[v1,v2] w fun e w'=>∃ v,e=.returned v∧Ctx w0 w' (⟨v,L1,N1 - N2,limbs (N1 - N2)⟩::l):=by
  obtain ⟨ad,cap,rfl,a2,a3,a4,a5,rfl⟩:=h.get i hi
  obtain ⟨ad',cap',rfl,b2,b3,b4,b5,rfl⟩:=h.get j hj
  refine (sub_any ad _ cap xs ad' _ cap' ys w rfl a2 (Nat.le_trans a3 h1) a4 a5 rfl b2 (Nat.le_trans b3 h2) b4 b5).mono ?_
  rintro e w' ⟨v,rfl,ho,hb⟩
  exact ⟨v,rfl,(h.step hb).push (ent_own ho (len_leq a4 (Nat.sub_le _ _) a3))⟩
theorem mul_c (h:Ctx w0 w l) (i j:Nat) (hi:l[i]? = some ⟨v1,L1,N1,xs⟩) (hj:l[j]? = some ⟨v2,L2,N2,ys⟩) (h1:L1≤100000000) (h2:L2≤100000000) :
    Calls Tryz.prog 81 #[v1,v2] w fun e w'=>∃ v,e=.returned v∧Ctx w0 w' (⟨v,L1+L2,N1*N2,limbs (N1*N2)⟩::l):=by
  obtain ⟨ad,cap,rfl,a2,a3,a4,a5,rfl⟩:=h.get i hi
  obtain ⟨ad',cap',rfl,b2,b3,b4,b5,rfl⟩:=h.get j hj
  refine (mul_any ad _ cap xs ad' _ cap' ys w rfl a2 (Nat.le_trans a3 h1) a4 a5 rfl b2 (Nat.le_trans b3 h2) b4 b5).mono ?_
  rintro e w' ⟨v,rfl,ho,hb⟩
  exact ⟨v,rfl,(h.step hb).push (ent_own ho (len_prod a4 b4 a3 b3))⟩
theorem rmN_le (a b:Nat):rmN a b≤a:=by unfold rmN;split <;> first | exact Nat.zero_le _ | exact Nat.mod_le _ _
theorem div_c (h:Ctx w0 w l) (i j:Nat) (hi:l[i]? = some ⟨v1,L1,N1,xs⟩) (hj:l[j]? = some ⟨v2,L2,N2,ys⟩) (h1:L1≤10000000) (h2:L2≤10000000) :
    Calls Tryz.prog 198 #[v1,v2] w fun e w'=>∃ v v',e=.returned (.tuple #[v,v'])∧Ctx w0 w' (⟨v,L1,N1 / N2,limbs (N1 / N2)⟩ :: ⟨v',L1,rmN N1 N2,limbs (rmN N1 N2)⟩::l):=by
  obtain ⟨ad,cap,rfl,a2,a3,a4,a5,rfl⟩:=h.get i hi
  obtain ⟨ad',cap',rfl,b2,b3,b4,b5,rfl⟩:=h.get j hj
  refine (div_any ad _ cap xs ad' _ cap' ys w rfl a2 (Nat.le_trans a3 h1) a4 a5 rfl b2 (Nat.le_trans b3 h2) b4 b5).mono ?_
  rintro e w' ⟨v,v',rfl,ho,ho',hb⟩
  exact ⟨v,v',rfl,((h.step hb).push (ent_own ho' (len_leq a4 (rmN_le _ _) a3))).push (ent_own ho (len_leq a4 (Nat.div_le_self _ _) a3))⟩
theorem bits_c (h:Ctx w0 w l) (i:Nat) (hi:l[i]? = some ⟨v1,L1,N1,xs⟩) (h1:L1≤100000000) :
    Calls Tryz.prog 83 #[v1] w fun e w'=>e=.returned (.int .i64 (bitsN N1:Int))∧w'=w:=by
  obtain ⟨ad,cap,rfl,a2,a3,a4,a5,rfl⟩:=h.get i hi
  refine (bits_any ad _ cap xs w rfl a2 (by omega) a4 a5).mono ?_
  rintro e w' ⟨rfl,rfl⟩
  exact ⟨rfl,rfl⟩
theorem trim_c (h:Ctx w0 w l) (i:Nat) (hi:l[i]? = some ⟨v1,L1,N1,xs⟩) (h1:L1≤10000000) :
    Calls Tryz.prog 195 #[v1] w fun e w'=>∃ v m k,e=.returned (.tuple #[v,.int .i64 ((k:Nat):Int)])∧N1=m*tenN k∧(N1=0→k=0)∧(N1 ≠ 0→m % 10 ≠ 0)∧k≤400000000∧Ctx w0 w' (⟨v,L1,m,limbs m⟩::l):=by
  obtain ⟨ad,cap,rfl,a2,a3,a4,a5,rfl⟩:=h.get i hi
  refine (trim_any ad _ cap xs w rfl a2 (by omega) a4 a5).mono ?_
  rintro e w' ⟨v,m,k,rfl,ho,hb,q1,q2,q3,q4⟩
  refine ⟨v,m,k,rfl,q1,q2,q3,q4,(h.step hb).push (ent_own ho (len_leq a4 ?_ a3))⟩
  rw [q1]
  exact Nat.le_mul_of_pos_right _ (Nat.pow_pos (by decide))
theorem pow_c (h:Ctx w0 w l) {b:Nat} (hb:b<B32) (n:Int) (k:Nat) (hk:cutP n=k) :
    Calls Tryz.prog 82 #[.int .u32 (b:Int),.int .i64 n] w fun e w'=>∃ v,e=.returned v∧Ctx w0 w' (⟨v,k+1,b ^ k,limbs (b ^ k)⟩::l):=by
  refine (pow_any b n w hb).mono ?_
  rw [hk]
  rintro e w' ⟨v,rfl,ho,hb'⟩
  exact ⟨v,rfl,(h.step hb').push (ent_own ho (limbs_length_le (pow_bound hb k)))⟩
end
end Go.Proofs.YtnacbakcalcgaaaGreatDoor
namespace Go.Proofs.YtnacbakcalcgaaaGreatDoor
open Go.RowKit
open Go.RowKit
open Go.RowKit
theorem run_append_none {P:Program} {w:World} (base:Nat) (t ty e:TypeId) (i:TypeInfo) (size:Nat) (ht:P.underlying t=some (.slice e)) (hi:P.info? e=some i)
    (v:Value) (n c:Nat) (xs:List Value) (hown:w.ownsRow base e size v n xs) :
    (Builtin.append_ #[t,t] ty #[v,.slice none 0 c]).run P w=.ok v w:=by
  rcases hown.2 with ⟨rfl,rfl⟩ | ⟨g,cap,cur,rfl,_,_,hnc,_⟩
  · simp [Builtin.append_,run_underlying ht,sizeOf,typeInfo,hi,Builtin.lenOf,Builtin.firstCells]
  · simp [Builtin.append_,run_underlying ht,sizeOf,typeInfo,hi,Builtin.lenOf,Builtin.firstCells,hnc,storeCells]
theorem wpl_append_none {P:Program} {w:World} {ops:Array Oper} {rest:List Oper} {o:Oper} {a:Act} {Q:Exit→Act→World→Prop} (hgd:o.guard=none) (s x:Operand) (t:TypeId)
    (ho:o.op=.call { callee:=.builtin .append,args:=#[s,x],argTypes:=#[t,t] })
    (base:Nat) (e:TypeId) (i:TypeInfo) (size:Nat) (ht:P.underlying t=some (.slice e)) (hi:P.info? e=some i)
    (v:Value) (n c:Nat) (xs:List Value) (hs:a.eval s=v) (hown:w.ownsRow base e size v n xs) (hx:a.eval x=.slice none 0 c)
    (h:wpList P ops Q rest (a.put o.dst v) w):wpList P ops Q (o::rest) a w:=by
  refine wpList_plain hgd fun K hK=>?_
  have hrun:=run_append_none (P:=P) (w:=w) base t o.type e i size ht hi v n c xs hown
  unfold Oper.wp
  simp [execOp,ho,resolve,invoke,builtin,hs,hx,hrun,Result.andThen]
  exact hK _ _ h
theorem wpl_append_rd {w:World} {ops:Array Oper} {rest:List Oper} {o:Oper} {a:Act} {Q:Exit→Act→World→Prop} (hgd:o.guard=none) (s x:Operand)
    (ho:o.op=.call { callee:=.builtin .append,args:=#[s,x],argTypes:=#[23,23] }) (B:Nat) (v:Value) (xs:List Nat) (hs:a.eval s=v) (hown:Own B w v xs)
    (ad:Option Addr) (m c:Nat) (ys:List Nat) (hx:a.eval x=.slice ad m c) (hy:Okl ys) (hyl:ys.length=m) (hr:Rd w ad ys) (hl:xs.length+m≤1000000000) (hB:B≤w.heap.size)
    (h:∀ v' w',Own B w' v' (xs++ys)→Below B w w'→wpList Tryz.prog ops Q rest (a.put o.dst v') w'):wpList Tryz.prog ops Q (o::rest) a w:=by
  obtain ⟨i0,hi,hz0,hz1,hz2⟩:=info_parts info_u32
  cases ad with
  | none =>
    have hm:m=0:=by
      rcases Nat.eq_zero_or_pos m with h0 | h0
      · exact h0
      · obtain ⟨b,o',e,_⟩:=hr 0 (by omega)
        cases e
    subst hm
    obtain rfl:ys=[]:=List.eq_nil_of_length_eq_zero hyl
    refine wpl_append_none hgd s x 23 ho B 51 i0 1 Tryz.underlying23 hi v xs.length c (xs.map lv) hs hown.row hx ?_
    exact h v w (by rw [List.append_nil];exact hown) (Below.refl _ _)
  | some ad =>
    refine wpList_append_own w hgd s x 23 ho B 51 i0 (.int .u32 0) 1 4 Tryz.underlying23 hi hz0 hz1 hz2 rfl (by decide) v xs.length (xs.map lv) hs hown.row ad m c (ys.map lv) hx (by simp [hyl]) ?_ ?_ (by unfold maxLen;omega) (by omega) hB ?_
    · intro j u hj
      have hjl:j<ys.length:=by
        rcases Nat.lt_or_ge j ys.length with h1 | h1
        · exact h1
        · rw [List.getElem?_eq_none (by simpa using h1)] at hj;cases hj
      obtain ⟨b,o',e,hlt,hc⟩:=hr j hjl
      cases e
      have e2:(Addr.add ⟨b,o',none⟩ j)=⟨b,o'+j,none⟩:=by unfold Addr.add;split <;> simp_all
      rw [e2,hc]
      rw [List.getElem?_map,List.getElem?_eq_getElem hjl] at hj
      simp only [Option.map_some,Option.some.injEq] at hj
      rw [← hj];simp [lv,List.getD,hjl]
    · intro u hu
      obtain ⟨y,_,rfl⟩:=List.mem_map.1 hu
      rfl
    · intro v' w' hown' hgr _
      refine h v' w' ?_ ((Below.refl _ _).grown hgr hB hown.blockGe)
      have e:xs.map lv++ys.map lv=(xs++ys).map lv:=by simp
      rw [e] at hown'
      have hl2:xs.length+m=(xs++ys).length:=by simp [hyl]
      exact own_of_row hown' (hown.1.append hy)
def SameRel (n:Nat) (w:World) (i:Value) (wr:World):Prop:=∃ (k q:Nat),k≤n∧i=.int .i64 (k:Int)∧wr=w.drewN q
theorem same_any (ad:Option Addr) (n cap:Nat) (xs:List Nat) (ad':Option Addr) (cap':Nat) (w:World) (hn:xs.length=n) (hcap:n≤cap) (hcap':n≤cap') (hm:n≤1000000000) (hr:Rd w ad xs) (hr':Rd w ad' xs) :
    Calls Tryz.prog 63 #[.slice ad n cap,.slice ad' n cap'] w fun e w'=>e=.returned (.bool true)∧∃ q,w'=w.drewN q:=by
  have HN:=Lib.hid hn;clear hn
  go_enter Tryz.func63,Tryz.ntmps63
  go_wp2_with fail
  go_loopw [5] (fun i wr=>SameRel n w i wr) (fun i _=>n - (intOf i).toNat)
  case atStart=>exact ⟨0,0,Nat.zero_le _,rfl,rfl⟩
  case round =>
    obtain ⟨k,q,hk,rfl,rfl⟩:=hrel
    by_cases hkn:k<n
    · obtain ⟨g1,o1,rfl,_,hc1⟩:=hr k (by rw [HN.out];exact hkn)
      obtain ⟨g2,o2,rfl,_,hc2⟩:=hr' k (by rw [HN.out];exact hkn)
      generalize xs.getD k 0=x at *
      have hkn':(k:Int)<(n:Int):=by omega
      go_wp2
      go_quiet (fail)
      go_wp2
      go_roundw
      case rel=>exact ⟨k+1,_,hkn,by go_num,rfl⟩
      case measure=>simp [intOf];omega
    · have hkn':¬ ((k:Int)<(n:Int)):=by omega
      go_wp2
      go_ret
      exact ⟨rfl,q,rfl⟩
theorem val_zeros (k:Nat):val (List.replicate k 0)=0:=by
  induction k with
  | zero=>rfl
  | succ k ih=>rw [List.replicate_succ];simp [val,ih]
theorem val_behind (xs:List Nat) (k:Nat):val (xs++List.replicate k 0)=val xs:=by rw [val_append,val_zeros];simp
section
variable {w0 w : World} {l : List Ent} {v1 v2 : Value} {L1 L2 N1 N2 : Nat} {xs ys : List Nat}
end
theorem bitsN_bounds {N:Nat} (h:N ≠ 0):∃ t,bitsN N=t+1∧2 ^ t≤N∧N<2 ^ (t+1):=by
  have hl:(limbs N).length ≠ 0:=fun h0=>h ((limbs_nil_iff N).1 (List.eq_nil_of_length_eq_zero h0))
  obtain ⟨t,ht⟩:∃ t,(limbs N).length=t+1:=⟨(limbs N).length - 1,by omega⟩
  have hx:=(limbs_ok N).getD t
  rw [bitsN_top ht]
  have h1:=limbs_top ht
  have hv:=val_limbs N
  have hs:val (limbs N)=val ((limbs N).take t)+B32 ^ t*(limbs N).getD t 0:=by
    have:=val_take_succ (limbs N) t (by omega)
    rw [← ht,List.take_length] at this
    exact this
  have hlow:=val_lt ((limbs_ok N).take t)
  rw [List.length_take,Nat.min_eq_left (by omega)] at hlow
  rw [hv] at hs
  generalize (limbs N).getD t 0=d at *
  generalize val ((limbs N).take t)=lo at *
  rw [B32_eq] at hx
  have hb:=bitLen_bounds d d (Nat.le_refl _) (by omega) h1
  have e1:B32 ^ t=2 ^ (32*t):=by rw [Nat.pow_mul];rfl
  rw [e1] at hlow hs
  unfold blen
  generalize Lib.bitLen d=c at *
  obtain ⟨c',rfl⟩:∃ c',c=c'+1:=⟨c - 1,by omega⟩
  rw [Nat.add_sub_cancel] at hb
  refine ⟨32*t+c',by omega,?_,?_⟩
  · rw [Nat.pow_add,hs]
    have:=Nat.mul_le_mul_left (2 ^ (32*t)) hb.2.1
    exact Nat.le_trans this (Nat.le_add_left _ _)
  · rw [show 32*t+c'+1=32*t+(c'+1) by omega,Nat.pow_add,hs]
    have:=Nat.mul_le_mul_left (2 ^ (32*t)) (show d+1≤2 ^ (c'+1) from hb.2.2)
    rw [Nat.mul_add,Nat.mul_one] at this
    exact Nat.lt_of_lt_of_le (Nat.add_lt_add_right hlow _) (by rw [Nat.add_comm];exact this)
theorem Okd.append {l m:List Nat} (h:Okd l) (k:Okd m):Okd (l++m):=by
  intro y hy;rcases List.mem_append.1 hy with hy | hy
  · exact h y hy
  · exact k y hy
theorem tenN_ne (n:Nat):tenN n ≠ 0:=Nat.pos_iff_ne_zero.1 (Nat.pow_pos (by decide))
end Go.Proofs.YtnacbakcalcgaaaGreatDoor
