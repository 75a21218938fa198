/- Texts of the claim. -/
import Derived.Test.YtijaphbccnadbaaGreatDoorUb
import Derived.Deep.LoopGhost
set_option linter.unusedVariables false
set_option linter.unusedSimpArgs false
set_option maxHeartbeats 4000000
set_option maxRecDepth 100000
namespace Go.Proofs.YtijaphbccnadbaaGreatDoor
open Go.RowKit
open Go.RowKit
open Go.RowKit
open Go.RowKit
def gs (h l d:Nat):Nat:=min (wd h l / d) 4294967295
end Go.Proofs.YtijaphbccnadbaaGreatDoor
namespace Go.Proofs.YtijaphbccnadbaaGreatDoor
open Go.RowKit

end Go.Proofs.YtijaphbccnadbaaGreatDoor
namespace Go.Proofs.YtijaphbccnadbaaGreatDoor
open Go.RowKit
open Go.RowKit
open Go.RowKit
theorem limbs_top {N t:Nat} (h:(limbs N).length=t+1):(limbs N).getD t 0 ≠ 0:=by
  have hc:=limbs_cutLen N
  rw [h] at hc
  exact cut_top _ _ _ hc
theorem limbs_len_mono {a b:Nat} (h:b≤a):(limbs b).length≤(limbs a).length:=by
  rcases Nat.lt_or_ge (limbs a).length (limbs b).length with h1 | h1
  · have:=limbs_len_lt h1;omega
  · exact h1
def tenN (n:Nat):Nat:=10 ^ n
theorem tenN_zero:tenN 0=1:=rfl
theorem tenN_succ (n:Nat):tenN (n+1)=tenN n*10:=Nat.pow_succ _ _
theorem tenN_pos (n:Nat):0<tenN n:=Nat.pow_pos (by decide)
theorem tenN_le {n m:Nat} (h:n≤m):tenN n≤tenN m:=Nat.pow_le_pow_right (by decide) h
theorem tenN_9:tenN 9=1000000000:=by decide
theorem tenN_add (a b:Nat):tenN (a+b)=tenN a*tenN b:=Nat.pow_add _ _ _
theorem tens_any (n:Nat) (w:World) (hn:n≤9) :
    Calls Tryz.prog 190 #[.int .i64 (n:Int)] w fun e w'=>e=.returned (.int .u32 ((tenN n:Nat):Int))∧w=w':=by
  go_enter Tryz.func190,Tryz.ntmps190
  go_wp2
  go_loop [3,5] (fun p i=>∃ (k:Nat),k≤n∧i=.int .i64 k∧p=.int .u32 (tenN k)) (fun _ i=>n - (intOf i).toNat)
  case atStart=>exact ⟨0,by omega,rfl,rfl⟩
  case round =>
    obtain ⟨k,hk,rfl,rfl⟩:=hrel
    by_cases hlt:k<n
    · have hb:tenN k*10≤1000000000:=by rw [← tenN_succ,← tenN_9];exact tenN_le (by omega)
      have HX:=Lib.hid (tenN_succ k)
      go_wp2
      go_round
      case rel=>exact ⟨k+1,by omega,by go_num,by rw [HX.out];go_num⟩
      case measure=>simp [intOf];omega
    · obtain rfl:k=n:=by omega
      go_wp2
      go_ret
      exact ⟨rfl,rfl⟩
def ZerosPost (v:Nat) (w:World) (e:Ending) (w':World):Prop :=
  ∃ z m,e=.returned (.int .i64 ((z:Nat):Int))∧v=m*tenN z∧m % 10 ≠ 0∧z≤8∧w=w'
theorem zeros_any (v:Nat) (w:World) (h0:v ≠ 0) (hv:v<1000000000) :
    Calls Tryz.prog 208 #[.int .u32 (v:Int)] w (ZerosPost v w):=by
  go_enter Tryz.func208,Tryz.ntmps208
  go_wp2
  go_loop [0,3] (fun p i=>∃ (k x:Nat),i=.int .i64 k∧p=.int .u32 x∧v=x*tenN k∧x ≠ 0∧x≤v∧k≤8) (fun p _=>(intOf p).toNat)
  case atStart=>exact ⟨0,v,rfl,rfl,by rw [tenN_zero,Nat.mul_one],h0,Nat.le_refl _,by omega⟩
  case round =>
    obtain ⟨k,x,rfl,rfl,hx,hx0,hxv,hk8⟩:=hrel
    have HX:=Lib.hid hx;clear hx
    by_cases hm:x % 10=0
    · have hmb:(((x:Int) % 10) == 0)=true:=by rw [beq_iff_eq];omega
      have hx':v=x / 10*tenN (k+1):=by
        have e:=Nat.div_add_mod x 10
        rw [hm,Nat.add_zero] at e
        rw [HX.out]
        conv=>lhs;rw [← e]
        rw [tenN_succ,Nat.mul_comm (tenN k),← Nat.mul_assoc,Nat.mul_comm (x / 10) 10]
      have hk9:k+1≤8:=by
        rcases Nat.lt_or_ge k 8 with h1 | h1
        · exact h1
        · exfalso
          have h2:tenN 9≤tenN (k+1):=tenN_le (by omega)
          have h3:1*tenN (k+1)≤x / 10*tenN (k+1):=Nat.mul_le_mul_right _ (by omega)
          rw [tenN_9] at h2
          omega
      have H2:=Lib.hid hx';clear hx'
      go_wp2
      go_round
      case rel=>exact ⟨k+1,x / 10,by go_num,by go_num,H2.out,by omega,by omega,hk9⟩
      case measure=>simp [intOf];omega
    · have hmb:(((x:Int) % 10) == 0)=false:=by rw [beq_eq_false_iff_ne];omega
      go_wp2
      go_ret
      exact ⟨k,x,rfl,HX.out,hm,hk8,rfl⟩
def TrimPost (a:Nat) (w:World) (e:Ending) (w':World):Prop :=
  ∃ v m k,e=.returned (.tuple #[v,.int .i64 ((k:Nat):Int)])∧Own w.heap.size w' v (limbs m)∧Below w.heap.size w w'∧a=m*tenN k∧(a=0→k=0)∧(a ≠ 0→m % 10 ≠ 0)∧k≤400000000
theorem ten_bound {k N n:Nat} (h:tenN k≤N) (h2:N<B32 ^ n):k<32*n:=by
  have h1:2 ^ k≤tenN k:=Nat.pow_le_pow_left (by decide) k
  have e:B32 ^ n=2 ^ (32*n):=by rw [Nat.pow_mul];rfl
  rw [e] at h2
  have h3:2 ^ k<2 ^ (32*n):=by omega
  exact (Nat.pow_lt_pow_iff_right (by decide)).1 h3
theorem trim_last {L m z:Nat} (h:L % 1000000000=m*tenN z) (hm:m % 10 ≠ 0) (hz:z≤8):L=L / tenN z*tenN z∧(L / tenN z) % 10 ≠ 0:=by
  have e9:(1000000000:Nat)=tenN (9 - z)*tenN z:=by rw [← tenN_add,Nat.sub_add_cancel (by omega),tenN_9]
  have hd:=Nat.div_add_mod L 1000000000
  rw [h] at hd
  generalize L / 1000000000=q at *
  have hL:L=(tenN (9 - z)*q+m)*tenN z:=by
    rw [← hd];conv=>lhs;lhs;rw [e9]
    grind
  have hq:L / tenN z=tenN (9 - z)*q+m:=by rw [hL];exact Nat.mul_div_cancel _ (tenN_pos z)
  refine ⟨by rw [hq];exact hL,?_⟩
  rw [hq]
  have:tenN (9 - z)=10*tenN (8 - z):=by rw [show 9 - z=(8 - z)+1 by omega,tenN_succ,Nat.mul_comm]
  rw [this,Nat.mul_assoc,Nat.mul_add_mod]
  exact hm
def TrimRel (G a n:Nat) (w:World) (L:Nat) (lv cnt:Value) (wr:World):Prop :=
  ∃ c:Nat,L ≠ 0∧cnt=.int .i64 c∧Own G wr lv (limbs L)∧a=L*tenN c∧Below G w wr
theorem shrink_chunk (B:Nat) (v:Value) (xs:List Nat) (w:World) (hown:Own B w v xs) (hB:B≤w.heap.size) (hm:xs.length≤100000000) :
    Calls Tryz.prog 145 #[v,.int .u32 1000000000] w (ShrinkPost B (val xs) 1000000000 v.ownBlock w) :=
  shrink_any B v xs 1000000000 w hown hB hm (by decide) (by decide)
theorem trim_any (ad:Option Addr) (n cap:Nat) (xs:List Nat) (w:World) (hn:xs.length=n) (hcap:n≤cap) (hm:n≤10000000) (ho:Okl xs) (hr:Rd w ad xs) :
    Calls Tryz.prog 191 #[.slice ad n cap] w (TrimPost (val xs) w):=by
  have KN:=Lib.hid (norm_any ad n cap xs w hn hcap (by omega) ho hr)
  have hlt:=val_lt ho
  rw [hn] at hlt
  have hlen:=limbs_len_le ho
  rw [hn] at hlen
  generalize val xs=a at *
  clear ho hr hn
  have HLT:=Lib.hid hlt;clear hlt
  by_cases h0:a=0
  · subst h0
    go_enter Tryz.func191,Tryz.ntmps191
    go_wp2_with fail
    refine KN.out.mono ?_
    rintro e w' ⟨v,rfl,hv,hbl⟩
    obtain ⟨ad1,cap1,rfl,_,_,_⟩:=hv.view
    rw [limbs_zero] at hv ⊢
    go_wp2_with fail
    go_wp2
    go_ret2
    exact ⟨_,0,0,rfl,Own.nil _ _,hbl,by rw [Nat.zero_mul],fun _=>rfl,fun h=>absurd rfl h,by omega⟩
  · have hne:(limbs a).length ≠ 0:=fun h=>h0 ((limbs_nil_iff a).1 (List.eq_nil_of_length_eq_zero h))
    have hnb:(((limbs a).length:Int) == 0)=false:=by rw [beq_eq_false_iff_ne];omega
    have HNB:=Lib.hid hnb
    clear hnb
    generalize hG:w.heap.size=G at *
    go_enter Tryz.func191,Tryz.ntmps191
    go_wp2_with fail
    refine KN.out.mono ?_
    rintro e w' ⟨v,rfl,hv,hbl⟩
    rw [hG] at hv hbl
    obtain ⟨ad1,cap1,hve,_,_,_⟩:=hv.view
    subst hve
    have hnb:=HNB.out
    go_wp2
    clear hnb
    go_loopg [4,5] a (fun L lv cnt wr=>TrimRel G a n w L lv cnt wr)
    case atStart=>exact ⟨0,h0,rfl,hv,by rw [tenN_zero,Nat.mul_one],hbl⟩
    case round =>
      clear hv hbl
      obtain ⟨c,hL0,rfl,hown,ha,hbl⟩:=hrel
      have hLa:gk≤a:=by rw [ha];exact Nat.le_mul_of_pos_right _ (tenN_pos c)
      have hcb:c<32*n:=ten_bound (N:=a) (by rw [ha];exact Nat.le_mul_of_pos_left _ (by omega)) HLT.out
      have hll:(limbs gk).length≤n:=Nat.le_trans (limbs_len_mono hLa) hlen
      have HA:=Lib.hid ha;clear ha
      obtain ⟨ad2,cap2,rfl,hle,hrd,hadd⟩:=hown.view
      have K2:=norm_any ad2 (limbs gk).length cap2 (limbs gk) wr rfl hle (by omega) (limbs_ok gk) hrd
      rw [val_limbs] at K2
      have hsG:G≤wr.heap.size:=Nat.le_trans (by rw [← hG];exact Nat.le_refl _) hbl.size
      have K2H:=Lib.hid K2
      have HADD:=Lib.hid hadd
      clear K2 hadd hrd hle
      go_wp2_with fail
      refine K2H.out.mono ?_
      rintro e w1 ⟨v1,rfl,hv1,hb1⟩
      go_wp2_with fail
      have K3:=shrink_chunk wr.heap.size v1 (limbs gk) w1 hv1 hb1.size (by omega)
      rw [val_limbs] at K3
      refine K3.mono ?_
      clear K3
      rintro e w2 ⟨v2,rfl,hv2,hb2,_⟩
      have hb12:Below wr.heap.size wr w2:=hb1.trans hb2
      have hown2:=hown.below hb12
      have hbl2:Below G w w2:=hbl.trans (hb12.mono hsG)
      have hsG2:G≤w2.heap.size:=Nat.le_trans hsG hb12.size
      have hrl:gk % 1000000000<1000000000:=Nat.mod_lt _ (by decide)
      generalize hrm:gk % 1000000000=rm at *
      have HRM:=Lib.hid hrm;clear hrm
      clear hv1 hb1 hb2 hown hb12
      by_cases hr0:rm=0
      · subst hr0
        have hdv:gk=gk / 1000000000*1000000000:=by have h1:=HRM.out;omega
        have HDV:=Lib.hid hdv;clear hdv
        have hq0:gk / 1000000000 ≠ 0:=by intro h1;have:=HDV.out;rw [h1] at this;omega
        have hql:gk / 1000000000<gk:=by omega
        have hv3:=hv2.mono hsG
        generalize hQ:gk / 1000000000=Q at *
        have HQ:=Lib.hid hQ;clear hQ
        go_wp2
        go_roundg Q
        case measure=>exact hql
        case rel=>exact ⟨c+9,hq0,by go_num,hv3,by rw [HA.out,HDV.out,tenN_add,tenN_9,Nat.mul_assoc,Nat.mul_comm 1000000000],hbl2⟩
      · have hpos:(0:Int)<(rm:Int):=by omega
        go_wp2_with fail
        refine (zeros_any rm w2 hr0 hrl).mono ?_
        rintro e w' ⟨z,m,rfl,hzm,hm10,hz8,rfl⟩
        have htl:=trim_last (by rw [HRM.out];exact hzm) hm10 hz8
        have HTL:=Lib.hid htl
        clear htl hzm hm10
        go_wp2_with fail
        refine (tens_any z _ (by omega)).mono ?_
        rintro e w' ⟨rfl,rfl⟩
        go_wp2_with fail
        have K4:=shrink_any G _ (limbs gk) (tenN z) w2 hown2 hsG2 (by omega) (by have:=tenN_le (show z≤9 by omega);rw [tenN_9] at this;rw [B32_eq];omega) (tenN_pos z)
        rw [val_limbs] at K4
        refine K4.mono ?_
        clear K4
        rintro e w3 ⟨v3,rfl,hv3,hb3,_⟩
        go_wp2
        go_ret2
        exact ⟨v3,gk / tenN z,c+z,by go_num,by rw [hG];exact hv3,by rw [hG];exact hbl2.trans hb3,
          by rw [HA.out,Nat.add_comm,tenN_add,← Nat.mul_assoc,← HTL.out.1],fun h=>absurd h h0,fun _=>HTL.out.2,by omega⟩
end Go.Proofs.YtijaphbccnadbaaGreatDoor
