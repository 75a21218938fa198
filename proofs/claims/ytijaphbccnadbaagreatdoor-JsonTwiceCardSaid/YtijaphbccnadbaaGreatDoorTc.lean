/- Texts of the claim. -/
import Derived.Test.YtijaphbccnadbaaGreatDoorTb
set_option linter.unusedVariables false
set_option linter.unusedSimpArgs false
set_option maxHeartbeats 4000000
set_option maxRecDepth 100000
namespace Go.Proofs.YtijaphbccnadbaaGreatDoor
open Go.RowKit
open Go.RowKit
open Go.RowKit
theorem limbs_top {N t:Nat} (h:(limbs N).length=t+1):(limbs N).getD t 0 ≠ 0:=by
  have hc:=limbs_cutLen N
  rw [h] at hc
  exact cut_top _ _ _ hc
theorem limbs_len_mono {a b:Nat} (h:b≤a):(limbs b).length≤(limbs a).length:=by
  rcases Nat.lt_or_ge (limbs a).length (limbs b).length with h1 | h1
  · have:=limbs_len_lt h1;omega
  · exact h1
def tenN (n:Nat):Nat:=10 ^ n
theorem tenN_zero:tenN 0=1:=rfl
theorem tenN_succ (n:Nat):tenN (n+1)=tenN n*10:=Nat.pow_succ _ _
theorem tenN_pos (n:Nat):0<tenN n:=Nat.pow_pos (by decide)
theorem tenN_le {n m:Nat} (h:n≤m):tenN n≤tenN m:=Nat.pow_le_pow_right (by decide) h
theorem tenN_9:tenN 9=1000000000:=by decide
theorem tenN_add (a b:Nat):tenN (a+b)=tenN a*tenN b:=Nat.pow_add _ _ _
theorem tens_any (n:Nat) (w:World) (hn:n≤9) :
    Calls Tryz.prog 190 #[.int .i64 (n:Int)] w fun e w'=>e=.returned (.int .u32 ((tenN n:Nat):Int))∧w=w':=by
  go_enter Tryz.func190,Tryz.ntmps190
  go_wp2
  go_loop [3,5] (fun p i=>∃ (k:Nat),k≤n∧i=.int .i64 k∧p=.int .u32 (tenN k)) (fun _ i=>n - (intOf i).toNat)
  case atStart=>exact ⟨0,by omega,rfl,rfl⟩
  case round =>
    obtain ⟨k,hk,rfl,rfl⟩:=hrel
    by_cases hlt:k<n
    · have hb:tenN k*10≤1000000000:=by rw [← tenN_succ,← tenN_9];exact tenN_le (by omega)
      have HX:=Lib.hid (tenN_succ k)
      go_wp2
      go_round
      case rel=>exact ⟨k+1,by omega,by go_num,by rw [HX.out];go_num⟩
      case measure=>simp [intOf];omega
    · obtain rfl:k=n:=by omega
      go_wp2
      go_ret
      exact ⟨rfl,rfl⟩
def ZerosPost (v:Nat) (w:World) (e:Ending) (w':World):Prop :=
  ∃ z m,e=.returned (.int .i64 ((z:Nat):Int))∧v=m*tenN z∧m % 10 ≠ 0∧z≤8∧w=w'
theorem zeros_any (v:Nat) (w:World) (h0:v ≠ 0) (hv:v<1000000000) :
    Calls Tryz.prog 208 #[.int .u32 (v:Int)] w (ZerosPost v w):=by
  go_enter Tryz.func208,Tryz.ntmps208
  go_wp2
  go_loop [0,3] (fun p i=>∃ (k x:Nat),i=.int .i64 k∧p=.int .u32 x∧v=x*tenN k∧x ≠ 0∧x≤v∧k≤8) (fun p _=>(intOf p).toNat)
  case atStart=>exact ⟨0,v,rfl,rfl,by rw [tenN_zero,Nat.mul_one],h0,Nat.le_refl _,by omega⟩
  case round =>
    obtain ⟨k,x,rfl,rfl,hx,hx0,hxv,hk8⟩:=hrel
    have HX:=Lib.hid hx;clear hx
    by_cases hm:x % 10=0
    · have hmb:(((x:Int) % 10) == 0)=true:=by rw [beq_iff_eq];omega
      have hx':v=x / 10*tenN (k+1):=by
        have e:=Nat.div_add_mod x 10
        rw [hm,Nat.add_zero] at e
        rw [HX.out]
        conv=>lhs;rw [← e]
        rw [tenN_succ,Nat.mul_comm (tenN k),← Nat.mul_assoc,Nat.mul_comm (x / 10) 10]
      have hk9:k+1≤8:=by
        rcases Nat.lt_or_ge k 8 with h1 | h1
        · exact h1
        · exfalso
          have h2:tenN 9≤tenN (k+1):=tenN_le (by omega)
          have h3:1*tenN (k+1)≤x / 10*tenN (k+1):=Nat.mul_le_mul_right _ (by omega)
          rw [tenN_9] at h2
          omega
      have H2:=Lib.hid hx';clear hx'
      go_wp2
      go_round
      case rel=>exact ⟨k+1,x / 10,by go_num,by go_num,H2.out,by omega,by omega,hk9⟩
      case measure=>simp [intOf];omega
    · have hmb:(((x:Int) % 10) == 0)=false:=by rw [beq_eq_false_iff_ne];omega
      go_wp2
      go_ret
      exact ⟨k,x,rfl,HX.out,hm,hk8,rfl⟩
def TrimPost (a:Nat) (w:World) (e:Ending) (w':World):Prop :=
  ∃ v m k,e=.returned (.tuple #[v,.int .i64 ((k:Nat):Int)])∧Own w.heap.size w' v (limbs m)∧Below w.heap.size w w'∧a=m*tenN k∧(a=0→k=0)∧(a ≠ 0→m % 10 ≠ 0)∧k≤400000000
theorem ten_bound {k N n:Nat} (h:tenN k≤N) (h2:N<B32 ^ n):k<32*n:=by
  have h1:2 ^ k≤tenN k:=Nat.pow_le_pow_left (by decide) k
  have e:B32 ^ n=2 ^ (32*n):=by rw [Nat.pow_mul];rfl
  rw [e] at h2
  have h3:2 ^ k<2 ^ (32*n):=by omega
  exact (Nat.pow_lt_pow_iff_right (by decide)).1 h3
theorem trim_last {L m z:Nat} (h:L % 1000000000=m*tenN z) (hm:m % 10 ≠ 0) (hz:z≤8):L=L / tenN z*tenN z∧(L / tenN z) % 10 ≠ 0:=by
  have e9:(1000000000:Nat)=tenN (9 - z)*tenN z:=by rw [← tenN_add,Nat.sub_add_cancel (by omega),tenN_9]
  have hd:=Nat.div_add_mod L 1000000000
  rw [h] at hd
  generalize L / 1000000000=q at *
  have hL:L=(tenN (9 - z)*q+m)*tenN z:=by
    rw [← hd];conv=>lhs;lhs;rw [e9]
    grind
  have hq:L / tenN z=tenN (9 - z)*q+m:=by rw [hL];exact Nat.mul_div_cancel _ (tenN_pos z)
  refine ⟨by rw [hq];exact hL,?_⟩
  rw [hq]
  have:tenN (9 - z)=10*tenN (8 - z):=by rw [show 9 - z=(8 - z)+1 by omega,tenN_succ,Nat.mul_comm]
  rw [this,Nat.mul_assoc,Nat.mul_add_mod]
  exact hm
def TrimRel (G a n:Nat) (w:World) (L:Nat) (lv cnt:Value) (wr:World):Prop :=
  ∃ c:Nat,L ≠ 0∧cnt=.int .i64 c∧Own G wr lv (limbs L)∧a=L*tenN c∧Below G w wr
theorem shrink_chunk (B:Nat) (v:Value) (xs:List Nat) (w:World) (hown:Own B w v xs) (hB:B≤w.heap.size) (hm:xs.length≤100000000) :
    Calls Tryz.prog 145 #[v,.int .u32 1000000000] w (ShrinkPost B (val xs) 1000000000 v.ownBlock w) :=
  shrink_any B v xs 1000000000 w hown hB hm (by decide) (by decide)
theorem trim_any (ad:Option Addr) (n cap:Nat) (xs:List Nat) (w:World) (hn:xs.length=n) (hcap:n≤cap) (hm:n≤10000000) (ho:Okl xs) (hr:Rd w ad xs) :
    Calls Tryz.prog 191 #[.slice ad n cap] w (TrimPost (val xs) w):=by
  have KN:=Lib.hid (norm_any ad n cap xs w hn hcap (by omega) ho hr)
  have hlt:=val_lt ho
  rw [hn] at hlt
  have hlen:=limbs_len_le ho
  rw [hn] at hlen
  generalize val xs=a at *
  clear ho hr hn
  have HLT:=Lib.hid hlt;clear hlt
  by_cases h0:a=0
  · subst h0
    go_enter Tryz.func191,Tryz.ntmps191
    go_wp2_with fail
    refine KN.out.mono ?_
    rintro e w' ⟨v,rfl,hv,hbl⟩
    obtain ⟨ad1,cap1,rfl,_,_,_⟩:=hv.view
    rw [limbs_zero] at hv ⊢
    go_wp2_with fail
    go_wp2
    go_ret2
    exact ⟨_,0,0,rfl,Own.nil _ _,hbl,by rw [Nat.zero_mul],fun _=>rfl,fun h=>absurd rfl h,by omega⟩
  · have hne:(limbs a).length ≠ 0:=fun h=>h0 ((limbs_nil_iff a).1 (List.eq_nil_of_length_eq_zero h))
    have hnb:(((limbs a).length:Int) == 0)=false:=by rw [beq_eq_false_iff_ne];omega
    have HNB:=Lib.hid hnb
    clear hnb
    generalize hG:w.heap.size=G at *
    go_enter Tryz.func191,Tryz.ntmps191
    go_wp2_with fail
    refine KN.out.mono ?_
    rintro e w' ⟨v,rfl,hv,hbl⟩
    rw [hG] at hv hbl
    obtain ⟨ad1,cap1,hve,_,_,_⟩:=hv.view
    subst hve
    have hnb:=HNB.out
    go_wp2
    clear hnb
    go_loopg [4,5] a (fun L lv cnt wr=>TrimRel G a n w L lv cnt wr)
    case atStart=>exact ⟨0,h0,rfl,hv,by rw [tenN_zero,Nat.mul_one],hbl⟩
    case round =>
      clear hv hbl
      obtain ⟨c,hL0,rfl,hown,ha,hbl⟩:=hrel
      have hLa:gk≤a:=by rw [ha];exact Nat.le_mul_of_pos_right _ (tenN_pos c)
      have hcb:c<32*n:=ten_bound (N:=a) (by rw [ha];exact Nat.le_mul_of_pos_left _ (by omega)) HLT.out
      have hll:(limbs gk).length≤n:=Nat.le_trans (limbs_len_mono hLa) hlen
      have HA:=Lib.hid ha;clear ha
      obtain ⟨ad2,cap2,rfl,hle,hrd,hadd⟩:=hown.view
      have K2:=norm_any ad2 (limbs gk).length cap2 (limbs gk) wr rfl hle (by omega) (limbs_ok gk) hrd
      rw [val_limbs] at K2
      have hsG:G≤wr.heap.size:=Nat.le_trans (by rw [← hG];exact Nat.le_refl _) hbl.size
      have K2H:=Lib.hid K2
      have HADD:=Lib.hid hadd
      clear K2 hadd hrd hle
      go_wp2_with fail
      refine K2H.out.mono ?_
      rintro e w1 ⟨v1,rfl,hv1,hb1⟩
      go_wp2_with fail
      have K3:=shrink_chunk wr.heap.size v1 (limbs gk) w1 hv1 hb1.size (by omega)
      rw [val_limbs] at K3
      refine K3.mono ?_
      clear K3
      rintro e w2 ⟨v2,rfl,hv2,hb2,_⟩
      have hb12:Below wr.heap.size wr w2:=hb1.trans hb2
      have hown2:=hown.below hb12
      have hbl2:Below G w w2:=hbl.trans (hb12.mono hsG)
      have hsG2:G≤w2.heap.size:=Nat.le_trans hsG hb12.size
      have hrl:gk % 1000000000<1000000000:=Nat.mod_lt _ (by decide)
      generalize hrm:gk % 1000000000=rm at *
      have HRM:=Lib.hid hrm;clear hrm
      clear hv1 hb1 hb2 hown hb12
      by_cases hr0:rm=0
      · subst hr0
        have hdv:gk=gk / 1000000000*1000000000:=by have h1:=HRM.out;omega
        have HDV:=Lib.hid hdv;clear hdv
        have hq0:gk / 1000000000 ≠ 0:=by intro h1;have:=HDV.out;rw [h1] at this;omega
        have hql:gk / 1000000000<gk:=by omega
        have hv3:=hv2.mono hsG
        generalize hQ:gk / 1000000000=Q at *
        have HQ:=Lib.hid hQ;clear hQ
        go_wp2
        go_roundg Q
        case measure=>exact hql
        case rel=>exact ⟨c+9,hq0,by go_num,hv3,by rw [HA.out,HDV.out,tenN_add,tenN_9,Nat.mul_assoc,Nat.mul_comm 1000000000],hbl2⟩
      · have hpos:(0:Int)<(rm:Int):=by omega
        go_wp2_with fail
        refine (zeros_any rm w2 hr0 hrl).mono ?_
        rintro e w' ⟨z,m,rfl,hzm,hm10,hz8,rfl⟩
        have htl:=trim_last (by rw [HRM.out];exact hzm) hm10 hz8
        have HTL:=Lib.hid htl
        clear htl hzm hm10
        go_wp2_with fail
        refine (tens_any z _ (by omega)).mono ?_
        rintro e w' ⟨rfl,rfl⟩
        go_wp2_with fail
        have K4:=shrink_any G _ (limbs gk) (tenN z) w2 hown2 hsG2 (by omega) (by have:=tenN_le (show z≤9 by omega);rw [tenN_9] at this;rw [B32_eq];omega) (tenN_pos z)
        rw [val_limbs] at K4
        refine K4.mono ?_
        clear K4
        rintro e w3 ⟨v3,rfl,hv3,hb3,_⟩
        go_wp2
        go_ret2
        exact ⟨v3,gk / tenN z,c+z,by go_num,by rw [hG];exact hv3,by rw [hG];exact hbl2.trans hb3,
          by rw [HA.out,Nat.add_comm,tenN_add,← Nat.mul_assoc,← HTL.out.1],fun h=>absurd h h0,fun _=>HTL.out.2,by omega⟩
def Okb (xs:List Nat):Prop:=∀ x∈xs,x<256
theorem Okb.nil:Okb []:=by intro x h;cases h
theorem Okb.take {xs:List Nat} (h:Okb xs) (n:Nat):Okb (xs.take n):=fun y hy=>h y (List.mem_of_mem_take hy)
theorem Okb.append {xs ys:List Nat} (h:Okb xs) (k:Okb ys):Okb (xs++ys):=by
  intro y hy;rcases List.mem_append.1 hy with hy | hy
  · exact h y hy
  · exact k y hy
theorem Okb.one {x:Nat} (h:x<256):Okb [x]:=by
  intro y hy;rw [List.mem_singleton] at hy;omega
theorem Okb.set {xs:List Nat} (h:Okb xs) (i v:Nat) (hv:v<256):Okb (xs.set i v):=by
  intro y hy;rcases List.mem_or_eq_of_mem_set hy with hy | hy
  · exact h y hy
  · exact hy ▸ hv
theorem Okb.getD {xs:List Nat} (h:Okb xs) (i:Nat):xs.getD i 0<256:=by
  by_cases hi:i<xs.length
  · simp only [List.getD,List.getElem?_eq_getElem hi,Option.getD_some];exact h _ (List.getElem_mem hi)
  · simp only [List.getD,List.getElem?_eq_none (Nat.le_of_not_lt hi),Option.getD_none];decide
def bv (n:Nat):Value:=.int .u8 (n:Int)
def Rdb (w:World) (ad:Option Addr) (xs:List Nat):Prop :=
  ∀ i,i<xs.length→∃ b o,ad=some ⟨b,o,none⟩∧b<w.heap.size∧w.cell? ⟨b,o+i,none⟩=some (.int .u8 ((xs.getD i 0:Nat):Int))
theorem Rdb.at {w:World} {b o:Nat} {xs:List Nat} (h:Rdb w (some ⟨b,o,none⟩) xs) (i:Nat) (hi:i<xs.length) :
    w.cell? ⟨b,o+i,none⟩=some (.int .u8 ((xs.getD i 0:Nat):Int)):=by
  obtain ⟨b',o',e,_,hc⟩:=h i hi
  cases e;exact hc
theorem Rdb.lt {w:World} {ad:Option Addr} {xs:List Nat} (h:Rdb w ad xs) (a:Addr) (e:ad=some a) (hx:0<xs.length):a.block<w.heap.size:=by
  obtain ⟨b,o,e',hb,_⟩:=h 0 hx
  rw [e] at e';cases e';exact hb
theorem Rdb.apart {w:World} {ad:Option Addr} {xs:List Nat} (h:Rdb w ad xs) {g:Nat} (hg:w.heap.size≤g) (a:Addr) (e:ad=some a) (hx:0<xs.length):a.block ≠ g:=by
  have:=h.lt a e hx;omega
theorem Rdb.nil (w:World) (ad:Option Addr):Rdb w ad []:=by intro i h;simp at h
theorem Rdb.take {w:World} {ad:Option Addr} {xs:List Nat} (h:Rdb w ad xs) (n:Nat):Rdb w ad (xs.take n):=by
  intro i hi
  rw [List.length_take] at hi
  obtain ⟨b,o,e,hb,hc⟩:=h i (by omega)
  exact ⟨b,o,e,hb,by rw [hc];simp [List.getD,show i<n by omega]⟩
theorem Rdb.below {w w':World} {ad:Option Addr} {xs:List Nat} (h:Rdb w ad xs) (hb:Below w.heap.size w w'):Rdb w' ad xs:=by
  intro i hi
  obtain ⟨b,o,e,hlt,hc⟩:=h i hi
  exact ⟨b,o,e,Nat.lt_of_lt_of_le hlt hb.size,by rw [hb.cell (p:=⟨b,o+i,none⟩) hlt];exact hc⟩
def Bkb (w:World) (g:Nat) (ys:List Nat) (r:List Value):Prop:=w.heap[g]? = some (.cells (ys.map bv++r).toArray 5 (0,0))
def putb (g:Nat) (ys:List Nat) (r:List Value) (w:World):World:={ w with heap:=w.heap.setIfInBounds g (.cells (ys.map bv++r).toArray 5 (0,0)) }
theorem Bkb.lt {w:World} {g:Nat} {ys:List Nat} {r:List Value} (h:Bkb w g ys r):g<w.heap.size:=by
  rcases Nat.lt_or_ge g w.heap.size with h1 | h1
  · exact h1
  · rw [Bkb,Array.getElem?_eq_none h1] at h;cases h
theorem Bkb.cell {w:World} {g:Nat} {ys:List Nat} {r:List Value} (h:Bkb w g ys r) (i:Nat) (hi:i<ys.length) :
    w.cell? ⟨g,i,none⟩=some (.int .u8 ((ys.getD i 0:Nat):Int)):=by
  unfold Bkb at h
  have e:(List.map bv ys++r)[i]? = some (bv (ys.getD i 0)):=by
    rw [List.getElem?_append_left (by simpa using hi)]
    simp [List.getD,hi]
  simp only [World.cell?,h]
  simpa [bv] using e
theorem Bkb.free {w:World} {g:Nat} {ys:List Nat} {r:List Value} (h:Bkb w g ys r) (i:Nat):w.frozen? ⟨g,i,none⟩=false:=by
  unfold Bkb at h
  simp [World.frozen?,h]
theorem Bkb.rd {w:World} {g:Nat} {ys:List Nat} {r:List Value} (h:Bkb w g ys r) (o n:Nat) (hn:o+n≤ys.length):Rdb w (some ⟨g,o,none⟩) ((ys.drop o).take n):=by
  intro i hi
  rw [List.length_take,List.length_drop] at hi
  refine ⟨g,o,rfl,h.lt,?_⟩
  rw [h.cell (o+i) (by omega)]
  simp [List.getD,show i<n by omega]
theorem Bkb.rd_all {w:World} {g:Nat} {ys:List Nat} {r:List Value} (h:Bkb w g ys r):Rdb w (some ⟨g,0,none⟩) ys:=by
  have:=h.rd 0 ys.length (by omega)
  simpa using this
theorem putb_heap (g:Nat) (ys:List Nat) (r:List Value) (w:World):(putb g ys r w).heap.size=w.heap.size:=by simp [putb]
theorem putb_blk {w:World} {g:Nat} (ys:List Nat) (r:List Value) (h:g<w.heap.size):Bkb (putb g ys r w) g ys r:=by
  simp [Bkb,putb,h]
theorem putb_put (g:Nat) (ys zs:List Nat) (r r':List Value) (w:World):putb g ys r (putb g zs r' w)=putb g ys r w:=by
  simp [putb]
theorem putb_other (g:Nat) (ys:List Nat) (r:List Value) (w:World) (k:Nat) (h:k ≠ g):(putb g ys r w).heap[k]? = w.heap[k]?:=by
  simp only [putb];rw [Array.getElem?_setIfInBounds_ne (by omega)]
theorem putb_same {w:World} {g:Nat} {ys:List Nat} {r:List Value} (h:Bkb w g ys r):putb g ys r w=w:=by
  have hlt:=h.lt
  unfold Bkb at h
  have e:w.heap.setIfInBounds g (.cells (ys.map bv++r).toArray 5 (0,0))=w.heap:=by
    apply Array.ext_getElem?
    intro k
    by_cases hk:k=g
    · subst hk;rw [Array.getElem?_setIfInBounds_self_of_lt hlt,h]
    · rw [Array.getElem?_setIfInBounds_ne (by omega)]
  simp only [putb];rw [e]
theorem setb_blk {w:World} {g:Nat} {ys:List Nat} {r:List Value} (h:Bkb w g ys r) (i v:Nat) (hi:i<ys.length):w.setCell ⟨g,i,none⟩ (.int .u8 (v:Int))=putb g (ys.set i v) r w:=by
  have hlt:=h.lt
  unfold Bkb at h
  have e:(w.setCell ⟨g,i,none⟩ (.int .u8 (v:Int))).heap=w.heap.setIfInBounds g (.cells ((ys.set i v).map bv++r).toArray 5 (0,0)):=by
    apply Array.ext_getElem?
    intro k
    simp only [World.setCell,Array.getElem?_modify]
    by_cases hk:g=k
    · subst hk;rw [Array.getElem?_setIfInBounds_self_of_lt hlt,h];simp [bv,hi]
    · rw [if_neg hk,Array.getElem?_setIfInBounds_ne hk]
  unfold putb;rw [← e];rfl
theorem putb_below {B:Nat} {a w:World} (h:Below B a w) {g:Nat} (hg:B≤g) (ys:List Nat) (r:List Value):Below B a (putb g ys r w) :=
  h.trans ⟨rfl,rfl,rfl,by rw [putb_heap];exact Nat.le_refl _,fun k hk=>putb_other g ys r w k (by omega)⟩
theorem Rdb.drewN {w:World} {ad:Option Addr} {xs:List Nat} (h:Rdb w ad xs) (q:Nat):Rdb (w.drewN q) ad xs:=h
theorem Bkb.drewN {w:World} {g:Nat} {ys:List Nat} {r:List Value} (h:Bkb w g ys r) (q:Nat):Bkb (w.drewN q) g ys r:=h
theorem Bkb.below {w w':World} {g:Nat} {ys:List Nat} {r:List Value} (h:Bkb w g ys r) {B:Nat} (hb:Below B w w') (hg:g<B):Bkb w' g ys r:=by
  unfold Bkb;rw [hb.block g hg];exact h
def Ownb (B:Nat) (w:World) (v:Value) (xs:List Nat):Prop :=
  Okb xs∧((v=.slice none 0 0∧xs=[])∨∃ g cap r,v=.slice (some ⟨g,0,none⟩) xs.length cap∧B≤g∧Bkb w g xs r∧cap=xs.length+r.length∧cap≤maxLen)
theorem Ownb.nil (B:Nat) (w:World):Ownb B w (.slice none 0 0) []:=⟨Okb.nil,.inl ⟨rfl,rfl⟩⟩
theorem Ownb.view {B:Nat} {w:World} {v:Value} {xs:List Nat} (h:Ownb B w v xs) :
    ∃ ad cap,v=.slice ad xs.length cap∧xs.length≤cap∧Rdb w ad xs∧∀ a,ad=some a→B≤a.block∧a.block<w.heap.size:=by
  obtain ⟨_,⟨rfl,rfl⟩ | ⟨g,cap,r,rfl,hg,hb,hc,_⟩⟩:=h
  · exact ⟨none,0,rfl,Nat.le_refl _,Rdb.nil _ _,fun a h=>by cases h⟩
  · exact ⟨_,cap,rfl,by omega,hb.rd_all,fun a h=>by cases h;exact ⟨hg,hb.lt⟩⟩
theorem Ownb.mono {B B':Nat} {w:World} {v:Value} {xs:List Nat} (h:Ownb B w v xs) (hB:B'≤B):Ownb B' w v xs:=by
  obtain ⟨ho,h | ⟨g,cap,r,e,hg,hb,hc⟩⟩:=h
  · exact ⟨ho,.inl h⟩
  · exact ⟨ho,.inr ⟨g,cap,r,e,by omega,hb,hc⟩⟩
theorem Ownb.below {B:Nat} {w w':World} {v:Value} {xs:List Nat} (h:Ownb B w v xs) (hb:Below w.heap.size w w'):Ownb B w' v xs:=by
  obtain ⟨ho,h | ⟨g,cap,r,e,hg,hk,hc⟩⟩:=h
  · exact ⟨ho,.inl h⟩
  · exact ⟨ho,.inr ⟨g,cap,r,e,hg,hk.below hb hk.lt,hc⟩⟩
theorem Ownb.drewN {B:Nat} {w:World} {v:Value} {xs:List Nat} (h:Ownb B w v xs) (q:Nat):Ownb B (w.drewN q) v xs:=h
theorem Bkb.own {w:World} {g B:Nat} {ys:List Nat} {r:List Value} (h:Bkb w g ys r) (hg:B≤g) (ho:Okb ys) (n cap:Nat) (hn:n≤ys.length) (hc:cap=ys.length+r.length) (hm:cap≤maxLen) :
    Ownb B w (.slice (some ⟨g,0,none⟩) n cap) (ys.take n):=by
  refine ⟨ho.take n,.inr ⟨g,cap,(ys.drop n).map bv++r,?_,hg,?_,?_,hm⟩⟩
  · rw [List.length_take,Nat.min_eq_left hn]
  · unfold Bkb at h ⊢;rw [h,← List.append_assoc,← List.map_append,List.take_append_drop]
  · simp;omega
theorem info_u8:(Tryz.prog.info? 5).map (fun i=>(i.zero,i.size,i.bytes))=some (some (.int .u8 0),1,1):=by kernel_rfl
theorem Ownb.row {B:Nat} {w:World} {v:Value} {xs:List Nat} (h:Ownb B w v xs):w.ownsRow B 5 1 v xs.length (xs.map bv):=by
  obtain ⟨_,⟨rfl,rfl⟩ | ⟨g,cap,r,rfl,hg,hb,hc,hm⟩⟩:=h
  · exact ⟨by simp,.inl ⟨rfl,rfl⟩⟩
  · refine ⟨by simp,.inr ⟨g,cap,_,rfl,hg,hb,by omega,hm,by simp;omega,?_⟩⟩
    simp
theorem ownb_of_row {B:Nat} {w:World} {v:Value} {n:Nat} {xs:List Nat} (h:w.ownsRow B 5 1 v n (xs.map bv)) (ho:Okb xs):Ownb B w v xs:=by
  obtain ⟨hl,⟨rfl,rfl⟩ | ⟨g,cap,cur,rfl,hg,hb,hc,hm,hs,ht⟩⟩:=h
  · have:xs=[]:=List.eq_nil_of_length_eq_zero (by simpa using hl)
    subst this
    exact Ownb.nil _ _
  · simp only [List.length_map,Nat.mul_one] at hl
    subst hl
    refine ⟨ho,.inr ⟨g,cap,cur.toList.drop xs.length,rfl,hg,?_,?_,hm⟩⟩
    · unfold Bkb;rw [hb]
      have:cur=(xs.map bv++cur.toList.drop xs.length).toArray:=by
        rw [← ht,Nat.mul_one,List.take_append_drop]
      rw [← this]
    · have:cur.toList.length=cap:=by simpa using hs
      rw [List.length_drop,this];omega
theorem Ownb.blockGe {B:Nat} {w:World} {v:Value} {xs:List Nat} (h:Ownb B w v xs):∀ k,v.ownBlock=some k→B≤k:=by
  obtain ⟨_,⟨rfl,rfl⟩ | ⟨g,cap,r,rfl,hg,_⟩⟩:=h
  · intro k e;cases e
  · intro k e;cases e;exact hg
theorem wpl_appendb {w:World} {ops:Array Oper} {rest:List Oper} {o:Oper} {a:Act} {Q:Exit→Act→World→Prop} (hgd:o.guard=none) (s x:Operand)
    (ho:o.op=.call { callee:=.builtin .append,args:=#[s,x],argTypes:=#[60,60] }) (B:Nat) (v:Value) (xs:List Nat) (hs:a.eval s=v) (hown:Ownb B w v xs)
    (ad:Addr) (c:Nat) (y:Nat) (hx:a.eval x=.slice (some ad) 1 c) (hy:y<256) (hc:w.cell? ad=some (.int .u8 (y:Int))) (hl:xs.length≤1000000000) (hB:B≤w.heap.size)
    (h:∀ v' w',Ownb B w' v' (xs++[y])→Below B w w'→w.grownBy w' v.ownBlock→wpList Tryz.prog ops Q rest (a.put o.dst v') w'):wpList Tryz.prog ops Q (o::rest) a w:=by
  obtain ⟨i0,hi,hz0,hz1,hz2⟩:=info_parts info_u8
  refine wpList_append_own w hgd s x 60 ho B 5 i0 (.int .u8 0) 1 1 Tryz.underlying60 hi hz0 hz1 hz2 rfl (by decide) v xs.length (xs.map bv) hs hown.row ad 1 c [bv y] hx rfl ?_ ?_ (by unfold maxLen;omega) (by omega) hB ?_
  · intro j u hj
    rcases j with _ | j
    · simp only [List.getElem?_cons_zero,Option.some.injEq] at hj
      subst hj;simpa [Addr.add,bv] using hc
    · simp at hj
  · intro u hu;simp only [List.mem_singleton] at hu;subst hu;rfl
  · intro v' w' hown' hgr _
    refine h v' w' ?_ ((Below.refl _ _).grown hgr hB hown.blockGe) hgr
    have e:xs.map bv++[bv y]=(xs++[y]).map bv:=by simp
    rw [e] at hown'
    exact ownb_of_row hown' (hown.1.append (Okb.one hy))
def dval:List Nat→Nat
  | []=>0
  | x::xs=>(x - 48)+10*dval xs
def Okd (xs:List Nat):Prop:=∀ x∈xs,48≤x∧x≤57
theorem Okd.nil:Okd []:=by intro x h;cases h
theorem Okd.b {xs:List Nat} (h:Okd xs):Okb xs:=fun x hx=>by have:=h x hx;omega
theorem Okd.snoc {xs:List Nat} {x:Nat} (h:Okd xs) (h1:48≤x) (h2:x≤57):Okd (xs++[x]):=by
  intro y hy;rcases List.mem_append.1 hy with hy | hy
  · exact h y hy
  · rw [List.mem_singleton] at hy;omega
theorem Okd.take {xs:List Nat} (h:Okd xs) (n:Nat):Okd (xs.take n):=fun y hy=>h y (List.mem_of_mem_take hy)
theorem Okd.tail {x:Nat} {xs:List Nat} (h:Okd (x::xs)):Okd xs:=fun y hy=>h y (by simp [hy])
theorem Okd.rev {xs:List Nat} (h:Okd xs):Okd xs.reverse:=fun y hy=>h y (List.mem_reverse.1 hy)
theorem dval_snoc (xs:List Nat) (x:Nat):dval (xs++[x])=dval xs+tenN xs.length*(x - 48):=by
  induction xs with
  | nil=>simp [dval,tenN]
  | cons y ys ih=>simp only [List.cons_append,dval,ih,List.length_cons,tenN_succ];grind
def declF:Nat→Nat→List Nat
  | 0,_=>[]
  | f+1,N=>if N=0 then [] else (48+N % 10)::declF f (N / 10)
def decl (N:Nat):List Nat:=declF N N
theorem declF_eq : ∀ (f g N : Nat), N ≤ f → N ≤ g → declF f N = declF g N := by
  intro f
  induction f with
  | zero => intro g N h _; obtain rfl : N = 0 := by omega
            cases g <;> simp [declF]
  | succ f ih =>
    intro g N h k
    cases g with
    | zero => obtain rfl : N = 0 := by omega
              simp [declF]
    | succ g =>
      simp only [declF]
      split
      · rfl
      · rw [ih g (N / 10) (by omega) (by omega)]
theorem decl_zero:decl 0=[]:=rfl
theorem decl_pos {N:Nat} (h:N ≠ 0):decl N=(48+N % 10)::decl (N / 10):=by
  unfold decl
  obtain ⟨f,rfl⟩:∃ f,N=f+1:=⟨N - 1,by omega⟩
  conv=>lhs;rw [declF,if_neg h]
  rw [declF_eq f ((f+1) / 10) _ (by omega) (Nat.le_refl _)]
theorem decl_ind {P:Nat→Prop} (z:P 0) (s:∀ N,N ≠ 0→P (N / 10)→P N):∀ N,P N:=by
  intro N
  induction N using Nat.strongRecOn with
  | _ N ih =>
    by_cases h:N=0
    · subst h;exact z
    · exact s N h (ih _ (by omega))
theorem decl_ok (N:Nat):Okd (decl N):=by
  refine decl_ind (P:=fun N=>Okd (decl N)) Okd.nil ?_ N
  intro N h ih;rw [decl_pos h]
  intro y hy;rcases List.mem_cons.1 hy with rfl | hy
  · omega
  · exact ih y hy
theorem dval_decl (N:Nat):dval (decl N)=N:=by
  refine decl_ind (P:=fun N=>dval (decl N)=N) rfl ?_ N
  intro N h ih;rw [decl_pos h,dval,ih];omega
theorem decl_dval {xs:List Nat} (h:Okd xs) (ht:∀ n,xs.length=n+1→xs.getD n 0 ≠ 48):decl (dval xs)=xs:=by
  induction xs with
  | nil=>rfl
  | cons x xs ih =>
    have hx:decl (dval xs)=xs:=ih h.tail (fun n hn=>by have:=ht (n+1) (by simp [hn]);simpa using this)
    have h0:=h x (by simp)
    have hne:dval (x::xs) ≠ 0:=by
      cases xs with
      | nil=>have:=ht 0 rfl;simp at this;simp [dval];omega
      | cons y ys =>
        intro h1
        simp only [dval] at h1
        have h2:dval (y::ys)=0:=by simp only [dval];omega
        rw [h2] at hx;cases hx
    rw [decl_pos hne]
    have hm:dval (x::xs) % 10=x - 48:=by simp only [dval];omega
    have hd:dval (x::xs) / 10=dval xs:=by simp only [dval];omega
    rw [hm,hd,hx,show 48+(x - 48)=x by omega]
theorem dval_lt (xs:List Nat) (h:Okd xs):dval xs<tenN xs.length:=by
  induction xs with
  | nil=>simp [dval,tenN]
  | cons x xs ih =>
    have:=ih h.tail
    have h0:=h x (by simp)
    simp only [dval,List.length_cons,tenN_succ];omega
theorem decl_len_le {n N : Nat} (h : N < tenN n) : (decl N).length ≤ n := by
  induction n generalizing N with
  | zero => obtain rfl : N = 0 := by simpa [tenN] using h
            simp [decl_zero]
  | succ n ih =>
    by_cases h0 : N = 0
    · subst h0; simp [decl_zero]
    · rw [decl_pos h0, List.length_cons]
      rw [tenN_succ] at h
      have := ih (N := N / 10) (by omega)
      omega
theorem decl_ne {N:Nat} (h:N ≠ 0):decl N ≠ []:=by rw [decl_pos h];simp
def trimLen (xs:List Nat):Nat→Nat
  | 0=>0
  | n+1=>if xs.getD n 0=48 then trimLen xs n else n+1
theorem trimLen_le (xs:List Nat):∀ n,trimLen xs n≤n
  | 0=>Nat.le_refl _
  | n+1=>by unfold trimLen;split;exact Nat.le_succ_of_le (trimLen_le xs n);exact Nat.le_refl _
theorem dval_take_succ (xs:List Nat) (n:Nat) (h:n<xs.length):dval (xs.take (n+1))=dval (xs.take n)+tenN n*(xs.getD n 0 - 48):=by
  rw [List.take_succ_eq_append_getElem h,dval_snoc,List.length_take,Nat.min_eq_left (by omega)]
  simp [List.getD,h]
theorem dval_trim (xs:List Nat):∀ n,n≤xs.length→dval (xs.take (trimLen xs n))=dval (xs.take n)
  | 0,_=>rfl
  | n+1,h=>by
    unfold trimLen;split
    · rename_i h0;rw [dval_trim xs n (by omega),dval_take_succ _ _ (by omega),h0];simp
    · rfl
theorem trim_top (xs:List Nat):∀ n m,trimLen xs n=m+1→xs.getD m 0 ≠ 48
  | 0,m,h=>by simp [trimLen] at h
  | n+1,m,h=>by
    unfold trimLen at h;split at h
    · exact trim_top xs n m h
    · rename_i h0;obtain rfl:n=m:=by omega
      exact h0
theorem trim_decl {xs:List Nat} (h:Okd xs):xs.take (trimLen xs xs.length)=decl (dval xs):=by
  have hl:=trimLen_le xs xs.length
  have e:dval (xs.take (trimLen xs xs.length))=dval xs:=by rw [dval_trim _ _ (Nat.le_refl _),List.take_length]
  rw [← e]
  refine (decl_dval (h.take _) ?_).symm
  intro n hn
  rw [List.length_take,Nat.min_eq_left hl] at hn
  have:=trim_top xs _ n hn
  simpa [List.getD,List.getElem?_take,hn] using this
def dec (N:Nat):List Nat:=if N=0 then [48] else (decl N).reverse
def txt (l:List Nat):ByteArray:=⟨(l.map UInt8.ofNat).toArray⟩
theorem txt_size (l:List Nat):(txt l).size=l.length:=by simp [txt,ByteArray.size]
theorem dec_ok (N:Nat):Okd (dec N):=by
  unfold dec;split
  · intro x hx;rw [List.mem_singleton] at hx;omega
  · exact (decl_ok N).rev
theorem dval_dec (N:Nat):dval (dec N).reverse=N:=by
  unfold dec;split
  · rename_i h;subst h;rfl
  · rw [List.reverse_reverse,dval_decl]
theorem dec_len_le {n N:Nat} (hn:0<n) (h:N<tenN n):(dec N).length≤n:=by
  unfold dec;split
  · simp;omega
  · rw [List.length_reverse];exact decl_len_le h
theorem dec_pos (N:Nat):0<(dec N).length:=by
  unfold dec;split
  · simp
  · rename_i h;rw [List.length_reverse];exact List.length_pos_iff.2 (decl_ne h)
end Go.Proofs.YtijaphbccnadbaaGreatDoor
