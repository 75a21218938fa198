/- Texts of the claim. -/
import Derived.Test.YtnacbakcalcgaaaGreatDoorEb
set_option linter.unusedVariables false
set_option linter.unusedSimpArgs false
set_option maxHeartbeats 2000000
set_option maxRecDepth 100000
namespace Go.Proofs.YtnacbakcalcgaaaGreatDoor
open Go.RowKit
open Go.RowKit
open Go.RowKit
theorem val_take_add (l:List Nat) (k m:Nat) (h:k+m≤l.length):val (l.take (k+m))=val (l.take k)+B32 ^ k*wv l k m:=by
  rw [List.take_add,val_append,List.length_take,Nat.min_eq_left (by omega)];rfl
theorem mul_num {A x P Y T:Nat} (h:T=A*Y):T+P*(x*Y)=(A+P*x)*Y:=by subst h;grind
def MulRel (g c c':Nat) (X Y:List Nat) (w1:World) (i:Value) (wr:World):Prop :=
  ∃ (k:Nat) (zs:List Nat),k≤c∧i=.int .i64 k∧zs.length=c+c'∧Okl zs∧val (zs.take (k+c'))=val (X.take k)*val Y∧wr=put g zs [] w1
theorem mul_step {g c c' k x:Nat} {X Y zs zs':List Nat} {w1:World} (hX:X.length=c) (hk:k<c) (hx:X.getD k 0=x) (hl:zs.length=c+c') (hoz:Okl zs') (hw:Win zs zs' k (c'+1))
    (h:wv zs' k (c'+1)=wv zs k c'+x*val Y) (he:val (zs.take (k+c'))=val (X.take k)*val Y):MulRel g c c' X Y w1 (.int .i64 ((k:Int)+1)) (put g zs' [] w1):=by
  refine ⟨k+1,zs',hk,rfl,by rw [hw.len,hl],hoz,?_,rfl⟩
  rw [show k+1+c'=k+(c'+1) by omega,val_take_add zs' k (c'+1) (by rw [hw.len];omega),h,hw.lo,Nat.mul_add,← Nat.add_assoc,← val_take_add zs k c' (by omega),val_take_succ X k (by omega),hx]
  exact mul_num he
theorem mul_any (ad:Option Addr) (n cap:Nat) (xs:List Nat) (ad':Option Addr) (n' cap':Nat) (ys:List Nat) (w:World) (hn:xs.length=n) (hcap:n≤cap) (hm:n≤100000000) (ho:Okl xs) (hr:Rd w ad xs)
    (hn':ys.length=n') (hcap':n'≤cap') (hm':n'≤100000000) (ho':Okl ys) (hr':Rd w ad' ys) :
    Calls Tryz.prog 81 #[.slice ad n cap,.slice ad' n' cap'] w (Gives (val xs*val ys) w):=by
  have K1:=Lib.hid (cut_nat ad n cap xs w hn hcap (by omega) ho hr)
  have K2:=Lib.hid (cut_nat ad' n' cap' ys w hn' hcap' (by omega) ho' hr')
  have hrX:=rd_limbs ho hr
  have hrY:=rd_limbs ho' hr'
  have hlX:=limbs_len_le ho
  have hlY:=limbs_len_le ho'
  rw [hn] at hlX
  rw [hn'] at hlY
  generalize val xs=a at *
  generalize val ys=b at *
  have hoX:=limbs_ok a
  have hoY:=limbs_ok b
  have hvX:=val_limbs a
  have hvY:=val_limbs b
  generalize limbs a=X at *
  generalize limbs b=Y at *
  generalize hc:X.length=c at *
  generalize hc':Y.length=c' at *
  have hcc:c≤100000000:=by omega
  have hcc':c'≤100000000:=by omega
  have hcp:c'≤cap':=by omega
  clear hn hn' ho ho' hr hr' hlX hlY hm hm' hcap hcap'
  have C1:=Lib.hid hc;clear hc
  have C2:=Lib.hid hc';clear hc'
  have V1:=Lib.hid hvX;clear hvX
  have V2:=Lib.hid hvY;clear hvY
  go_enter Tryz.func81,Tryz.ntmps81
  go_wp2_with fail
  refine K1.out.mono ?_
  rintro e w' ⟨rfl,rfl⟩
  go_wp2_with fail
  refine K2.out.mono ?_
  rintro e w' ⟨rfl,rfl⟩
  go_wp2_with (at_make;refine wpl_make _ rfl _ _ rfl _ _ _ _ (c+c') rfl rfl (by omega) (by omega) (by omega) ?_;intro w1 hB1 hb1)
  have hg1:=hrY.apart (Nat.le_refl w.heap.size)
  have hg0:=hrX.apart (Nat.le_refl w.heap.size)
  go_loopw [20] (fun i wr=>MulRel w.heap.size c c' X Y w1 i wr) (fun i _=>c - (intOf i).toNat)
  case atStart=>exact ⟨0,List.replicate (c+c') 0,by omega,rfl,List.length_replicate,Okl.replicate _,by simp [val,List.take_replicate,val_replicate],(put_same hB1).symm⟩
  case round =>
    obtain ⟨k,zs,hk,rfl,hl,hoz,he,rfl⟩:=hrel
    have HE:=Lib.hid he;clear he
    have HL:=Lib.hid hl;clear hl
    have hbz:Blk (put w.heap.size zs [] w1) w.heap.size zs []:=put_blk _ _ hB1.lt
    by_cases hlt:k<c
    · obtain ⟨b',ox,hadd,_,hc⟩:=hrX k (by rw [C1.out];exact hlt)
      subst hadd
      have hne:=hg0 ⟨b',ox,none⟩ rfl (by rw [C1.out];omega)
      have hb':b'<w.heap.size:=by assumption
      have hcx:(put w.heap.size zs [] w1).cell? ⟨b',ox+k,none⟩=some (.int .u32 ((X.getD k 0:Nat):Int)) :=
        (put_cell w.heap.size zs [] w1 ⟨b',ox+k,none⟩ hne).trans ((hb1.cell (p:=⟨b',ox+k,none⟩) hb').trans hc)
      have hxb:=hoX.getD k
      generalize hx:X.getD k 0=x at *
      have HX:=Lib.hid hx;clear hx
      have hrY2:Rd (put w.heap.size zs [] w1) ad' Y:=(hrY.below hb1).put hg1 _ _
      clear hc
      go_wp2_with fail
      rw [show k+c'+1 - k=c'+1 by omega]
      refine (addTimes_any w.heap.size k c' (c+c' - k) ad' cap' zs Y [] x _ C2.out (by omega) (by omega) (by rw [HL.out];omega) hoz hoY hxb hbz hrY2 hg1).mono ?_
      rintro e w' ⟨rfl,zt,hwin,hozt,hval,rfl⟩
      rw [put_put]
      have R:=Lib.hid (mul_step (g:=w.heap.size) (w1:=w1) C1.out hlt HX.out HL.out hozt hwin hval HE.out)
      clear hwin hval
      go_wp2
      go_roundw
      case rel=>exact R.out
      case measure=>simp [intOf];omega
    · obtain rfl:k=c:=by omega
      have hv:val zs=a*b:=by
        have h:=HE.out
        rw [List.take_of_length_le (by rw [HL.out];exact Nat.le_refl _),List.take_of_length_le (by rw [C1.out];exact Nat.le_refl _),V1.out,V2.out] at h
        exact h
      have HV:=Lib.hid hv;clear hv
      go_wp2_with fail
      refine (cut_nat _ (k+c') (k+c') zs _ HL.out (Nat.le_refl _) (by omega) hoz hbz.rd_all).mono ?_
      rintro e w' ⟨rfl,rfl⟩
      go_wp2
      go_ret
      rw [← HV.out]
      exact gives_cut hbz hoz (by rw [HL.out];rfl) (by unfold maxLen;omega) (Nat.le_refl _) (put_below hb1 (Nat.le_refl _) _ _)
def bitsN (N:Nat):Nat:=match limbs N with
  | []=>0
  | x::l=>32*l.length+blen ((x::l).getD l.length 0)
theorem bitsN_zero {N:Nat} (h:limbs N=[]):bitsN N=0:=by unfold bitsN;rw [h]
theorem bitsN_top {N t : Nat} (h : (limbs N).length = t + 1) : bitsN N = 32 * t + blen ((limbs N).getD t 0) := by
  unfold bitsN
  match hl : limbs N with
  | [] => rw [hl] at h; simp at h
  | x :: l => rw [hl] at h; simp only [List.length_cons] at h; obtain rfl : t = l.length := by omega
              rfl
theorem bits_any (ad:Option Addr) (n cap:Nat) (xs:List Nat) (w:World) (hn:xs.length=n) (hcap:n≤cap) (hm:n≤100000000) (ho:Okl xs) (hr:Rd w ad xs) :
    Calls Tryz.prog 83 #[.slice ad n cap] w fun e w'=>e=.returned (.int .i64 (bitsN (val xs):Int))∧w=w':=by
  have K1:=Lib.hid (cut_nat ad n cap xs w hn hcap (by omega) ho hr)
  have hrX:=rd_limbs ho hr
  have hlX:=limbs_len_le ho
  rw [hn] at hlX
  generalize val xs=a at *
  have hoX:=limbs_ok a
  have H0:=@bitsN_zero a
  have H1:=@bitsN_top a
  generalize limbs a=X at *
  generalize bitsN a=N at *
  generalize hc:X.length=c at *
  have C1:=Lib.hid hc;clear hc
  clear hn ho hr
  rcases c with _ | t
  · have h0:=H0 (List.eq_nil_of_length_eq_zero C1.out)
    subst h0
    clear H0 H1
    go_enter Tryz.func83,Tryz.ntmps83
    go_wp2_with fail
    refine K1.out.mono ?_
    rintro e w' ⟨rfl,rfl⟩
    go_wp2
    go_ret
    exact ⟨rfl,rfl⟩
  · have h1:=Lib.hid (@H1 t rfl)
    clear H0 H1
    obtain ⟨b,o,rfl,_,hc⟩:=hrX t (by rw [C1.out];omega)
    have hxb:=hoX.getD t
    generalize X.getD t 0=x at *
    have hbl:=blen_le x hxb
    go_enter Tryz.func83,Tryz.ntmps83
    go_wp2_with fail
    refine K1.out.mono ?_
    rintro e w' ⟨rfl,rfl⟩
    go_wp2_with (go_at_call 124;refine (len32_any x _ hxb).mono ?_;rintro e w' ⟨rfl,rfl⟩)
    go_ret
    exact ⟨ret1_eq (by rw [h1.out];omega),rfl⟩
def Makes (B N:Nat) (w:World) (e:Ending) (w':World):Prop:=∃ v,e=.returned v∧Own B w' v (limbs N)∧Below B w w'
theorem own_cut {B:Nat} {w:World} {v:Value} {xs:List Nat} (h:Own B w v xs):∃ ad cap,v=.slice ad xs.length cap∧xs.length≤cap∧Rd w ad xs∧Own B w (.slice ad (limbs (val xs)).length cap) (limbs (val xs)):=by
  obtain ⟨ho,⟨rfl,rfl⟩ | ⟨g,cap,r,rfl,hg,hb,hc,hm⟩⟩:=h
  · exact ⟨none,0,rfl,Nat.le_refl _,Rd.nil _ _,Own.nil _ _⟩
  · refine ⟨_,cap,rfl,by omega,hb.rd_all,?_⟩
    have:=hb.own hg ho (limbs (val xs)).length cap (limbs_len_le ho) hc hm
    rw [← cutLen_eq ho,cut_limbs ho,cutLen_eq ho] at this
    exact this
theorem cut_own (B:Nat) (v:Value) (xs:List Nat) (w:World) (h:Own B w v xs) (hm:xs.length≤1000000000) :
    Calls Tryz.prog 120 #[v] w fun e w'=>(∃ v',e=.returned v'∧Own B w v' (limbs (val xs)))∧w=w':=by
  obtain ⟨ad,cap,rfl,hc,hr,ho⟩:=own_cut h
  refine (cut_nat ad xs.length cap xs w rfl hc hm h.1 hr).mono ?_
  rintro e w' ⟨rfl,rfl⟩
  exact ⟨⟨_,rfl,ho⟩,rfl⟩
def TPRel (g n : Nat) (ys : List Nat) (f p : Nat) (r : List Value) (w : World) (c i : Value) (wr : World) : Prop :=
  ∃ (k cy : Nat) (zs : List Nat), k ≤ n ∧ i = .int .i64 k ∧ c = .int .u64 cy ∧ cy < B32 ∧ Win ys zs 0 n ∧ Okl zs ∧ (∀ j, k ≤ j → zs.getD (0 + j) 0 = ys.getD (0 + j) 0) ∧
    wv zs 0 k + B32 ^ k * cy = f * wv ys 0 k + p ∧ wr = put g zs r w
theorem tp_num {x f cy B a P W p s q:Nat} (h:a+P*cy=f*W+p) (e:s+B*q=x*f+cy):a+P*s+P*B*q=f*(W+P*x)+p:=by
  have h3:P*(s+B*q)=P*(x*f+cy):=by rw [e]
  grind
theorem tp_step {g n k cy f p x:Nat} {ys zs:List Nat} {r:List Value} {w:World} (hyl:ys.length=n) (hk:k<n) (hcy:cy<B32) (hf:f<B32) (hx:zs.getD (0+k) 0=x) (hxb:x<B32)
    (hb:Blk w g ys r) (hwin:Win ys zs 0 n) (hoz:Okl zs) (hs:∀ j,k≤j→zs.getD (0+j) 0=ys.getD (0+j) 0) (he:wv zs 0 k+B32 ^ k*cy=f*wv ys 0 k+p) :
    TPRel g n ys f p r w (.int .u64 (((x:Int)*(f:Int)+(cy:Int)) / 4294967296)) (.int .i64 ((k:Int)+1)) ((put g zs r w).setCell ⟨g,k,none⟩ (.int .u32 (((x:Int)*(f:Int)+(cy:Int)) % 4294967296))):=by
  have e1:((x:Int)*(f:Int)+(cy:Int)) / 4294967296=(((x*f+cy) / B32:Nat):Int):=by rw [B32_eq];omega
  have e2:((x:Int)*(f:Int)+(cy:Int)) % 4294967296=(((x*f+cy) % B32:Nat):Int):=by rw [B32_eq];omega
  rw [e1,e2,set_blk (put_blk _ _ hb.lt) _ _ (by rw [hwin.len];omega),put_put]
  have hbd:x*f≤18446744065119617025:=by
    rw [B32_eq] at hxb hf
    exact Nat.mul_le_mul (Nat.le_of_lt_succ hxb) (Nat.le_of_lt_succ hf)
  have hw:=hwin.set k ((x*f+cy) % B32) hk
  have hext:=win_ext (v:=(x*f+cy) % B32) hs
  have hset:=wv_set zs 0 k ((x*f+cy) % B32) (by rw [hwin.len];omega)
  rw [Nat.zero_add] at hw hext hset
  refine ⟨k+1,_,zs.set k ((x*f+cy) % B32),hk,rfl,rfl,?_,hw,hoz.set _ _ (Nat.mod_lt _ B32_pos),hext,?_,rfl⟩
  · rw [Nat.div_lt_iff_lt_mul B32_pos];rw [B32_eq] at *;omega
  · rw [hset,wv_succ ys 0 k (by omega),← hs k (Nat.le_refl _),hx,Nat.pow_succ]
    exact tp_num he (Nat.mod_add_div _ _)
theorem timesPlus_any (B:Nat) (v:Value) (xs:List Nat) (f p:Nat) (w:World) (hown:Own B w v xs) (hB:B≤w.heap.size) (hm:xs.length≤100000000) (hf:f<B32) (hp:p<B32) :
    Calls Tryz.prog 123 #[v,.int .u32 (f:Int),.int .u32 (p:Int)] w (Makes B (val xs*f+p) w):=by
  obtain ⟨hox,⟨rfl,rfl⟩ | ⟨g,cap,r,rfl,hg,hb,hc,hmx⟩⟩:=hown
  · have hp':=hp
    rw [B32_eq] at hp'
    by_cases h0:p=0
    · subst h0
      have K:=Lib.hid (cut_own B (.slice none 0 0) [] w (Own.nil _ _) (by simp))
      go_enter Tryz.func123,Tryz.ntmps123
      go_wp2
      refine wp_loop_rounds 1 ?_
      rw [rounds_succ]
      go_wp2_with fail
      refine K.out.mono ?_
      rintro e w' ⟨⟨v',rfl,hv'⟩,rfl⟩
      go_wp2
      go_ret
      exact ⟨v',rfl,by simpa [val] using hv',Below.refl _ _⟩
    · have hpos:(0:Int)<(p:Int):=by omega
      go_enter Tryz.func123,Tryz.ntmps123
      go_wp2
      refine wp_loop_rounds 1 ?_
      rw [rounds_succ]
      go_wp2_with (at_builtin;refine wpl_append rfl (.tmp 37) (.tmp 40) rfl B (.slice none 0 0) [] rfl (Own.nil _ _) ⟨w.heap.size,0,none⟩ 1 p rfl hp ?hcell (by simp) ?hbase ?_)
      case hcell=>simp
      case hbase=>simp;omega
      intro v1 w1 hown1 hbl1 _
      go_wp2_with fail
      refine (cut_own B v1 ([]++[p]) w1 hown1 (by simp)).mono ?_
      rintro e w' ⟨⟨v',rfl,hv'⟩,rfl⟩
      go_wp2
      go_ret
      exact ⟨v',rfl,by simpa [val] using hv',((Below.refl _ _).alloc hB _).trans hbl1⟩
  · have hp':=hp
    rw [B32_eq] at hp'
    generalize hn:xs.length=n at *
    have HN:=Lib.hid hn;clear hn
    have HC:=Lib.hid hc;clear hc
    go_enter Tryz.func123,Tryz.ntmps123
    go_wp2
    go_loopw [7,15] (fun c i wr=>TPRel g n xs f p r w c i wr) (fun _ i _=>n - (intOf i).toNat)
    case atStart=>exact ⟨0,p,xs,by omega,rfl,rfl,hp,Win.refl _ _ _,hox,fun _ _=>rfl,by simp [wv,val],(put_same hb).symm⟩
    case round =>
      obtain ⟨k,cy,zs,hk,rfl,rfl,hcy,hwin,hoz,hsame,heq,rfl⟩:=hrel
      have HS:=Lib.hid hsame;clear hsame
      have HE:=Lib.hid heq;clear heq
      have hbz:Blk (put g zs r w) g zs r:=put_blk _ _ hb.lt
      by_cases hlt:k<n
      · have hcz:=hbz.cell k (by rw [hwin.len,HN.out];exact hlt)
        have hfz:=hbz.free k
        have hzb:=hoz.getD k
        generalize hz:zs.getD k 0=z at *
        have R:=Lib.hid (tp_step (f:=f) HN.out hlt hcy hf (by rw [Nat.zero_add];exact hz) hzb hb hwin hoz HS.out HE.out)
        clear hz
        have hbd:=mul_bd hzb hf
        have hcy':=hcy
        have hf':=hf
        rw [B32_eq] at hzb hcy' hf'
        go_wp2
        go_roundw
        case rel=>exact R.out
        case measure=>simp [intOf];omega
      · obtain rfl:k=n:=by omega
        have hown:Own B (put g zs r w) (.slice (some ⟨g,0,none⟩) k cap) zs :=
          ⟨hoz,.inr ⟨g,cap,r,by rw [hwin.len,HN.out],hg,hbz,by rw [hwin.len,HN.out];exact HC.out,hmx⟩⟩
        have hv:val zs+B32 ^ k*cy=val xs*f+p:=by
          have h:=HE.out
          rw [(win_full HN.out hwin).2,wv_full HN.out,Nat.mul_comm f] at h
          exact h
        have HV:=Lib.hid hv;clear hv
        have hlz:=hwin.len
        rw [HN.out] at hlz
        have HZ:=Lib.hid hlz;clear hlz
        have hbl:Below B w (put g zs r w):=put_below (Below.refl _ _) hg _ _
        have hBp:B≤(put g zs r w).heap.size:=by rw [put_heap];exact hB
        clear hwin
        by_cases h0:cy=0
        · subst h0
          have hv:=HV.out
          rw [Nat.mul_zero,Nat.add_zero] at hv
          have HW:=Lib.hid hv;clear hv
          go_wp2_with fail
          refine (cut_own B _ zs _ hown (by rw [HZ.out];omega)).mono ?_
          rintro e w' ⟨⟨v',rfl,hv'⟩,rfl⟩
          go_wp2
          go_ret
          exact ⟨v',rfl,by rw [← HW.out];exact hv',hbl⟩
        · have hpos:(0:Int)<(cy:Int):=by omega
          have hcy':=hcy
          rw [B32_eq] at hcy'
          generalize hW:put g zs r w=W at *
          clear hW
          go_wp2_with (at_builtin;refine wpl_append rfl (.tmp 37) (.tmp 40) rfl B (.slice (some ⟨g,0,none⟩) k cap) zs rfl (hown.below ((Below.refl _ _).alloc (Nat.le_refl _) _)) ⟨W.heap.size,0,none⟩ 1 cy rfl hcy ?hcell (by rw [HZ.out];omega) ?hbase ?_)
          case hcell=>simp
          case hbase=>simp;omega
          intro v1 w1 hown1 hbl1 _
          go_wp2_with fail
          refine (cut_own B v1 (zs++[cy]) w1 hown1 (by simp [HZ.out];omega)).mono ?_
          rintro e w' ⟨⟨v',rfl,hv'⟩,rfl⟩
          go_wp2
          go_ret
          refine ⟨v',rfl,?_,hbl.trans (((Below.refl _ _).alloc hBp _).trans hbl1)⟩
          rw [← HV.out]
          rw [val_append,HZ.out] at hv'
          simpa [val] using hv'
def wd (h l:Nat):Nat:=h*B32+l
theorem wd_lt {h l:Nat} (hh:h<B32) (hl:l<B32):wd h l<18446744073709551616:=by
  unfold wd;rw [B32_eq] at *;omega
theorem wd_or {h l:Nat} (hh:h<B32) (hl:l<B32):bits BinOp.or IntKind.u64 ((h:Int)*4294967296) (l:Int)=((wd h l:Nat):Int):=by
  have e:(h:Int)*4294967296=((h*4294967296:Nat):Int):=by omega
  rw [B32_eq] at hh hl
  rw [e,u64_or_nat _ _ (by omega) (by omega),nat_join 32 _ _ (by omega) (by omega)]
  unfold wd;rw [B32_eq]
def SHRel (g n : Nat) (ys : List Nat) (d : Nat) (r : List Value) (w : World) (rm i : Value) (wr : World) : Prop :=
  ∃ (k q : Nat) (zs : List Nat), k ≤ n ∧ i = .int .i64 ((k : Int) - 1) ∧ rm = .int .u32 q ∧ q < d ∧ zs.length = n ∧ Okl zs ∧ zs.take k = ys.take k ∧
    val (zs.drop k) * d + q = val (ys.drop k) ∧ wr = put g zs r w
theorem val_drop_succ (l:List Nat) (j:Nat) (h:j<l.length):val (l.drop j)=l.getD j 0+B32*val (l.drop (j+1)):=by
  rw [List.drop_eq_getElem_cons h];simp [val,List.getD,h]
theorem sh_num {a q d x R s t B:Nat} (he:a*d+q=R) (hw:d*s+t=q*B+x):(s+B*a)*d+t=x+B*R:=by
  subst he;grind
theorem sh_step {g n d j q x:Nat} {ys zs:List Nat} {r:List Value} {w:World} (hl:zs.length=n) (hyl:ys.length=n) (hj:j+1≤n) (hd:d<B32) (hd0:0<d) (hq:q<d) (hoz:Okl zs) (ht:zs.take (j+1)=ys.take (j+1)) (hx:zs.getD j 0=x) (hxb:x<B32)
    (he:val (zs.drop (j+1))*d+q=val (ys.drop (j+1))) (hb:Blk w g ys r) :
    SHRel g n ys d r w (.int .u32 (((wd q x:Nat):Int) % (d:Int) % 4294967296)) (.int .i64 ((j:Int) - 1)) ((put g zs r w).setCell ⟨g,j,none⟩ (.int .u32 (IntKind.u64.wrap (((wd q x:Nat):Int) / (d:Int)) % 4294967296))):=by
  have hwl:=wd_lt (Nat.lt_trans hq hd) hxb
  have hql:wd q x / d<B32:=by
    rw [Nat.div_lt_iff_lt_mul hd0];unfold wd
    have:(q+1)*B32≤d*B32:=Nat.mul_le_mul_right _ hq
    rw [Nat.add_mul,Nat.one_mul] at this
    rw [Nat.mul_comm B32 d];omega
  have hml:wd q x % d<d:=Nat.mod_lt _ hd0
  have e1:((wd q x:Nat):Int) % (d:Int) % 4294967296=((wd q x % d:Nat):Int):=by
    rw [← Int.natCast_emod]
    generalize wd q x % d=Q at *
    rw [B32_eq] at hd;omega
  have e2:IntKind.u64.wrap (((wd q x:Nat):Int) / (d:Int)) % 4294967296=((wd q x / d:Nat):Int):=by
    rw [← Int.natCast_ediv]
    generalize wd q x / d=Q at *
    rw [B32_eq] at hql
    rw [IntWalk.u64_in _ (by omega)];omega
  rw [e1,e2,set_blk (put_blk _ _ hb.lt) _ _ (by omega),put_put]
  have hg:ys.getD j 0=x:=by
    have h1:(zs.take (j+1)).getD j 0=(ys.take (j+1)).getD j 0:=by rw [ht]
    simp only [List.getD,List.getElem?_take,Nat.lt_succ_self,if_true] at h1
    simp only [List.getD] at hx ⊢
    rw [← h1];exact hx
  refine ⟨j,_,zs.set j (wd q x / d),by omega,rfl,rfl,hml,by rw [List.length_set];exact hl,hoz.set _ _ hql,?_,?_,rfl⟩
  · rw [List.take_set_of_le (Nat.le_refl _)]
    have h1:(zs.take (j+1)).take j=(ys.take (j+1)).take j:=by rw [ht]
    simpa [List.take_take] using h1
  · rw [val_drop_succ _ j (by rw [List.length_set];omega),val_drop_succ ys j (by omega),hg,List.drop_set_of_lt (by omega)]
    have e3:(zs.set j (wd q x / d)).getD j 0=wd q x / d:=by simp [List.getD,show j<zs.length by omega]
    rw [e3]
    exact sh_num he (Nat.div_add_mod _ _)
def ShrinkPost (B N d:Nat) (row:Option Nat) (w:World) (e:Ending) (w':World):Prop :=
  ∃ v,e=.returned (.tuple #[v,.int .u32 ((N % d:Nat):Int)])∧Own B w' v (limbs (N / d))∧Below B w w'∧∀ k,some k ≠ row→w'.heap[k]? = w.heap[k]?
theorem shrink_any (B:Nat) (v:Value) (xs:List Nat) (d:Nat) (w:World) (hown:Own B w v xs) (hB:B≤w.heap.size) (hm:xs.length≤100000000) (hd:d<B32) (hd0:0<d) :
    Calls Tryz.prog 205 #[v,.int .u32 (d:Int)] w (ShrinkPost B (val xs) d v.ownBlock w):=by
  obtain ⟨hox,⟨rfl,rfl⟩ | ⟨g,cap,r,rfl,hg,hb,hc,hmx⟩⟩:=hown
  · have K:=Lib.hid (cut_own B (.slice none 0 0) [] w (Own.nil _ _) (by simp))
    go_enter Tryz.func205,Tryz.ntmps205
    go_wp2
    refine wp_loop_rounds 1 ?_
    rw [rounds_succ]
    go_wp2_with fail
    refine K.out.mono ?_
    rintro e w' ⟨⟨v',rfl,hv'⟩,rfl⟩
    go_wp2
    go_ret2
    refine ⟨v',?_,by simpa [val,limbs_zero] using hv',Below.refl _ _,fun _ _=>rfl⟩
    simp [val]
  · have HC:=Lib.hid hc;clear hc
    generalize hn:xs.length=n at *
    have HN:=Lib.hid hn;clear hn
    have hd':=hd
    rw [B32_eq] at hd'
    go_enter Tryz.func205,Tryz.ntmps205
    go_wp2
    go_loopw [5,6] (fun q i wr=>SHRel g n xs d r w q i wr) (fun _ i _=>(intOf i+1).toNat)
    case atStart=>exact ⟨n,0,xs,Nat.le_refl _,by go_num,rfl,hd0,HN.out,hox,rfl,by rw [List.drop_of_length_le (by rw [HN.out];exact Nat.le_refl _)];simp [val],(put_same hb).symm⟩
    case round =>
      obtain ⟨k,q,zs,hk,rfl,rfl,hq,hl,hoz,htk,he,rfl⟩:=hrel
      have HL:=Lib.hid hl;clear hl
      have HT:=Lib.hid htk;clear htk
      have HE:=Lib.hid he;clear he
      have hbz:Blk (put g zs r w) g zs r:=put_blk _ _ hb.lt
      rcases k with _ | j
      · have hown:Own B (put g zs r w) (.slice (some ⟨g,0,none⟩) n cap) zs :=
          ⟨hoz,.inr ⟨g,cap,r,by rw [HL.out],hg,hbz,by rw [HL.out];exact HC.out,hmx⟩⟩
        have hv:=HE.out
        simp only [List.drop_zero] at hv
        have hdv:val xs / d=val zs:=by
          rw [← hv,Nat.mul_comm,Nat.mul_add_div hd0,Nat.div_eq_of_lt hq,Nat.add_zero]
        have hmd:val xs % d=q:=by
          rw [← hv,Nat.mul_comm,Nat.mul_add_mod,Nat.mod_eq_of_lt hq]
        have HD:=Lib.hid hdv;clear hdv
        have HM:=Lib.hid hmd;clear hmd hv
        have hbl:Below B w (put g zs r w):=put_below (Below.refl _ _) hg _ _
        have hoth:∀ k,some k ≠ (Value.slice (some ⟨g,0,none⟩) n cap).ownBlock→(put g zs r w).heap[k]? = w.heap[k]?:=fun k hk=>put_other _ _ _ _ _ (fun e=>hk (by rw [e];rfl))
        have HOTH:=Lib.hid hoth;clear hoth
        rw [show (((0:Nat):Int) - 1) = -1 from rfl]
        generalize put g zs r w=W at *
        go_wp2_with fail
        refine (cut_own B _ zs W hown (by rw [HL.out];exact Nat.le_trans hm (by decide))).mono ?_
        rintro e w' ⟨⟨v',rfl,hv'⟩,rfl⟩
        go_wp2
        go_ret2
        exact ⟨v',by rw [HM.out];rfl,by rw [HD.out];exact hv',hbl,HOTH.out⟩
      · rw [show (((j+1:Nat):Int) - 1)=(j:Int) by omega]
        have hcz:=hbz.cell j (by rw [HL.out];omega)
        have hfz:=hbz.free j
        have hzb:=hoz.getD j
        generalize hx:zs.getD j 0=x at *
        have R:=Lib.hid (sh_step (g:=g) (r:=r) (w:=w) HL.out HN.out hk hd hd0 hq hoz HT.out hx hzb HE.out hb)
        clear hx
        have hor:=wd_or (Nat.lt_trans hq hd) hzb
        have hq':q<4294967296:=by omega
        have hwl:=wd_lt (Nat.lt_trans hq hd) hzb
        rw [B32_eq] at hzb
        go_wp2
        go_roundw
        case rel=>exact R.out
        case measure=>simp [intOf]
end Go.Proofs.YtnacbakcalcgaaaGreatDoor
