/- Texts of the claim. -/
import Derived.Test.YtnacbakcalcgaaaGreatDoorIa
import Derived.Deep.LoopGhost
set_option linter.unusedVariables false
set_option linter.unusedSimpArgs false
set_option maxHeartbeats 4000000
set_option maxRecDepth 100000
namespace Go.Proofs.YtnacbakcalcgaaaGreatDoor
open Go.RowKit
open Go.RowKit
open Go.RowKit
theorem val_take_add (l:List Nat) (k m:Nat) (h:k+m≤l.length):val (l.take (k+m))=val (l.take k)+B32 ^ k*wv l k m:=by
  rw [List.take_add,val_append,List.length_take,Nat.min_eq_left (by omega)];rfl
theorem mul_num {A x P Y T:Nat} (h:T=A*Y):T+P*(x*Y)=(A+P*x)*Y:=by subst h;grind
def MulRel (g c c':Nat) (X Y:List Nat) (w1:World) (i:Value) (wr:World):Prop :=
  ∃ (k:Nat) (zs:List Nat),k≤c∧i=.int .i64 k∧zs.length=c+c'∧Okl zs∧val (zs.take (k+c'))=val (X.take k)*val Y∧wr=put g zs [] w1
theorem mul_step {g c c' k x:Nat} {X Y zs zs':List Nat} {w1:World} (hX:X.length=c) (hk:k<c) (hx:X.getD k 0=x) (hl:zs.length=c+c') (hoz:Okl zs') (hw:Win zs zs' k (c'+1))
    (h:wv zs' k (c'+1)=wv zs k c'+x*val Y) (he:val (zs.take (k+c'))=val (X.take k)*val Y):MulRel g c c' X Y w1 (.int .i64 ((k:Int)+1)) (put g zs' [] w1):=by
  refine ⟨k+1,zs',hk,rfl,by rw [hw.len,hl],hoz,?_,rfl⟩
  rw [show k+1+c'=k+(c'+1) by omega,val_take_add zs' k (c'+1) (by rw [hw.len];omega),h,hw.lo,Nat.mul_add,← Nat.add_assoc,← val_take_add zs k c' (by omega),val_take_succ X k (by omega),hx]
  exact mul_num he
theorem mul_any (ad:Option Addr) (n cap:Nat) (xs:List Nat) (ad':Option Addr) (n' cap':Nat) (ys:List Nat) (w:World) (hn:xs.length=n) (hcap:n≤cap) (hm:n≤100000000) (ho:Okl xs) (hr:Rd w ad xs)
    (hn':ys.length=n') (hcap':n'≤cap') (hm':n'≤100000000) (ho':Okl ys) (hr':Rd w ad' ys) :
    Calls Tryz.prog 81 #[.slice ad n cap,.slice ad' n' cap'] w (Gives (val xs*val ys) w):=by
  have K1:=Lib.hid (cut_nat ad n cap xs w hn hcap (by omega) ho hr)
  have K2:=Lib.hid (cut_nat ad' n' cap' ys w hn' hcap' (by omega) ho' hr')
  have hrX:=rd_limbs ho hr
  have hrY:=rd_limbs ho' hr'
  have hlX:=limbs_len_le ho
  have hlY:=limbs_len_le ho'
  rw [hn] at hlX
  rw [hn'] at hlY
  generalize val xs=a at *
  generalize val ys=b at *
  have hoX:=limbs_ok a
  have hoY:=limbs_ok b
  have hvX:=val_limbs a
  have hvY:=val_limbs b
  generalize limbs a=X at *
  generalize limbs b=Y at *
  generalize hc:X.length=c at *
  generalize hc':Y.length=c' at *
  have hcc:c≤100000000:=by omega
  have hcc':c'≤100000000:=by omega
  have hcp:c'≤cap':=by omega
  clear hn hn' ho ho' hr hr' hlX hlY hm hm' hcap hcap'
  have C1:=Lib.hid hc;clear hc
  have C2:=Lib.hid hc';clear hc'
  have V1:=Lib.hid hvX;clear hvX
  have V2:=Lib.hid hvY;clear hvY
  go_enter Tryz.func81,Tryz.ntmps81
  go_wp2_with fail
  refine K1.out.mono ?_
  rintro e w' ⟨rfl,rfl⟩
  go_wp2_with fail
  refine K2.out.mono ?_
  rintro e w' ⟨rfl,rfl⟩
  go_wp2_with (at_make;refine wpl_make _ rfl _ _ rfl _ _ _ _ (c+c') rfl rfl (by omega) (by omega) (by omega) ?_;intro w1 hB1 hb1)
  have hg1:=hrY.apart (Nat.le_refl w.heap.size)
  have hg0:=hrX.apart (Nat.le_refl w.heap.size)
  go_loopw [20] (fun i wr=>MulRel w.heap.size c c' X Y w1 i wr) (fun i _=>c - (intOf i).toNat)
  case atStart=>exact ⟨0,List.replicate (c+c') 0,by omega,rfl,List.length_replicate,Okl.replicate _,by simp [val,List.take_replicate,val_replicate],(put_same hB1).symm⟩
  case round =>
    obtain ⟨k,zs,hk,rfl,hl,hoz,he,rfl⟩:=hrel
    have HE:=Lib.hid he;clear he
    have HL:=Lib.hid hl;clear hl
    have hbz:Blk (put w.heap.size zs [] w1) w.heap.size zs []:=put_blk _ _ hB1.lt
    by_cases hlt:k<c
    · obtain ⟨b',ox,hadd,_,hc⟩:=hrX k (by rw [C1.out];exact hlt)
      subst hadd
      have hne:=hg0 ⟨b',ox,none⟩ rfl (by rw [C1.out];omega)
      have hb':b'<w.heap.size:=by assumption
      have hcx:(put w.heap.size zs [] w1).cell? ⟨b',ox+k,none⟩=some (.int .u32 ((X.getD k 0:Nat):Int)) :=
        (put_cell w.heap.size zs [] w1 ⟨b',ox+k,none⟩ hne).trans ((hb1.cell (p:=⟨b',ox+k,none⟩) hb').trans hc)
      have hxb:=hoX.getD k
      generalize hx:X.getD k 0=x at *
      have HX:=Lib.hid hx;clear hx
      have hrY2:Rd (put w.heap.size zs [] w1) ad' Y:=(hrY.below hb1).put hg1 _ _
      clear hc
      go_wp2_with fail
      rw [show k+c'+1 - k=c'+1 by omega]
      refine (addTimes_any w.heap.size k c' (c+c' - k) ad' cap' zs Y [] x _ C2.out (by omega) (by omega) (by rw [HL.out];omega) hoz hoY hxb hbz hrY2 hg1).mono ?_
      rintro e w' ⟨rfl,zt,hwin,hozt,hval,rfl⟩
      rw [put_put]
      have R:=Lib.hid (mul_step (g:=w.heap.size) (w1:=w1) C1.out hlt HX.out HL.out hozt hwin hval HE.out)
      clear hwin hval
      go_wp2
      go_roundw
      case rel=>exact R.out
      case measure=>simp [intOf];omega
    · obtain rfl:k=c:=by omega
      have hv:val zs=a*b:=by
        have h:=HE.out
        rw [List.take_of_length_le (by rw [HL.out];exact Nat.le_refl _),List.take_of_length_le (by rw [C1.out];exact Nat.le_refl _),V1.out,V2.out] at h
        exact h
      have HV:=Lib.hid hv;clear hv
      go_wp2_with fail
      refine (cut_nat _ (k+c') (k+c') zs _ HL.out (Nat.le_refl _) (by omega) hoz hbz.rd_all).mono ?_
      rintro e w' ⟨rfl,rfl⟩
      go_wp2
      go_ret
      rw [← HV.out]
      exact gives_cut hbz hoz (by rw [HL.out];rfl) (by unfold maxLen;omega) (Nat.le_refl _) (put_below hb1 (Nat.le_refl _) _ _)
def bitsN (N:Nat):Nat:=match limbs N with
  | []=>0
  | x::l=>32*l.length+blen ((x::l).getD l.length 0)
theorem bitsN_zero {N:Nat} (h:limbs N=[]):bitsN N=0:=by unfold bitsN;rw [h]
theorem bitsN_top {N t : Nat} (h : (limbs N).length = t + 1) : bitsN N = 32 * t + blen ((limbs N).getD t 0) := by
  unfold bitsN
  match hl : limbs N with
  | [] => rw [hl] at h; simp at h
  | x :: l => rw [hl] at h; simp only [List.length_cons] at h; obtain rfl : t = l.length := by omega
              rfl
theorem bits_any (ad:Option Addr) (n cap:Nat) (xs:List Nat) (w:World) (hn:xs.length=n) (hcap:n≤cap) (hm:n≤100000000) (ho:Okl xs) (hr:Rd w ad xs) :
    Calls Tryz.prog 83 #[.slice ad n cap] w fun e w'=>e=.returned (.int .i64 (bitsN (val xs):Int))∧w=w':=by
  have K1:=Lib.hid (cut_nat ad n cap xs w hn hcap (by omega) ho hr)
  have hrX:=rd_limbs ho hr
  have hlX:=limbs_len_le ho
  rw [hn] at hlX
  generalize val xs=a at *
  have hoX:=limbs_ok a
  have H0:=@bitsN_zero a
  have H1:=@bitsN_top a
  generalize limbs a=X at *
  generalize bitsN a=N at *
  generalize hc:X.length=c at *
  have C1:=Lib.hid hc;clear hc
  clear hn ho hr
  rcases c with _ | t
  · have h0:=H0 (List.eq_nil_of_length_eq_zero C1.out)
    subst h0
    clear H0 H1
    go_enter Tryz.func83,Tryz.ntmps83
    go_wp2_with fail
    refine K1.out.mono ?_
    rintro e w' ⟨rfl,rfl⟩
    go_wp2
    go_ret
    exact ⟨rfl,rfl⟩
  · have h1:=Lib.hid (@H1 t rfl)
    clear H0 H1
    obtain ⟨b,o,rfl,_,hc⟩:=hrX t (by rw [C1.out];omega)
    have hxb:=hoX.getD t
    generalize X.getD t 0=x at *
    have hbl:=blen_le x hxb
    go_enter Tryz.func83,Tryz.ntmps83
    go_wp2_with fail
    refine K1.out.mono ?_
    rintro e w' ⟨rfl,rfl⟩
    go_wp2_with (go_at_call 124;refine (len32_any x _ hxb).mono ?_;rintro e w' ⟨rfl,rfl⟩)
    go_ret
    exact ⟨ret1_eq (by rw [h1.out];omega),rfl⟩
def Makes (B N:Nat) (w:World) (e:Ending) (w':World):Prop:=∃ v,e=.returned v∧Own B w' v (limbs N)∧Below B w w'
theorem own_cut {B:Nat} {w:World} {v:Value} {xs:List Nat} (h:Own B w v xs):∃ ad cap,v=.slice ad xs.length cap∧xs.length≤cap∧Rd w ad xs∧Own B w (.slice ad (limbs (val xs)).length cap) (limbs (val xs)):=by
  obtain ⟨ho,⟨rfl,rfl⟩ | ⟨g,cap,r,rfl,hg,hb,hc,hm⟩⟩:=h
  · exact ⟨none,0,rfl,Nat.le_refl _,Rd.nil _ _,Own.nil _ _⟩
  · refine ⟨_,cap,rfl,by omega,hb.rd_all,?_⟩
    have:=hb.own hg ho (limbs (val xs)).length cap (limbs_len_le ho) hc hm
    rw [← cutLen_eq ho,cut_limbs ho,cutLen_eq ho] at this
    exact this
theorem cut_own (B:Nat) (v:Value) (xs:List Nat) (w:World) (h:Own B w v xs) (hm:xs.length≤1000000000) :
    Calls Tryz.prog 120 #[v] w fun e w'=>(∃ v',e=.returned v'∧Own B w v' (limbs (val xs)))∧w=w':=by
  obtain ⟨ad,cap,rfl,hc,hr,ho⟩:=own_cut h
  refine (cut_nat ad xs.length cap xs w rfl hc hm h.1 hr).mono ?_
  rintro e w' ⟨rfl,rfl⟩
  exact ⟨⟨_,rfl,ho⟩,rfl⟩
def TPRel (g n : Nat) (ys : List Nat) (f p : Nat) (r : List Value) (w : World) (c i : Value) (wr : World) : Prop :=
  ∃ (k cy : Nat) (zs : List Nat), k ≤ n ∧ i = .int .i64 k ∧ c = .int .u64 cy ∧ cy < B32 ∧ Win ys zs 0 n ∧ Okl zs ∧ (∀ j, k ≤ j → zs.getD (0 + j) 0 = ys.getD (0 + j) 0) ∧
    wv zs 0 k + B32 ^ k * cy = f * wv ys 0 k + p ∧ wr = put g zs r w
theorem tp_num {x f cy B a P W p s q:Nat} (h:a+P*cy=f*W+p) (e:s+B*q=x*f+cy):a+P*s+P*B*q=f*(W+P*x)+p:=by
  have h3:P*(s+B*q)=P*(x*f+cy):=by rw [e]
  grind
theorem tp_step {g n k cy f p x:Nat} {ys zs:List Nat} {r:List Value} {w:World} (hyl:ys.length=n) (hk:k<n) (hcy:cy<B32) (hf:f<B32) (hx:zs.getD (0+k) 0=x) (hxb:x<B32)
    (hb:Blk w g ys r) (hwin:Win ys zs 0 n) (hoz:Okl zs) (hs:∀ j,k≤j→zs.getD (0+j) 0=ys.getD (0+j) 0) (he:wv zs 0 k+B32 ^ k*cy=f*wv ys 0 k+p) :
    TPRel g n ys f p r w (.int .u64 (((x:Int)*(f:Int)+(cy:Int)) / 4294967296)) (.int .i64 ((k:Int)+1)) ((put g zs r w).setCell ⟨g,k,none⟩ (.int .u32 (((x:Int)*(f:Int)+(cy:Int)) % 4294967296))):=by
  have e1:((x:Int)*(f:Int)+(cy:Int)) / 4294967296=(((x*f+cy) / B32:Nat):Int):=by rw [B32_eq];omega
  have e2:((x:Int)*(f:Int)+(cy:Int)) % 4294967296=(((x*f+cy) % B32:Nat):Int):=by rw [B32_eq];omega
  rw [e1,e2,set_blk (put_blk _ _ hb.lt) _ _ (by rw [hwin.len];omega),put_put]
  have hbd:x*f≤18446744065119617025:=by
    rw [B32_eq] at hxb hf
    exact Nat.mul_le_mul (Nat.le_of_lt_succ hxb) (Nat.le_of_lt_succ hf)
  have hw:=hwin.set k ((x*f+cy) % B32) hk
  have hext:=win_ext (v:=(x*f+cy) % B32) hs
  have hset:=wv_set zs 0 k ((x*f+cy) % B32) (by rw [hwin.len];omega)
  rw [Nat.zero_add] at hw hext hset
  refine ⟨k+1,_,zs.set k ((x*f+cy) % B32),hk,rfl,rfl,?_,hw,hoz.set _ _ (Nat.mod_lt _ B32_pos),hext,?_,rfl⟩
  · rw [Nat.div_lt_iff_lt_mul B32_pos];rw [B32_eq] at *;omega
  · rw [hset,wv_succ ys 0 k (by omega),← hs k (Nat.le_refl _),hx,Nat.pow_succ]
    exact tp_num he (Nat.mod_add_div _ _)
theorem timesPlus_any (B:Nat) (v:Value) (xs:List Nat) (f p:Nat) (w:World) (hown:Own B w v xs) (hB:B≤w.heap.size) (hm:xs.length≤100000000) (hf:f<B32) (hp:p<B32) :
    Calls Tryz.prog 123 #[v,.int .u32 (f:Int),.int .u32 (p:Int)] w (Makes B (val xs*f+p) w):=by
  obtain ⟨hox,⟨rfl,rfl⟩ | ⟨g,cap,r,rfl,hg,hb,hc,hmx⟩⟩:=hown
  · have hp':=hp
    rw [B32_eq] at hp'
    by_cases h0:p=0
    · subst h0
      have K:=Lib.hid (cut_own B (.slice none 0 0) [] w (Own.nil _ _) (by simp))
      go_enter Tryz.func123,Tryz.ntmps123
      go_wp2
      refine wp_loop_rounds 1 ?_
      rw [rounds_succ]
      go_wp2_with fail
      refine K.out.mono ?_
      rintro e w' ⟨⟨v',rfl,hv'⟩,rfl⟩
      go_wp2
      go_ret
      exact ⟨v',rfl,by simpa [val] using hv',Below.refl _ _⟩
    · have hpos:(0:Int)<(p:Int):=by omega
      go_enter Tryz.func123,Tryz.ntmps123
      go_wp2
      refine wp_loop_rounds 1 ?_
      rw [rounds_succ]
      go_wp2_with (at_builtin;refine wpl_append rfl (.tmp 37) (.tmp 40) rfl B (.slice none 0 0) [] rfl (Own.nil _ _) ⟨w.heap.size,0,none⟩ 1 p rfl hp ?hcell (by simp) ?hbase ?_)
      case hcell=>simp
      case hbase=>simp;omega
      intro v1 w1 hown1 hbl1 _
      go_wp2_with fail
      refine (cut_own B v1 ([]++[p]) w1 hown1 (by simp)).mono ?_
      rintro e w' ⟨⟨v',rfl,hv'⟩,rfl⟩
      go_wp2
      go_ret
      exact ⟨v',rfl,by simpa [val] using hv',((Below.refl _ _).alloc hB _).trans hbl1⟩
  · have hp':=hp
    rw [B32_eq] at hp'
    generalize hn:xs.length=n at *
    have HN:=Lib.hid hn;clear hn
    have HC:=Lib.hid hc;clear hc
    go_enter Tryz.func123,Tryz.ntmps123
    go_wp2
    go_loopw [7,15] (fun c i wr=>TPRel g n xs f p r w c i wr) (fun _ i _=>n - (intOf i).toNat)
    case atStart=>exact ⟨0,p,xs,by omega,rfl,rfl,hp,Win.refl _ _ _,hox,fun _ _=>rfl,by simp [wv,val],(put_same hb).symm⟩
    case round =>
      obtain ⟨k,cy,zs,hk,rfl,rfl,hcy,hwin,hoz,hsame,heq,rfl⟩:=hrel
      have HS:=Lib.hid hsame;clear hsame
      have HE:=Lib.hid heq;clear heq
      have hbz:Blk (put g zs r w) g zs r:=put_blk _ _ hb.lt
      by_cases hlt:k<n
      · have hcz:=hbz.cell k (by rw [hwin.len,HN.out];exact hlt)
        have hfz:=hbz.free k
        have hzb:=hoz.getD k
        generalize hz:zs.getD k 0=z at *
        have R:=Lib.hid (tp_step (f:=f) HN.out hlt hcy hf (by rw [Nat.zero_add];exact hz) hzb hb hwin hoz HS.out HE.out)
        clear hz
        have hbd:=mul_bd hzb hf
        have hcy':=hcy
        have hf':=hf
        rw [B32_eq] at hzb hcy' hf'
        go_wp2
        go_roundw
        case rel=>exact R.out
        case measure=>simp [intOf];omega
      · obtain rfl:k=n:=by omega
        have hown:Own B (put g zs r w) (.slice (some ⟨g,0,none⟩) k cap) zs :=
          ⟨hoz,.inr ⟨g,cap,r,by rw [hwin.len,HN.out],hg,hbz,by rw [hwin.len,HN.out];exact HC.out,hmx⟩⟩
        have hv:val zs+B32 ^ k*cy=val xs*f+p:=by
          have h:=HE.out
          rw [(win_full HN.out hwin).2,wv_full HN.out,Nat.mul_comm f] at h
          exact h
        have HV:=Lib.hid hv;clear hv
        have hlz:=hwin.len
        rw [HN.out] at hlz
        have HZ:=Lib.hid hlz;clear hlz
        have hbl:Below B w (put g zs r w):=put_below (Below.refl _ _) hg _ _
        have hBp:B≤(put g zs r w).heap.size:=by rw [put_heap];exact hB
        clear hwin
        by_cases h0:cy=0
        · subst h0
          have hv:=HV.out
          rw [Nat.mul_zero,Nat.add_zero] at hv
          have HW:=Lib.hid hv;clear hv
          go_wp2_with fail
          refine (cut_own B _ zs _ hown (by rw [HZ.out];omega)).mono ?_
          rintro e w' ⟨⟨v',rfl,hv'⟩,rfl⟩
          go_wp2
          go_ret
          exact ⟨v',rfl,by rw [← HW.out];exact hv',hbl⟩
        · have hpos:(0:Int)<(cy:Int):=by omega
          have hcy':=hcy
          rw [B32_eq] at hcy'
          generalize hW:put g zs r w=W at *
          clear hW
          go_wp2_with (at_builtin;refine wpl_append rfl (.tmp 37) (.tmp 40) rfl B (.slice (some ⟨g,0,none⟩) k cap) zs rfl (hown.below ((Below.refl _ _).alloc (Nat.le_refl _) _)) ⟨W.heap.size,0,none⟩ 1 cy rfl hcy ?hcell (by rw [HZ.out];omega) ?hbase ?_)
          case hcell=>simp
          case hbase=>simp;omega
          intro v1 w1 hown1 hbl1 _
          go_wp2_with fail
          refine (cut_own B v1 (zs++[cy]) w1 hown1 (by simp [HZ.out];omega)).mono ?_
          rintro e w' ⟨⟨v',rfl,hv'⟩,rfl⟩
          go_wp2
          go_ret
          refine ⟨v',rfl,?_,hbl.trans (((Below.refl _ _).alloc hBp _).trans hbl1)⟩
          rw [← HV.out]
          rw [val_append,HZ.out] at hv'
          simpa [val] using hv'
def wd (h l:Nat):Nat:=h*B32+l
theorem wd_lt {h l:Nat} (hh:h<B32) (hl:l<B32):wd h l<18446744073709551616:=by
  unfold wd;rw [B32_eq] at *;omega
theorem wd_or {h l:Nat} (hh:h<B32) (hl:l<B32):bits BinOp.or IntKind.u64 ((h:Int)*4294967296) (l:Int)=((wd h l:Nat):Int):=by
  have e:(h:Int)*4294967296=((h*4294967296:Nat):Int):=by omega
  rw [B32_eq] at hh hl
  rw [e,u64_or_nat _ _ (by omega) (by omega),nat_join 32 _ _ (by omega) (by omega)]
  unfold wd;rw [B32_eq]
def SHRel (g n : Nat) (ys : List Nat) (d : Nat) (r : List Value) (w : World) (rm i : Value) (wr : World) : Prop :=
  ∃ (k q : Nat) (zs : List Nat), k ≤ n ∧ i = .int .i64 ((k : Int) - 1) ∧ rm = .int .u32 q ∧ q < d ∧ zs.length = n ∧ Okl zs ∧ zs.take k = ys.take k ∧
    val (zs.drop k) * d + q = val (ys.drop k) ∧ wr = put g zs r w
theorem val_drop_succ (l:List Nat) (j:Nat) (h:j<l.length):val (l.drop j)=l.getD j 0+B32*val (l.drop (j+1)):=by
  rw [List.drop_eq_getElem_cons h];simp [val,List.getD,h]
theorem sh_num {a q d x R s t B:Nat} (he:a*d+q=R) (hw:d*s+t=q*B+x):(s+B*a)*d+t=x+B*R:=by
  subst he;grind
theorem sh_step {g n d j q x:Nat} {ys zs:List Nat} {r:List Value} {w:World} (hl:zs.length=n) (hyl:ys.length=n) (hj:j+1≤n) (hd:d<B32) (hd0:0<d) (hq:q<d) (hoz:Okl zs) (ht:zs.take (j+1)=ys.take (j+1)) (hx:zs.getD j 0=x) (hxb:x<B32)
    (he:val (zs.drop (j+1))*d+q=val (ys.drop (j+1))) (hb:Blk w g ys r) :
    SHRel g n ys d r w (.int .u32 (((wd q x:Nat):Int) % (d:Int) % 4294967296)) (.int .i64 ((j:Int) - 1)) ((put g zs r w).setCell ⟨g,j,none⟩ (.int .u32 (IntKind.u64.wrap (((wd q x:Nat):Int) / (d:Int)) % 4294967296))):=by
  have hwl:=wd_lt (Nat.lt_trans hq hd) hxb
  have hql:wd q x / d<B32:=by
    rw [Nat.div_lt_iff_lt_mul hd0];unfold wd
    have:(q+1)*B32≤d*B32:=Nat.mul_le_mul_right _ hq
    rw [Nat.add_mul,Nat.one_mul] at this
    rw [Nat.mul_comm B32 d];omega
  have hml:wd q x % d<d:=Nat.mod_lt _ hd0
  have e1:((wd q x:Nat):Int) % (d:Int) % 4294967296=((wd q x % d:Nat):Int):=by
    rw [← Int.natCast_emod]
    generalize wd q x % d=Q at *
    rw [B32_eq] at hd;omega
  have e2:IntKind.u64.wrap (((wd q x:Nat):Int) / (d:Int)) % 4294967296=((wd q x / d:Nat):Int):=by
    rw [← Int.natCast_ediv]
    generalize wd q x / d=Q at *
    rw [B32_eq] at hql
    rw [IntWalk.u64_in _ (by omega)];omega
  rw [e1,e2,set_blk (put_blk _ _ hb.lt) _ _ (by omega),put_put]
  have hg:ys.getD j 0=x:=by
    have h1:(zs.take (j+1)).getD j 0=(ys.take (j+1)).getD j 0:=by rw [ht]
    simp only [List.getD,List.getElem?_take,Nat.lt_succ_self,if_true] at h1
    simp only [List.getD] at hx ⊢
    rw [← h1];exact hx
  refine ⟨j,_,zs.set j (wd q x / d),by omega,rfl,rfl,hml,by rw [List.length_set];exact hl,hoz.set _ _ hql,?_,?_,rfl⟩
  · rw [List.take_set_of_le (Nat.le_refl _)]
    have h1:(zs.take (j+1)).take j=(ys.take (j+1)).take j:=by rw [ht]
    simpa [List.take_take] using h1
  · rw [val_drop_succ _ j (by rw [List.length_set];omega),val_drop_succ ys j (by omega),hg,List.drop_set_of_lt (by omega)]
    have e3:(zs.set j (wd q x / d)).getD j 0=wd q x / d:=by simp [List.getD,show j<zs.length by omega]
    rw [e3]
    exact sh_num he (Nat.div_add_mod _ _)
def ShrinkPost (B N d:Nat) (row:Option Nat) (w:World) (e:Ending) (w':World):Prop :=
  ∃ v,e=.returned (.tuple #[v,.int .u32 ((N % d:Nat):Int)])∧Own B w' v (limbs (N / d))∧Below B w w'∧∀ k,some k ≠ row→w'.heap[k]? = w.heap[k]?
theorem shrink_any (B:Nat) (v:Value) (xs:List Nat) (d:Nat) (w:World) (hown:Own B w v xs) (hB:B≤w.heap.size) (hm:xs.length≤100000000) (hd:d<B32) (hd0:0<d) :
    Calls Tryz.prog 205 #[v,.int .u32 (d:Int)] w (ShrinkPost B (val xs) d v.ownBlock w):=by
  obtain ⟨hox,⟨rfl,rfl⟩ | ⟨g,cap,r,rfl,hg,hb,hc,hmx⟩⟩:=hown
  · have K:=Lib.hid (cut_own B (.slice none 0 0) [] w (Own.nil _ _) (by simp))
    go_enter Tryz.func205,Tryz.ntmps205
    go_wp2
    refine wp_loop_rounds 1 ?_
    rw [rounds_succ]
    go_wp2_with fail
    refine K.out.mono ?_
    rintro e w' ⟨⟨v',rfl,hv'⟩,rfl⟩
    go_wp2
    go_ret2
    refine ⟨v',?_,by simpa [val,limbs_zero] using hv',Below.refl _ _,fun _ _=>rfl⟩
    simp [val]
  · have HC:=Lib.hid hc;clear hc
    generalize hn:xs.length=n at *
    have HN:=Lib.hid hn;clear hn
    have hd':=hd
    rw [B32_eq] at hd'
    go_enter Tryz.func205,Tryz.ntmps205
    go_wp2
    go_loopw [5,6] (fun q i wr=>SHRel g n xs d r w q i wr) (fun _ i _=>(intOf i+1).toNat)
    case atStart=>exact ⟨n,0,xs,Nat.le_refl _,by go_num,rfl,hd0,HN.out,hox,rfl,by rw [List.drop_of_length_le (by rw [HN.out];exact Nat.le_refl _)];simp [val],(put_same hb).symm⟩
    case round =>
      obtain ⟨k,q,zs,hk,rfl,rfl,hq,hl,hoz,htk,he,rfl⟩:=hrel
      have HL:=Lib.hid hl;clear hl
      have HT:=Lib.hid htk;clear htk
      have HE:=Lib.hid he;clear he
      have hbz:Blk (put g zs r w) g zs r:=put_blk _ _ hb.lt
      rcases k with _ | j
      · have hown:Own B (put g zs r w) (.slice (some ⟨g,0,none⟩) n cap) zs :=
          ⟨hoz,.inr ⟨g,cap,r,by rw [HL.out],hg,hbz,by rw [HL.out];exact HC.out,hmx⟩⟩
        have hv:=HE.out
        simp only [List.drop_zero] at hv
        have hdv:val xs / d=val zs:=by
          rw [← hv,Nat.mul_comm,Nat.mul_add_div hd0,Nat.div_eq_of_lt hq,Nat.add_zero]
        have hmd:val xs % d=q:=by
          rw [← hv,Nat.mul_comm,Nat.mul_add_mod,Nat.mod_eq_of_lt hq]
        have HD:=Lib.hid hdv;clear hdv
        have HM:=Lib.hid hmd;clear hmd hv
        have hbl:Below B w (put g zs r w):=put_below (Below.refl _ _) hg _ _
        have hoth:∀ k,some k ≠ (Value.slice (some ⟨g,0,none⟩) n cap).ownBlock→(put g zs r w).heap[k]? = w.heap[k]?:=fun k hk=>put_other _ _ _ _ _ (fun e=>hk (by rw [e];rfl))
        have HOTH:=Lib.hid hoth;clear hoth
        rw [show (((0:Nat):Int) - 1) = -1 from rfl]
        generalize put g zs r w=W at *
        go_wp2_with fail
        refine (cut_own B _ zs W hown (by rw [HL.out];exact Nat.le_trans hm (by decide))).mono ?_
        rintro e w' ⟨⟨v',rfl,hv'⟩,rfl⟩
        go_wp2
        go_ret2
        exact ⟨v',by rw [HM.out];rfl,by rw [HD.out];exact hv',hbl,HOTH.out⟩
      · rw [show (((j+1:Nat):Int) - 1)=(j:Int) by omega]
        have hcz:=hbz.cell j (by rw [HL.out];omega)
        have hfz:=hbz.free j
        have hzb:=hoz.getD j
        generalize hx:zs.getD j 0=x at *
        have R:=Lib.hid (sh_step (g:=g) (r:=r) (w:=w) HL.out HN.out hk hd hd0 hq hoz HT.out hx hzb HE.out hb)
        clear hx
        have hor:=wd_or (Nat.lt_trans hq hd) hzb
        have hq':q<4294967296:=by omega
        have hwl:=wd_lt (Nat.lt_trans hq hd) hzb
        rw [B32_eq] at hzb
        go_wp2
        go_roundw
        case rel=>exact R.out
        case measure=>simp [intOf]
end Go.Proofs.YtnacbakcalcgaaaGreatDoor
namespace Go.Proofs.YtnacbakcalcgaaaGreatDoor
open Go.RowKit
open Go.RowKit
open Go.RowKit
open Go.RowKit
def shl (x s:Nat):Nat:=x*2 ^ s
theorem pow_le_31 {s:Nat} (hs:s<32):2 ^ s≤2147483648:=by
  have:2 ^ s≤2 ^ 31:=Nat.pow_le_pow_right (by decide) (by omega)
  exact this
theorem shl_lt {x s:Nat} (hx:x<B32) (hs:s<32):shl x s<9223372036854775808:=by
  unfold shl
  have h1:=pow_le_31 hs
  rw [B32_eq] at hx
  have:x*2 ^ s≤4294967295*2147483648:=Nat.mul_le_mul (by omega) h1
  omega
theorem shl_wrap {x s:Nat} (hx:x<B32) (hs:s<32):IntKind.u64.wrap ((x:Int)*2 ^ s)=((shl x s:Nat):Int):=by
  have h1:=shl_lt hx hs
  have e:(x:Int)*2 ^ s=((shl x s:Nat):Int):=by unfold shl;push_cast;rfl
  rw [e,IntWalk.u64_in _ (by omega)]
theorem shl_or {z S s:Nat} (hz:z<2 ^ s) (hs:s<32) (hS:S % 2 ^ s=0):bits BinOp.or IntKind.u32 (z:Int) ((S:Int) % 4294967296)=((z+S % B32:Nat):Int)∧z+S % B32<B32:=by
  have hp:=pow_le_31 hs
  have e:(S:Int) % 4294967296=((S % B32:Nat):Int):=by rw [B32_eq];omega
  have hB:B32 % 2 ^ s=0:=by
    have:B32=2 ^ s*2 ^ (32 - s):=by rw [← Nat.pow_add];rw [show s+(32 - s)=32 by omega];rfl
    rw [this];exact Nat.mul_mod_right _ _
  have hm:(S % B32) % 2 ^ s=0:=by rw [Nat.mod_mod_of_dvd _ (Nat.dvd_of_mod_eq_zero hB)];exact hS
  have hl:S % B32<B32:=Nat.mod_lt _ B32_pos
  have hsum:z+S % B32<B32:=by
    generalize S % B32=m at *
    obtain ⟨q,rfl⟩:=Nat.dvd_of_mod_eq_zero hm
    obtain ⟨t,ht⟩:=Nat.dvd_of_mod_eq_zero hB
    rw [ht] at hl ⊢
    have:q<t:=Nat.lt_of_mul_lt_mul_left hl
    have:2 ^ s*(q+1)≤2 ^ s*t:=Nat.mul_le_mul_left _ this
    rw [Nat.mul_add,Nat.mul_one] at this
    omega
  refine ⟨?_,hsum⟩
  rw [e]
  rw [B32_eq] at hl
  rw [u32_or_nat _ _ (by omega) (by rw [B32_eq];exact hl),Nat.or_comm,nat_join s _ _ hm hz,Nat.add_comm]
def SURel (g n:Nat) (xs:List Nat) (s:Nat) (w1:World) (i:Value) (wr:World):Prop :=
  ∃ (k:Nat) (zs:List Nat),k≤n∧i=.int .i64 k∧zs.length=n+1∧Okl zs∧zs.getD k 0<2 ^ s∧val (zs.take k)+B32 ^ k*zs.getD k 0=val (xs.take k)*2 ^ s∧wr=put g zs [] w1
theorem su_num {a P z B S V T x m q:Nat} (h:a+P*z=V*T) (e:m+B*q=S) (hS:S=x*T):a+P*(z+m)+P*B*q=(V+P*x)*T:=by
  have h3:P*(m+B*q)=P*(x*T):=by rw [e,hS]
  grind
theorem su_step {g n k s x z:Nat} {xs zs:List Nat} {w1:World} (hxl:xs.length=n) (hl:zs.length=n+1) (hk:k<n) (hs:s<32) (hx:xs.getD k 0=x) (hz:zs.getD k 0=z) (hxb:x<B32) (hoz:Okl zs) (hzs:z<2 ^ s)
    (he:val (zs.take k)+B32 ^ k*z=val (xs.take k)*2 ^ s) (hg:g<w1.heap.size) :
    SURel g n xs s w1 (.int .i64 ((k:Int)+1)) (((put g zs [] w1).setCell ⟨g,k,none⟩ (.int .u32 (bits BinOp.or IntKind.u32 (z:Int) (IntKind.u64.wrap ((x:Int)*2 ^ s) % 4294967296)))).setCell ⟨g,k+1,none⟩ (.int .u32 (IntKind.u64.wrap ((x:Int)*2 ^ s) / 4294967296 % 4294967296))):=by
  have hlt:=shl_lt hxb hs
  have hdv:shl x s % 2 ^ s=0:=Nat.mul_mod_left _ _
  obtain ⟨ho,hob⟩:=shl_or hzs hs hdv
  have hq:shl x s / B32<2 ^ s:=by
    rw [Nat.div_lt_iff_lt_mul B32_pos];unfold shl
    rw [Nat.mul_comm]
    exact Nat.mul_lt_mul_of_pos_left hxb (Nat.pow_pos (by decide))
  have hqb:shl x s / B32<B32:=by have:=pow_le_31 hs;rw [B32_eq] at *;omega
  have e3:((shl x s:Nat):Int) / 4294967296 % 4294967296=((shl x s / B32:Nat):Int):=by rw [B32_eq] at *;omega
  rw [shl_wrap hxb hs,ho,e3,set_blk (put_blk _ _ hg) _ _ (by omega),put_put,set_blk (put_blk _ _ hg) _ _ (by rw [List.length_set];omega),put_put]
  refine ⟨k+1,_,hk,rfl,by simp [hl],(hoz.set _ _ hob).set _ _ hqb,?_,?_,rfl⟩
  · simp [List.getD,hl,hk];exact hq
  · have e4:(((zs.set k (z+shl x s % B32)).set (k+1) (shl x s / B32)).take (k+1))=(zs.set k (z+shl x s % B32)).take (k+1):=List.take_set_of_le (Nat.le_refl _)
    have e5:(((zs.set k (z+shl x s % B32)).set (k+1) (shl x s / B32))).getD (k+1) 0=shl x s / B32:=by simp [List.getD,hl,hk]
    rw [e4,e5,val_set_take _ _ _ (by omega),val_take_succ xs k (by omega),hx,Nat.pow_succ]
    exact su_num he (Nat.mod_add_div _ _) rfl
def Blocks (N n:Nat) (w:World) (e:Ending) (w':World):Prop :=
  ∃ zs,e=.returned (.slice (some ⟨w.heap.size,0,none⟩) n n)∧zs.length=n∧Okl zs∧val zs=N∧Blk w' w.heap.size zs []∧Below w.heap.size w w'
theorem shiftUp_any (ad:Option Addr) (n cap:Nat) (xs:List Nat) (s:Nat) (w:World) (hn:xs.length=n) (hcap:n≤cap) (hm:n≤100000000) (ho:Okl xs) (hr:Rd w ad xs) (hs:s<32) :
    Calls Tryz.prog 215 #[.slice ad n cap,.int .i64 (s:Int)] w (Blocks (val xs*2 ^ s) (n+1) w):=by
  have HN:=Lib.hid hn;clear hn
  go_enter Tryz.func215,Tryz.ntmps215
  go_wp2_with (at_make;refine wpl_make _ rfl _ _ rfl _ _ _ _ (n+1) rfl rfl (by omega) (by omega) (by omega) ?_;intro w1 hB1 hb1)
  go_loopw [15] (fun i wr=>SURel w.heap.size n xs s w1 i wr) (fun i _=>n - (intOf i).toNat)
  case atStart=>exact ⟨0,List.replicate (n+1) 0,by omega,rfl,List.length_replicate,Okl.replicate _,by simp [List.getD];exact Nat.pow_pos (by decide),by simp [val,List.getD],(put_same hB1).symm⟩
  case round =>
    obtain ⟨k,zs,hk,rfl,hl,hoz,hzs,he,rfl⟩:=hrel
    have HL:=Lib.hid hl;clear hl
    have HE:=Lib.hid he;clear he
    have hbz:Blk (put w.heap.size zs [] w1) w.heap.size zs []:=put_blk _ _ hB1.lt
    by_cases hlt:k<n
    · obtain ⟨b',ox,hadd,hb',hc⟩:=hr k (by rw [HN.out];exact hlt)
      subst hadd
      have hcx:(put w.heap.size zs [] w1).cell? ⟨b',ox+k,none⟩=some (.int .u32 ((xs.getD k 0:Nat):Int)) :=
        (put_cell w.heap.size zs [] w1 ⟨b',ox+k,none⟩ (by simp;omega)).trans ((hb1.cell (p:=⟨b',ox+k,none⟩) hb').trans hc)
      have hxb:=ho.getD k
      have hzb:=hoz.getD k
      have hcz:=hbz.cell k (by rw [HL.out];omega)
      have hcz1:=hbz.cell (k+1) (by rw [HL.out];omega)
      have hfz:=hbz.free k
      have hfz1:=hbz.free (k+1)
      generalize hx:xs.getD k 0=x at *
      generalize hz:zs.getD k 0=z at *
      generalize zs.getD (k+1) 0=z1 at *
      have R:=Lib.hid (su_step (g:=w.heap.size) (w1:=w1) HN.out HL.out hlt hs hx hz hxb hoz hzs HE.out hB1.lt)
      clear hc hx hz hzs
      rw [B32_eq] at hxb hzb
      go_wp2
      go_roundw
      case rel=>exact R.out
      case measure=>simp [intOf];omega
    · obtain rfl:k=n:=by omega
      have hv:val zs=val xs*2 ^ s:=by
        have h:=HE.out
        rw [← val_take_succ zs k (by rw [HL.out];omega),List.take_of_length_le (by rw [HL.out];exact Nat.le_refl _),List.take_of_length_le (by rw [HN.out];exact Nat.le_refl _)] at h
        exact h
      have HV:=Lib.hid hv;clear hv hzs
      go_wp2
      go_ret
      exact ⟨zs,rfl,HL.out,hoz,HV.out,hbz,put_below hb1 (Nat.le_refl _) _ _⟩
theorem Below.heap_cell (w:World) (a b:Addr) (v:Value) (h:b.block ≠ a.block):(w.setCell a v).cell? b=w.cell? b:=World.cell?_of_block (Below.heap_setCell w a v b.block h)
def SDRel (g n:Nat) (xs:List Nat) (s:Nat) (w1:World) (ab i:Value) (wr:World):Prop :=
  ∃ (k a:Nat) (zs:List Nat),k≤n∧i=.int .i64 ((k:Int) - 1)∧ab=.int .u32 a∧a=xs.getD k 0∧zs.length=n∧Okl zs∧val (zs.drop k)=val (xs.drop k) / 2 ^ s∧wr=put g zs [] w1
theorem sd_num {a l B T D Q:Nat} (hT:0<T) (hTB:B=T*Q) (hl:l<B) (hD:D % B=a) :
    ((a*B+l) / T) % B+B*(D / T)=(l+B*D) / T:=by
  have hB:0<B:=Nat.lt_of_le_of_lt (Nat.zero_le _) hl
  have e1:D % T=a % T:=by rw [← hD,hTB];exact (Nat.mod_mul_right_mod D T Q).symm
  have e2:l+B*D=(l+B*(D % T))+T*(B*(D / T)):=by
    have:=Nat.mod_add_div D T
    have h3:B*D=B*(D % T+T*(D / T)):=by rw [this]
    rw [h3];grind
  have e3:a*B+l=(l+B*(a % T))+T*(B*(a / T)):=by
    have:=Nat.mod_add_div a T
    have h3:B*a=B*(a % T+T*(a / T)):=by rw [this]
    rw [Nat.mul_comm a B,h3];grind
  have hlt:(l+B*(a % T)) / T<B:=by
    rw [Nat.div_lt_iff_lt_mul hT]
    have h1:a % T<T:=Nat.mod_lt _ hT
    have h2:B*(a % T+1)≤B*T:=Nat.mul_le_mul_left _ h1
    rw [Nat.mul_add,Nat.mul_one] at h2
    omega
  rw [e2,e3,Nat.add_mul_div_left _ _ hT,Nat.add_mul_div_left _ _ hT,Nat.add_mul_mod_self_left,Nat.mod_eq_of_lt hlt,e1]
theorem val_mod_nil:val [] % B32=0:=by rw [show val []=0 from rfl,Nat.zero_mod]
theorem val_mod_cons (x:Nat) (xs:List Nat) (h:x<B32):val (x::xs) % B32=x:=by
  rw [show val (x::xs)=x+B32*val xs from rfl,Nat.add_mul_mod_self_left]
  exact Nat.mod_eq_of_lt h
theorem val_mod (l:List Nat) (h:Okl l):val l % B32=l.getD 0 0:=by
  cases l with
  | nil=>exact val_mod_nil
  | cons x xs=>exact val_mod_cons x xs h.head
theorem wd_eq (a l:Nat):wd a l=a*B32+l:=rfl
theorem B32_split {s:Nat} (hs:s<32):B32=2 ^ s*2 ^ (32 - s):=by
  rw [← Nat.pow_add,show s+(32 - s)=32 by omega];rfl
theorem sd_wd {a l D s:Nat} (hs:s<32) (hl:l<B32) (hD:D % B32=a) :
    (wd a l / 2 ^ s) % B32+B32*(D / 2 ^ s)=(l+B32*D) / 2 ^ s:=by
  rw [wd_eq]
  exact sd_num (Nat.pow_pos (by decide)) (B32_split hs) hl hD
theorem wd_shr (a x s:Nat):((wd a x:Nat):Int) / 2 ^ s=((wd a x / 2 ^ s:Nat):Int):=by push_cast;rfl
theorem mod_B32 (Q:Nat):(Q:Int) % 4294967296=((Q % B32:Nat):Int):=by rw [B32_eq];omega
theorem wd_shr_mod (a x s:Nat):((wd a x:Nat):Int) / 2 ^ s % 4294967296=((wd a x / 2 ^ s % B32:Nat):Int):=by
  rw [wd_shr];exact mod_B32 _
theorem getD_set_self (zs:List Nat) (j v:Nat) (h:j<zs.length):(zs.set j v).getD j 0=v:=by simp [List.getD,h]
theorem getD_drop_zero (xs:List Nat) (j:Nat):(xs.drop j).getD 0 0=xs.getD j 0:=by simp [List.getD]
theorem sd_step {g n j s x:Nat} {xs zs:List Nat} {w1:World} (hxl:xs.length=n) (hl:zs.length=n) (hj:j+1≤n) (hs:s<32) (hox:Okl xs) (hoz:Okl zs) (hx:xs.getD j 0=x) (a:Nat) (ha:a=xs.getD (j+1) 0)
    (he:val (zs.drop (j+1))=val (xs.drop (j+1)) / 2 ^ s) (hg:g<w1.heap.size) :
    SDRel g n xs s w1 (.int .u32 (x:Int)) (.int .i64 ((j:Int) - 1)) ((put g zs [] w1).setCell ⟨g,j,none⟩ (.int .u32 (((wd a x:Nat):Int) / 2 ^ s % 4294967296))):=by
  have hxb:x<B32:=by rw [← hx];exact hox.getD j
  have hD:val (xs.drop (j+1)) % B32=a:=by rw [val_mod _ (hox.drop _),ha,getD_drop_zero]
  have hq:=sd_wd hs hxb hD
  have hv:wd a x / 2 ^ s % B32<B32:=Nat.mod_lt _ B32_pos
  rw [wd_shr_mod,set_blk (put_blk _ _ hg) _ _ (by omega),put_put]
  generalize wd a x / 2 ^ s % B32=v at *
  refine ⟨j,x,zs.set j v,by omega,rfl,rfl,hx.symm,by rw [List.length_set];exact hl,hoz.set _ _ hv,?_,rfl⟩
  rw [val_drop_succ _ j (by rw [List.length_set];omega),val_drop_succ xs j (by omega),hx,List.drop_set_of_lt (by omega),he,getD_set_self _ _ _ (by omega)]
  exact hq
theorem shiftDown_any (ad:Option Addr) (n cap:Nat) (xs:List Nat) (s:Nat) (w:World) (hn:xs.length=n) (hcap:n≤cap) (hm:n≤100000000) (ho:Okl xs) (hr:Rd w ad xs) (hs:s<32) :
    Calls Tryz.prog 217 #[.slice ad n cap,.int .i64 (s:Int)] w (Gives (val xs / 2 ^ s) w):=by
  have HN:=Lib.hid hn;clear hn
  go_enter Tryz.func217,Tryz.ntmps217
  go_wp2_with (at_make;refine wpl_make _ rfl _ _ rfl _ _ _ _ n rfl rfl (by omega) (by omega) (by omega) ?_;intro w1 hB1 hb1)
  go_loopw [6,7] (fun a i wr=>SDRel w.heap.size n xs s w1 a i wr) (fun _ i _=>(intOf i+1).toNat)
  case atStart=>exact ⟨n,0,List.replicate n 0,Nat.le_refl _,rfl,rfl,(getD_out (by rw [HN.out];exact Nat.le_refl _)).symm,List.length_replicate,Okl.replicate _,by rw [List.drop_of_length_le (by simp),List.drop_of_length_le (by rw [HN.out];exact Nat.le_refl _)];simp [val],(put_same hB1).symm⟩
  case round =>
    obtain ⟨k,a,zs,hk,rfl,rfl,ha,hl,hoz,he,rfl⟩:=hrel
    have HL:=Lib.hid hl;clear hl
    have HE:=Lib.hid he;clear he
    have HA:=Lib.hid ha;clear ha
    have hbz:Blk (put w.heap.size zs [] w1) w.heap.size zs []:=put_blk _ _ hB1.lt
    rcases k with _ | j
    · rw [show (((0:Nat):Int) - 1) = -1 from rfl]
      have hv:=HE.out
      simp only [List.drop_zero] at hv
      have HV:=Lib.hid hv;clear hv
      go_wp2_with fail
      refine (cut_nat _ n n zs _ HL.out (Nat.le_refl _) (by omega) hoz hbz.rd_all).mono ?_
      rintro e w' ⟨rfl,rfl⟩
      go_wp2
      go_ret
      rw [← HV.out]
      exact gives_cut hbz hoz (by rw [HL.out];rfl) (by unfold maxLen;omega) (Nat.le_refl _) (put_below hb1 (Nat.le_refl _) _ _)
    · rw [show (((j+1:Nat):Int) - 1)=(j:Int) by omega]
      obtain ⟨b',ox,hadd,hb',hc⟩:=hr j (by rw [HN.out];omega)
      subst hadd
      have hcx:(put w.heap.size zs [] w1).cell? ⟨b',ox+j,none⟩=some (.int .u32 ((xs.getD j 0:Nat):Int)) :=
        (put_cell w.heap.size zs [] w1 ⟨b',ox+j,none⟩ (by simp;omega)).trans ((hb1.cell (p:=⟨b',ox+j,none⟩) hb').trans hc)
      have hcx2:∀ v:Value,((put w.heap.size zs [] w1).setCell ⟨w.heap.size,j,none⟩ v).cell? ⟨b',ox+j,none⟩=some (.int .u32 ((xs.getD j 0:Nat):Int)):=by
        intro v;exact (Below.heap_cell _ _ _ _ (by simp;omega)).trans hcx
      have hxb:=ho.getD j
      have hab:a<B32:=by rw [HA.out];exact ho.getD _
      have hcz:=hbz.cell j (by rw [HL.out];omega)
      have hfz:=hbz.free j
      generalize hx:xs.getD j 0=x at *
      generalize zs.getD j 0=z at *
      have R:=Lib.hid (sd_step (g:=w.heap.size) (w1:=w1) HN.out HL.out hk hs ho hoz hx a HA.out HE.out hB1.lt)
      clear hc hx
      have hor:=wd_or hab hxb
      have hwl:=wd_lt hab hxb
      rw [B32_eq] at hxb hab
      go_wp2
      go_roundw
      case rel=>exact R.out
      case measure=>simp [intOf]
def gs (h l d:Nat):Nat:=min (wd h l / d) 4294967295
theorem gs_lt (h l d:Nat):gs h l d<B32:=by unfold gs;rw [B32_eq];omega
theorem guess_any (g o m cap:Nat) (ad:Option Addr) (cap':Nat) (ys xs:List Nat) (w:World) (hm0:0<m) (hxl:xs.length=m) (hm:m≤100000000)
    (hyl:ys.length=m+1) (hoy:Okl ys) (hox:Okl xs) (hb:Rd w (some ⟨g,o,none⟩) ys) (hr:Rd w ad xs) (hd:0<xs.getD (m - 1) 0) :
    Calls Tryz.prog 216 #[.slice (some ⟨g,o,none⟩) (m+1) cap,.slice ad m cap'] w fun e w'=>e=.returned (.int .u32 ((gs (ys.getD m 0) (ys.getD (m - 1) 0) (xs.getD (m - 1) 0):Nat):Int))∧∃ q,w'=w.drewN q:=by
  obtain ⟨j,rfl⟩:∃ j,m=j+1:=⟨m - 1,by omega⟩
  simp only [Nat.add_sub_cancel] at hd ⊢
  have hc1:=hb.at (j+1) (by omega)
  have hc2:=hb.at j (by omega)
  obtain ⟨b',ox,rfl,_,hc3⟩:=hr j (by omega)
  have h1:=hoy.getD (j+1)
  have h2:=hoy.getD j
  have h3:=hox.getD j
  generalize ys.getD (j+1) 0=h at *
  generalize ys.getD j 0=l at *
  generalize xs.getD j 0=d at *
  have hor:=wd_or h1 h2
  have hwl:=wd_lt h1 h2
  clear hb hr hxl hyl hoy hox
  rw [B32_eq] at h1 h2 h3
  have hjm:(j:Int)<((j+1:Nat):Int):=by omega
  go_enter Tryz.func216,Tryz.ntmps216
  go_wp2
  go_quiet (fail)
  go_wp2
  go_ret
  refine ⟨ret1_eq ?_,nq,rfl⟩
  have hq:wd h l / d≤wd h l:=Nat.div_le_self _ _
  rw [← Int.natCast_ediv]
  unfold gs
  generalize wd h l / d=Q at *
  rw [IntWalk.u64_in _ (by omega)]
  omega
theorem bitLen_zero:Lib.bitLen 0=0:=by decide
theorem bitLen_bounds:∀ (f x:Nat),x≤f→x<2 ^ 64→x ≠ 0→1≤Lib.bitLen x∧2 ^ (Lib.bitLen x - 1)≤x∧x<2 ^ Lib.bitLen x:=by
  intro f
  induction f with
  | zero=>intro x h _ h0;omega
  | succ f ih =>
    intro x h h64 h0
    rw [Lib.bitLen_half x h0 h64]
    by_cases h1:x / 2=0
    · rw [h1,bitLen_zero]
      have:x=1:=by omega
      subst this;simp
    · obtain ⟨a,b,c⟩:=ih (x / 2) (by omega) (by omega) h1
      generalize Lib.bitLen (x / 2)=t at *
      obtain ⟨u,rfl⟩:∃ u,t=u+1:=⟨t - 1,by omega⟩
      rw [show 1+(u+1) - 1=u+1 by omega,show 1+(u+1)=u+2 by omega,Nat.pow_succ,Nat.pow_succ 2 (u+1),Nat.pow_succ 2 u]
      rw [Nat.add_sub_cancel] at b
      rw [Nat.pow_succ] at c
      omega
theorem lz_spec {x:Nat} (hx:x<B32) (h0:x ≠ 0):32 - blen x<32∧B32≤2*(x*2 ^ (32 - blen x))∧x*2 ^ (32 - blen x)<B32:=by
  have hx':=hx
  rw [B32_eq] at hx'
  obtain ⟨a,b,c⟩:=bitLen_bounds x x (Nat.le_refl _) (by omega) h0
  have d:=blen_le x hx'
  unfold blen at *
  generalize Lib.bitLen x=t at *
  have e:B32=2 ^ t*2 ^ (32 - t):=by rw [← Nat.pow_add,show t+(32 - t)=32 by omega];rfl
  have e2:2 ^ t=2*2 ^ (t - 1):=by rw [Nat.mul_comm,← Nat.pow_succ];congr 1;omega
  have hp:0<2 ^ (32 - t):=Nat.pow_pos (by decide)
  generalize 2 ^ (32 - t)=T at *
  refine ⟨by omega,?_,?_⟩
  · rw [e,e2,Nat.mul_assoc]
    exact Nat.mul_le_mul_left _ (Nat.mul_le_mul_right _ b)
  · rw [e];exact Nat.mul_lt_mul_of_pos_right c hp
theorem guess_low {P d D0 wd W0 q:Nat} (hP:0<P) (hW:W0<P) (h:q*(d*P+D0)≤wd*P+W0):q*d≤wd:=by
  have h1:q*(d*P)≤q*(d*P+D0):=Nat.mul_le_mul_left _ (Nat.le_add_right _ _)
  have h2:(q*d)*P<(wd+1)*P:=by rw [Nat.mul_assoc,Nat.add_mul,Nat.one_mul];omega
  have:=Nat.lt_of_mul_lt_mul_right h2
  omega
theorem guess_high {B P d D0 wd W0 g:Nat} (hD:D0≤P) (hg:g*d≤wd) (hgB:g≤B) (hd:B≤2*d):g*(d*P+D0)≤wd*P+W0+2*(d*P+D0):=by
  have h1:g*(d*P)≤wd*P:=by rw [← Nat.mul_assoc];exact Nat.mul_le_mul_right _ hg
  have h2:g*D0≤g*P:=Nat.mul_le_mul_left _ hD
  have h3:g*P≤(2*d)*P:=Nat.mul_le_mul_right _ (Nat.le_trans hgB hd)
  rw [Nat.mul_assoc] at h3
  rw [Nat.mul_add]
  omega
theorem guess_ok {P d D0 h l W0 D W:Nat} (hP:0<P) (hW0:W0<P) (hD0:D0<P) (hd0:0<d) (hd:B32≤2*d) (hDe:D=d*P+D0) (hWe:W=wd h l*P+W0) (hlt:W<B32*D) :
    W / D≤gs h l d∧gs h l d≤W / D+2:=by
  have hDp:0<D:=by rw [hDe];have:=Nat.mul_pos hd0 hP;omega
  have hq1:W / D*D≤W:=Nat.div_mul_le_self _ _
  have hq2:W / D<B32:=by rw [Nat.div_lt_iff_lt_mul hDp];exact hlt
  constructor
  · unfold gs
    rw [Nat.le_min]
    refine ⟨?_,by rw [B32_eq] at hq2;omega⟩
    rw [Nat.le_div_iff_mul_le hd0]
    refine guess_low (P:=P) (D0:=D0) (W0:=W0) hP hW0 ?_
    rw [← hDe,← hWe];exact hq1
  · have hg1:gs h l d*d≤wd h l:=by
      have:gs h l d≤wd h l / d:=Nat.min_le_left _ _
      exact Nat.le_trans (Nat.mul_le_mul_right _ this) (Nat.div_mul_le_self _ _)
    have hg2:gs h l d≤B32:=Nat.le_of_lt (gs_lt h l d)
    have h3:=guess_high (P:=P) (D0:=D0) (W0:=W0) (Nat.le_of_lt hD0) hg1 hg2 hd
    rw [← hDe,← hWe] at h3
    generalize gs h l d=g at *
    rcases Nat.lt_or_ge g 2 with h4 | h4
    · exact Nat.le_trans (Nat.le_of_lt h4) (Nat.le_add_left _ _)
    · have h5:(g - 2)*D≤W:=by rw [Nat.sub_mul];omega
      have h6:g - 2≤W / D:=by rw [Nat.le_div_iff_mul_le hDp];exact h5
      clear hq1 hq2 h3 h5 hDe hWe hg1 hg2
      generalize W / D=t at *
      omega
theorem val_drop_add (l:List Nat) (i m:Nat) (h:i+m≤l.length):val (l.drop i)=wv l i m+B32 ^ m*val (l.drop (i+m)):=by
  rw [val_take_drop (l.drop i) m (by rw [List.length_drop];omega),List.drop_drop];rfl
structure DvInv (n m k:Nat) (Z Q:List Nat) (D V:Nat):Prop where
  zl:Z.length=n+1
  zo:Okl Z
  ql:Q.length=n+1 - m
  qo:Okl Q
  lt:val (Z.drop k)<D
  eq:val Z+D*(B32 ^ k*val (Q.drop k))=V
theorem tail_zero {Z:List Nat} {i m D:Nat} (hl:i+1+m≤Z.length) (hlt:val (Z.drop (i+1))<D) (hD:D<B32 ^ m):val (Z.drop (i+(m+1)))=0:=by
  rw [val_drop_add Z (i+1) m hl] at hlt
  rw [show i+(m+1)=i+1+m by omega]
  rcases Nat.eq_zero_or_pos (val (Z.drop (i+1+m))) with h | h
  · exact h
  · have:=Nat.mul_le_mul_left (B32 ^ m) h
    omega
theorem win_val {Z:List Nat} {i m D:Nat} (hl:i+1+m≤Z.length) (hlt:val (Z.drop (i+1))<D) (hD:D<B32 ^ m):val (Z.drop i)=wv Z i (m+1):=by
  rw [val_drop_add Z i (m+1) (by omega),tail_zero hl hlt hD,Nat.mul_zero,Nat.add_zero]
theorem lt_num {B a x D:Nat} (h1:a<B) (h2:x<D):a+B*x<B*D:=by
  have h3:B*(x+1)≤B*D:=Nat.mul_le_mul_left _ h2
  rw [Nat.mul_add,Nat.mul_one] at h3
  omega
theorem win_lt {Z:List Nat} {i D:Nat} (ho:Okl Z) (hl:i<Z.length) (hlt:val (Z.drop (i+1))<D):val (Z.drop i)<B32*D:=by
  rw [val_drop_succ Z i hl]
  exact lt_num (ho.getD i) hlt
theorem dv_num {a z z' P Q D V B q:Nat} (h:a+P*z+D*(P*B*Q)=V) (hz:z'+q*D=z):a+P*z'+D*(P*(q+B*Q))=V:=by
  subst hz;rw [← h];grind
theorem dv_step {n m i:Nat} {Z Z' Q:List Nat} {D V q:Nat} (hm:i+1+m≤n+1) (hD:D<B32 ^ m) (h:DvInv n m (i+1) Z Q D V) (hw:Win Z Z' i (m+1)) (hzo:Okl Z') (hq:q<B32) (he:wv Z' i (m+1)+q*D=wv Z i (m+1)) (hlt:wv Z' i (m+1)<D) :
    DvInv n m i Z' (Q.set i q) D V:=by
  have hl':Z'.length=n+1:=by rw [hw.len,h.zl]
  have ht:=tail_zero (by rw [h.zl];exact hm) h.lt hD
  have hv:=win_val (by rw [h.zl];exact hm) h.lt hD
  have hv':val (Z'.drop i)=wv Z' i (m+1):=by
    rw [val_drop_add Z' i (m+1) (by omega),hw.hi,ht,Nat.mul_zero,Nat.add_zero]
  refine ⟨hl',hzo,by rw [List.length_set];exact h.ql,h.qo.set _ _ hq,by rw [hv'];exact hlt,?_⟩
  have e1:val Z=val (Z.take i)+B32 ^ i*wv Z i (m+1):=by rw [val_take_drop Z i (by rw [h.zl];omega),hv]
  have e2:val Z'=val (Z.take i)+B32 ^ i*wv Z' i (m+1):=by rw [val_take_drop Z' i (by omega),hw.lo,hv']
  have e3:val ((Q.set i q).drop i)=q+B32*val (Q.drop (i+1)):=by
    rw [val_drop_succ _ i (by rw [List.length_set,h.ql];omega),List.drop_set_of_lt (by omega),getD_set_self _ _ _ (by rw [h.ql];omega)]
  have e4:B32 ^ (i+1)=B32 ^ i*B32:=Nat.pow_succ _ _
  have he0:=h.eq
  rw [e1,e4] at he0
  rw [e2,e3]
  clear e1 e2 e3 e4 hv hv' ht hl' h hw hD hlt hq hzo hm
  revert he0
  generalize B32 ^ i=P
  generalize B32=B
  intro he0
  exact dv_num he0 he
theorem take_case {W D g v Q q:Nat} (hD:0<D) (h1:W / D≤g) (h2:g≤W / D+2) (hv:v<Q) (hDQ:2*D≤Q) (h:v+g*D=W+Q*q):(q=0∧g=W / D∧v<D)∨(q=1∧W / D<g):=by
  have hdm:=Nat.div_add_mod W D
  have hml:W % D<D:=Nat.mod_lt _ hD
  generalize W / D=t at *
  generalize W % D=r at *
  rw [Nat.mul_comm D t] at hdm
  rcases Nat.eq_zero_or_pos q with h0 | h0
  · left
    subst h0
    rw [Nat.mul_zero,Nat.add_zero] at h
    have:g=t:=by
      rcases Nat.lt_or_ge t g with h3 | h3
      · have:=Nat.mul_le_mul_right D h3
        rw [Nat.succ_mul] at this
        omega
      · omega
    subst this
    exact ⟨rfl,rfl,by omega⟩
  · right
    have hq:q=1:=by
      rcases Nat.lt_or_ge 1 q with h3 | h3
      · have h4:=Nat.mul_le_mul_left Q h3
        have h5:=Nat.mul_le_mul_right D h2
        rw [Nat.add_mul] at h5
        omega
      · omega
    subst hq
    refine ⟨rfl,?_⟩
    rcases Nat.lt_or_ge t g with h3 | h3
    · exact h3
    · have h5:=Nat.mul_le_mul_right D h3
      omega
theorem back_case {W D g v v2 Q cy:Nat} (hD:0<D) (hg:W / D<g) (hv2:v2<Q) (h:v+g*D=W+Q) (hc:cy≤1) (he:v2+Q*cy=v+D) :
    (cy=1∧g - 1=W / D∧v2+(g - 1)*D=W∧v2<D)∨(cy=0∧W / D<g - 1∧v2+(g - 1)*D=W+Q):=by
  have hdm:=Nat.div_add_mod W D
  have hml:W % D<D:=Nat.mod_lt _ hD
  generalize W / D=t at *
  generalize W % D=r at *
  rw [Nat.mul_comm D t] at hdm
  obtain ⟨u,rfl⟩:∃ u,g=u+1:=⟨g - 1,by omega⟩
  rw [Nat.add_sub_cancel]
  rw [Nat.succ_mul] at h
  rcases Nat.eq_zero_or_pos cy with h0 | h0
  · right
    subst h0
    rw [Nat.mul_zero,Nat.add_zero] at he
    have h3:v2+u*D=W+Q:=by omega
    refine ⟨rfl,?_,h3⟩
    rcases Nat.lt_or_ge t u with h4 | h4
    · exact h4
    · have:=Nat.mul_le_mul_right D h4
      omega
  · left
    obtain rfl:cy=1:=by omega
    rw [Nat.mul_one] at he
    have h3:v2+u*D=W:=by omega
    have h4:u=t:=by
      rcases Nat.lt_or_ge t u with h5 | h5
      · have:=Nat.mul_le_mul_right D h5
        rw [Nat.succ_mul] at this
        omega
      · omega
    subst h4
    exact ⟨rfl,rfl,h3,by omega⟩
theorem pre_lt {lo P y T B:Nat} (h1:lo<P) (h2:(y+1)*T≤B) (hT:0<T):(lo+P*y)*T<P*B:=by
  have h3:(lo+P*y)*T<(P*(y+1))*T:=Nat.mul_lt_mul_of_pos_right (by rw [Nat.mul_add];omega) hT
  have h4:P*((y+1)*T)≤P*B:=Nat.mul_le_mul_left _ h2
  rw [Nat.mul_assoc] at h3
  omega
theorem pre_ge {lo P y T:Nat}:P*(y*T)≤(lo+P*y)*T:=by
  rw [Nat.add_mul,Nat.mul_assoc];omega
theorem top_ge {lo P d t D:Nat} (h1:lo<P) (h2:D=lo+P*d) (h3:P*t≤D):t≤d:=by
  have h4:P*t<P*(d+1):=by rw [Nat.mul_add];omega
  have:=Nat.lt_of_mul_lt_mul_left h4
  omega
theorem up_mult {y T Q B:Nat} (hB:B=T*Q) (h:y*T<B):(y+1)*T≤B:=by
  subst hB
  rw [Nat.mul_comm y T] at h
  have:=Nat.lt_of_mul_lt_mul_left h
  rw [Nat.mul_comm]
  exact Nat.mul_le_mul_left _ this
theorem B32_mono {a b:Nat} (h:a≤b):B32 ^ a≤B32 ^ b:=Nat.pow_le_pow_right B32_pos h
theorem B32_pow_pos (a:Nat):0<B32 ^ a:=Nat.pow_pos B32_pos
theorem B32_succ (a:Nat):B32 ^ (a+1)=B32 ^ a*B32:=Nat.pow_succ _ _
theorem limbs_len_eq {D j:Nat} (h1:B32 ^ j≤D) (h2:D<B32 ^ (j+1)):(limbs D).length=j+1:=by
  have a:=limbs_length_le h2
  have b:=limbs_lt_pow D
  rcases Nat.lt_or_ge (limbs D).length (j+1) with h | h
  · have:=B32_mono (show (limbs D).length≤j by omega)
    omega
  · omega
structure DvPre (D j:Nat):Prop where
  lt:D<B32 ^ (j+1)
  len:(limbs D).length=j+1
  top:B32≤2*(limbs D).getD j 0
  pos:0<D
theorem div_pre {Y:List Nat} {j s y:Nat} (hl:Y.length=j+1) (ho:Okl Y) (hy:Y.getD j 0=y) (hs:s<32) (h2:B32≤2*(y*2 ^ s)) (h3:y*2 ^ s<B32) :
    DvPre (val Y*2 ^ s) j∧B32 ^ j*(y*2 ^ s)≤val Y*2 ^ s:=by
  have hT:0<2 ^ s:=Nat.pow_pos (by decide)
  have hv:val Y=val (Y.take j)+B32 ^ j*y:=by
    have h:=val_take_succ Y j (by omega)
    rw [List.take_of_length_le (by omega),hy] at h
    exact h
  have hlo:val (Y.take j)<B32 ^ j:=by
    have h:=val_lt (ho.take j)
    rwa [List.length_take,Nat.min_eq_left (by omega)] at h
  have hup:=up_mult (B32_split hs) h3
  have hlt:val Y*2 ^ s<B32 ^ (j+1):=by rw [hv,B32_succ];exact pre_lt hlo hup hT
  have hge:B32 ^ j*(y*2 ^ s)≤val Y*2 ^ s:=by rw [hv];exact pre_ge
  have hy1:1≤y*2 ^ s:=by have:=B32_pos;omega
  have hge1:B32 ^ j≤val Y*2 ^ s:=by
    have:B32 ^ j*1≤B32 ^ j*(y*2 ^ s):=Nat.mul_le_mul_left _ hy1
    rw [Nat.mul_one] at this
    exact Nat.le_trans this hge
  refine ⟨⟨hlt,limbs_len_eq hge1 hlt,?_,Nat.lt_of_lt_of_le (B32_pow_pos j) hge1⟩,hge⟩
  have hlen:=limbs_len_eq hge1 hlt
  have hvl:=val_limbs (val Y*2 ^ s)
  have hol:=limbs_ok (val Y*2 ^ s)
  generalize val Y*2 ^ s=D at *
  generalize limbs D=L at *
  have hv2:D=val (L.take j)+B32 ^ j*L.getD j 0:=by
    have h:=val_take_succ L j (by omega)
    rw [List.take_of_length_le (by omega),hvl] at h
    exact h
  have hlo2:val (L.take j)<B32 ^ j:=by
    have h:=val_lt (hol.take j)
    rwa [List.length_take,Nat.min_eq_left (by omega)] at h
  have:=top_ge hlo2 hv2 hge
  omega
theorem drop_lt_num {a P v D X Pn T t:Nat} (h1:a+P*v=X*T) (h2:X<P*Pn) (hT:0<T) (h3:Pn*t≤D) (h4:T≤t) (hP:0<P):v<D:=by
  have h5:P*v<P*(Pn*T):=by
    have h6:X*T<P*Pn*T:=Nat.mul_lt_mul_of_pos_right h2 hT
    rw [Nat.mul_assoc] at h6
    omega
  have h7:=Nat.lt_of_mul_lt_mul_left h5
  have h8:Pn*T≤Pn*t:=Nat.mul_le_mul_left _ h4
  omega
theorem dv_start {X Z Q:List Nat} {n j s y D:Nat} (hX:X.length=n) (hoX:Okl X) (hjn:j+1≤n) (hZ:Z.length=n+1) (hoZ:Okl Z) (hv:val Z=val X*2 ^ s) (hy:y ≠ 0) (hD:B32 ^ j*(y*2 ^ s)≤D) (hQ:Q=List.replicate (n - j) 0) :
    DvInv n (j+1) (n - j) Z Q D (val X*2 ^ s):=by
  subst hQ
  refine ⟨hZ,hoZ,by rw [List.length_replicate];omega,Okl.replicate _,?_,?_⟩
  · have h1:=val_take_drop Z (n - j) (by omega)
    rw [hv] at h1
    have h2:=val_lt hoX
    rw [hX] at h2
    have e:B32 ^ n=B32 ^ (n - j)*B32 ^ j:=by rw [← Nat.pow_add,Nat.sub_add_cancel (by omega)]
    rw [e] at h2
    have hT:0<2 ^ s:=Nat.pow_pos (by decide)
    refine drop_lt_num h1.symm h2 hT hD ?_ (B32_pow_pos _)
    exact Nat.le_mul_of_pos_left _ (by omega)
  · rw [List.drop_of_length_le (by rw [List.length_replicate];exact Nat.le_refl _),hv]
    rw [show val []=0 from rfl,Nat.mul_zero,Nat.mul_zero,Nat.add_zero]
theorem wd_num {a P l h B:Nat}:a+P*l+P*B*h=(h*B+l)*P+a:=by grind
theorem guess_win {Z L:List Nat} {i j n D V:Nat} {Q:List Nat} (hi:i+(j+1)≤n) (hp:DvPre D j) (hL:limbs D=L) (h:DvInv n (j+1) (i+1) Z Q D V) :
    wv Z i (j+2) / D≤gs (Z.getD (i+(j+1)) 0) (Z.getD (i+j) 0) (L.getD j 0)∧gs (Z.getD (i+(j+1)) 0) (Z.getD (i+j) 0) (L.getD j 0)≤wv Z i (j+2) / D+2:=by
  have hzl:=h.zl
  have hlen:=hp.len
  have htop:=hp.top
  have hol:=limbs_ok D
  have hvl:=val_limbs D
  rw [hL] at hlen htop hol hvl
  have hDe:D=L.getD j 0*B32 ^ j+val (L.take j):=by
    have h1:=val_take_succ L j (by omega)
    rw [List.take_of_length_le (by omega),hvl,Nat.mul_comm (B32 ^ j),Nat.add_comm] at h1
    exact h1
  have hD0:val (L.take j)<B32 ^ j:=by
    have h1:=val_lt (hol.take j)
    rwa [List.length_take,Nat.min_eq_left (by omega)] at h1
  have hW0:wv Z i j<B32 ^ j:=by
    have h1:=val_lt ((h.zo.drop i).take j)
    rwa [List.length_take,List.length_drop,Nat.min_eq_left (by omega)] at h1
  have hWe:wv Z i (j+2)=wd (Z.getD (i+(j+1)) 0) (Z.getD (i+j) 0)*B32 ^ j+wv Z i j:=by
    rw [show j+2=j+1+1 from rfl,wv_succ Z i (j+1) (by omega),wv_succ Z i j (by omega),B32_succ,wd_eq]
    exact wd_num
  have hlt:wv Z i (j+2)<B32*D:=by
    have h1:=win_lt h.zo (show i<Z.length by omega) h.lt
    rwa [win_val (m:=j+1) (by omega) h.lt hp.lt] at h1
  have hd0:0<L.getD j 0:=by have:=B32_pos;omega
  exact guess_ok (B32_pow_pos j) hW0 hD0 hd0 htop hDe hWe hlt
theorem dv_end {n m a b T:Nat} {Z Q:List Nat} {V:Nat} (hT:0<T) (hb:0<b) (h:DvInv n m 0 Z Q (b*T) V) (hV:V=a*T):val Q=a / b∧val Z / T=a % b∧val Z<b*T:=by
  have he:=h.eq
  have hl:=h.lt
  simp only [List.drop_zero,Nat.pow_zero,Nat.one_mul] at he hl
  subst hV
  generalize val Q=q at *
  generalize val Z=z at *
  have hD:0<b*T:=Nat.mul_pos hb hT
  have hz:z=(a - b*q)*T:=by
    have e:b*T*q=(b*q)*T:=by grind
    rw [e] at he
    rw [Nat.sub_mul];omega
  have hq:b*q≤a:=by
    have e:b*T*q=(b*q)*T:=by grind
    rw [e] at he
    exact Nat.le_of_mul_le_mul_right (by omega:(b*q)*T≤a*T) hT
  have hr:a - b*q<b:=by rw [hz] at hl;exact Nat.lt_of_mul_lt_mul_right hl
  have hdq:a / b=q:=by
    rw [Nat.div_eq_of_lt_le (by rw [Nat.mul_comm];exact hq) (by rw [Nat.succ_mul,Nat.mul_comm q b];omega)]
  have hmr:a % b=a - b*q:=by
    have:=Nat.div_add_mod a b
    rw [hdq] at this
    omega
  refine ⟨hdq.symm,?_,hl⟩
  rw [hz,hmr,Nat.mul_div_cancel _ hT]
theorem val_take_all {Z:List Nat} {m D:Nat} (hm:m≤Z.length) (hlt:val Z<D) (hD:D<B32 ^ m):val (Z.take m)=val Z:=by
  have h:=val_take_drop Z m hm
  rcases Nat.eq_zero_or_pos (val (Z.drop m)) with h0 | h0
  · rw [h0,Nat.mul_zero,Nat.add_zero] at h;exact h.symm
  · have:=Nat.mul_le_mul_left (B32 ^ m) h0
    omega
end Go.Proofs.YtnacbakcalcgaaaGreatDoor
namespace Go.Proofs.YtnacbakcalcgaaaGreatDoor
open Go.RowKit
def DivPost (a b:Nat) (w:World) (e:Ending) (w':World):Prop :=
  ∃ v1 v2,e=.returned (.tuple #[v1,v2])∧Own w.heap.size w' v1 (limbs (a / b))∧Own w.heap.size w' v2 (limbs (a % b))∧Below w.heap.size w w'
def DLRel (n j D V:Nat) (L:List Nat) (G1 G2 G3:Nat) (w:World) (k:Nat) (i:Value) (wr:World):Prop :=
  ∃ Z Q,k≤n - j∧i=.int .i64 ((k:Int) - 1)∧DvInv n (j+1) k Z Q D V∧Blk wr G1 Z []∧Rd wr (some ⟨G2,0,none⟩) L∧Blk wr G3 Q []∧Below G1 w wr
theorem Blk.put_ne {w:World} {g g':Nat} {ys zs:List Nat} {r r':List Value} (h:Blk w g ys r) (hne:g ≠ g'):Blk (put g' zs r' w) g ys r:=by
  unfold Blk;rw [put_other _ _ _ _ _ hne];exact h
def DMRel (n j i D:Nat) (L Z Q:List Nat) (G1 G2 G3:Nat) (w:World) (k:Nat) (wr:World):Prop :=
  ∃ g Zc,g=wv Z i (j+2) / D+k∧0<k∧g<B32∧Win Z Zc i (j+2)∧Okl Zc∧wv Zc i (j+2)+g*D=wv Z i (j+2)+B32 ^ (j+2)∧Blk wr G1 Zc []∧Rd wr (some ⟨G2,0,none⟩) L∧Blk wr G3 (Q.set i g) []∧Below G1 w wr
theorem win_val_lt {Z:List Nat} {i m:Nat} (ho:Okl Z) (h:i+m≤Z.length):wv Z i m<B32 ^ m:=by
  have h1:=val_lt ((ho.drop i).take m)
  rwa [List.length_take,List.length_drop,Nat.min_eq_left (by omega)] at h1
theorem pos_of_mul {a b:Nat} (h:0<a*b):0<a:=by
  rcases Nat.eq_zero_or_pos a with h0 | h0
  · subst h0;simp at h
  · exact h0
theorem dm_pos {g t k:Nat} (h:g=t+k) (h2:t<g - 1):0<k - 1:=by omega
theorem win_getD (Z:List Nat) (i m t:Nat) (h:t<m):((Z.drop i).take m).getD t 0=Z.getD (i+t) 0:=by simp [List.getD,h]
theorem divide_any (ad:Option Addr) (n cap:Nat) (X:List Nat) (ad':Option Addr) (m cap':Nat) (Y:List Nat) (w:World) (hX:X.length=n) (hcap:n≤cap) (hn:n≤10000000) (hoX:Okl X) (hrX:Rd w ad X)
    (hY:Y.length=m) (hcap':m≤cap') (hm0:0<m) (hmn:m≤n) (hoY:Okl Y) (hrY:Rd w ad' Y) (hd:Y.getD (m - 1) 0 ≠ 0) :
    Calls Tryz.prog 210 #[.slice ad n cap,.slice ad' m cap'] w (DivPost (val X) (val Y) w):=by
  obtain ⟨j,rfl⟩:∃ j,m=j+1:=⟨m - 1,by omega⟩
  rw [Nat.add_sub_cancel] at hd
  obtain ⟨b2,o2,hadd,_,hcy⟩:=hrY j (by omega)
  have hdb:=hoY.getD j
  obtain ⟨hs1,hs2,hs3⟩:=lz_spec hdb hd
  generalize hy:Y.getD j 0=y at *
  have HY:=Lib.hid hy;clear hy
  have HX:=Lib.hid hX;clear hX
  have HYL:=Lib.hid hY;clear hY
  have KL:=Lib.hid (fun w=>lz32_any y w (by rw [B32_eq] at hdb;exact hdb))
  generalize 32 - blen y=s at *
  have KU:=Lib.hid (shiftUp_any ad n cap X s w HX.out hcap (by omega) hoX hrX hs1)
  have KV:=Lib.hid (fun w1 (h:Below w.heap.size w w1)=>shiftUp_any ad' (j+1) cap' Y s w1 HYL.out hcap' (by omega) hoY (hrY.below h) hs1)
  subst hadd
  have hjm:(j:Int)<((j+1:Nat):Int):=by omega
  go_enter Tryz.func210,Tryz.ntmps210
  go_wp2
  go_step3
  go_wp2_with fail
  refine (KL.out _).mono ?_
  rintro e w' ⟨rfl,rfl⟩
  go_wp2_with fail
  refine KU.out.mono ?_
  rintro e w1 ⟨Z0,rfl,hZl,hZo,hZv,hZb,hbl1⟩
  go_wp2_with fail
  refine (KV.out w1 hbl1).mono ?_
  rintro e w2 ⟨D0,rfl,hDl,hDo,hDv,hDb,hbl2⟩
  obtain ⟨hpre,hge⟩:=div_pre HYL.out hoY HY.out hs1 hs2 hs3
  have hstart:=@dv_start X Z0 (List.replicate (n - j) 0) n j s y (val Y*2 ^ s) HX.out hoX hmn hZl hZo hZv hd hge rfl
  have HP:=Lib.hid hpre
  have HS:=Lib.hid hstart;clear hstart
  rw [← hDv] at hpre
  have KC:=Lib.hid (cut_nat (some ⟨w1.heap.size,0,none⟩) (j+1+1) (j+1+1) D0 w2 hDl (Nat.le_refl _) (by omega) hDo hDb.rd_all)
  rw [hpre.len] at KC
  have hrD:Rd w2 (some ⟨w1.heap.size,0,none⟩) (limbs (val Y*2 ^ s)):=by
    rw [← hDv];exact rd_limbs hDo hDb.rd_all
  have hlenD:=hpre.len
  rw [hDv] at hlenD
  clear hpre hDl hDv hDo
  have HLD:=Lib.hid hlenD;clear hlenD
  have hoD:=limbs_ok (val Y*2 ^ s)
  generalize hL:limbs (val Y*2 ^ s)=L at *
  have HL:=Lib.hid hL;clear hL
  generalize hDD:val Y*2 ^ s=D at *
  have HDD:=Lib.hid hDD;clear hDD
  clear hge hZv
  have hsz1:=hZb.lt
  have hsz2:=hDb.lt
  have hZ2:Blk w2 w.heap.size Z0 []:=hZb.below hbl2 hsz1
  have hbl02:Below w.heap.size w w2:=hbl1.trans (hbl2.mono (by omega))
  generalize hG1:w.heap.size=G1 at *
  generalize hG2:w1.heap.size=G2 at *
  have HG:=Lib.hid (show G1<G2 from hsz1)
  have HG2:=hsz2
  clear hZb hbl1 hbl2 hsz1 hDb
  go_wp2_with fail
  refine KC.out.mono ?_
  rintro e w' ⟨rfl,rfl⟩
  go_wp2_with (at_make;refine wpl_make _ rfl _ _ rfl _ _ _ _ (n - j) rfl rfl (by omega) (by omega) (by omega) ?_;intro w3 hB3 hb3)
  have hZ3:Blk w3 G1 Z0 []:=hZ2.below hb3 hZ2.lt
  have hrD3:=hrD.below hb3
  have hbl3:Below G1 w w3:=hbl02.trans (hb3.mono (Nat.le_of_lt hZ2.lt))
  generalize hG3:w2.heap.size=G3 at *
  have HG23:=Lib.hid HG2;clear HG2
  have HG3:=Lib.hid (show G1<G3 from hG3 ▸ hZ2.lt)
  clear hb3 hZ2 hbl02 hrD
  go_step3
  go_wp2
  go_loopg [8] (n - j) (fun k i wr=>DLRel n j D (val X*2 ^ s) L G1 G2 G3 w k i wr)
  case atStart=>exact ⟨Z0,_,Nat.le_refl _,rfl,HS.out,hZ3,hrD3,hB3,hbl3⟩
  case round =>
    obtain ⟨Z,Q,hk,rfl,hinv,hbZ,hrL,hbQ,hbl⟩:=hrel
    rcases gk with _ | i
    · rw [show (((0:Nat):Int) - 1) = -1 from rfl]
      have hb0:0<val Y:=by
        have h1:=HP.out.pos
        rw [← HDD.out] at h1
        exact pos_of_mul h1
      have hend:=dv_end (a:=val X) (Nat.pow_pos (by decide:0<2) (n:=s)) hb0 (by rw [HDD.out];exact hinv) rfl
      have hzl:=hinv.zl
      have hzo:=hinv.zo
      have hql:=hinv.ql
      have hqo:=hinv.qo
      have htk:=val_take_all (Z:=Z) (D:=D) (m:=j+1) (by omega) (by rw [← HDD.out];exact hend.2.2) HP.out.lt
      have KQ:=fun (W:World) (h:Blk W G3 Q [])=>cut_nat (some ⟨G3,0,none⟩) (n - j) (n - j) Q W (by omega) (Nat.le_refl _) (by omega) hqo h.rd_all
      have KS:=fun (W:World) (h:Blk W G1 Z [])=>shiftDown_any (some ⟨G1,0,none⟩) (j+1) (n+1) (Z.take (j+1)) s W (by rw [List.length_take];omega) (by omega) (by omega) (hzo.take _) (by have:=h.rd 0 (j+1) (by omega);simpa using this) hs1
      rw [htk,hend.2.1] at KS
      rw [hend.1] at KQ
      have KQH:=Lib.hid KQ
      have KSH:=Lib.hid KS
      have HQL:=Lib.hid hql
      have HQE:=Lib.hid hend.1
      have hown1:Own G1 wr (.slice (some ⟨G3,0,none⟩) (limbs (val X / val Y)).length (n - j)) (limbs (val X / val Y)):=by
        have h1:=hbQ.own (Nat.le_of_lt HG3.out) hqo (limbs (val Q)).length (n - j) (limbs_len_le hqo) (by rw [hql];simp) (by unfold maxLen;omega)
        rw [← cutLen_eq hqo,cut_limbs hqo,cutLen_eq hqo,hend.1] at h1
        exact h1
      have HOW:=Lib.hid hown1
      clear KQ KS hzl hql htk hend hinv hown1
      go_wp2
      go_region_with (first
        | (go_at_call 120;refine (KQH.out _ (by exact hbQ)).mono ?_;rintro e w' ⟨rfl,rfl⟩)
        | (go_at_call 217;refine (KSH.out _ (by exact hbZ)).mono ?_;rintro e w' ⟨v2,rfl,hv2,hb2⟩))
      all_goals
        go_wp2
        try rw [Exit.noGoto_ret]
        go_ret2
        have ho1:Own G1 wr.drew (.slice (some ⟨G3,0,none⟩) (limbs (val X / val Y)).length (n - j)) (limbs (val X / val Y)):=HOW.out
        have hsz:G1≤wr.drew.heap.size:=Nat.le_of_lt hbZ.lt
        refine ⟨_,v2,rfl,?_,?_,?_⟩
        · rw [hG1];exact ho1.below hb2
        · rw [hG1];exact hv2.mono hsz
        · rw [hG1];exact hbl.drew.trans (hb2.mono hsz)
    · rw [show (((i+1:Nat):Int) - 1)=(i:Int) by omega]
      have hcut:i+(j+1)≤n:=by omega
      have hrZ:=hbZ.rd i (j+1+1) (by rw [hinv.zl];omega)
      have hzw:((Z.drop i).take (j+1+1)).length=j+1+1:=by rw [List.length_take,List.length_drop,hinv.zl];omega
      have KG:=guess_any G1 i (j+1) (n+1 - i) (some ⟨G2,0,none⟩) (j+1+1) _ L wr (by omega) HLD.out (by omega) hzw ((hinv.zo.drop i).take _) hoD hrZ hrL (by have:=HP.out.top;rw [HL.out] at this;have:=B32_pos;rw [Nat.add_sub_cancel];omega)
      rw [Nat.add_sub_cancel,win_getD _ _ _ _ (by omega),win_getD _ _ _ _ (by omega)] at KG
      have hgw:=guess_win hcut HP.out HL.out hinv
      have hgl:=gs_lt (Z.getD (i+(j+1)) 0) (Z.getD (i+j) 0) (L.getD j 0)
      generalize gs (Z.getD (i+(j+1)) 0) (Z.getD (i+j) 0) (L.getD j 0)=g at *
      have HGW:=Lib.hid hgw;clear hgw
      have KGH:=Lib.hid KG;clear KG
      have hcq:=hbQ.cell i (by rw [hinv.ql];omega)
      have hfq:=hbQ.free i
      have hzl:=Lib.hid hinv.zl
      have hinvh:=Lib.hid hinv;clear hinv hzw hrZ
      generalize Q.getD i 0=q0 at *
      go_wp2_with fail
      rw [show i+(j+1)+1 - i=j+1+1 by omega]
      refine KGH.out.mono ?_
      rintro e w' ⟨rfl,q,rfl⟩
      go_wp2_with fail
      rw [set_blk (hbQ.drewN q) i g (by rw [hinvh.out.ql];omega)]
      have hD2:2*D≤B32 ^ (j+2):=by
        have h1:=HP.out.lt
        have h2:2*B32 ^ (j+1)≤B32 ^ (j+2):=pow_two_le (j+1)
        omega
      have hvL:val L=D:=by rw [← HL.out];exact val_limbs D
      have hbZ1:Blk (put G3 (Q.set i g) [] (wr.drewN q)) G1 Z []:=(hbZ.drewN q).put_ne (by have:=HG3.out;omega)
      have hrL1:Rd (put G3 (Q.set i g) [] (wr.drewN q)) (some ⟨G2,0,none⟩) L:=(hrL.drewN q).put (fun a e _=>by cases e;have:=HG23.out;simp;omega) _ _
      have hbQ1:Blk (put G3 (Q.set i g) [] (wr.drewN q)) G3 (Q.set i g) []:=put_blk _ _ hbQ.lt
      have hbl1:Below G1 w (put G3 (Q.set i g) [] (wr.drewN q)):=put_below (below_drewN' hbl q) (Nat.le_of_lt HG3.out) _ _
      clear hbZ hrL hbQ hbl KGH hcq hfq
      generalize put G3 (Q.set i g) [] (wr.drewN q)=W at *
      have hneL:∀ a,some (⟨G2,0,none⟩:Addr)=some a→0<L.length→a.block ≠ G1:=fun a e _=>by cases e;have:=HG.out;simp;omega
      refine (takeTimes_any G1 i (j+1+1) (n+1 - i) (some ⟨G2,0,none⟩) (j+1) (j+1+1) g Z L [] W HLD.out (by omega) (by omega) (by omega) (by rw [hzl.out];omega) hinvh.out.zo hoD hgl hbZ1 hrL1 hneL).mono ?_
      rintro e w' ⟨Zt,ov,rfl,hwin,hozt,hval,rfl⟩
      have hvt:=win_val_lt hozt (show i+(j+2)≤Zt.length by rw [hwin.len,hzl.out];omega)
      rw [hvL] at hval
      have HC:=Lib.hid (take_case HP.out.pos HGW.out.1 HGW.out.2 hvt hD2 hval)
      have HV:=Lib.hid hval;clear hval
      have HVT:=Lib.hid hvt;clear hvt
      have HVL:=Lib.hid hvL;clear hvL
      have HD2:=Lib.hid hD2;clear hD2
      have hbZ2:Blk (put G1 Zt [] W) G1 Zt []:=put_blk _ _ hbZ1.lt
      have hrL2:Rd (put G1 Zt [] W) (some ⟨G2,0,none⟩) L:=hrL1.put hneL _ _
      have hbQ2:Blk (put G1 Zt [] W) G3 (Q.set i g) []:=hbQ1.put_ne (by have:=HG3.out;omega)
      have hbl2:Below G1 w (put G1 Zt [] W):=put_below hbl1 (Nat.le_refl _) _ _
      clear hbZ1 hrL1 hbQ1 hbl1 hneL
      generalize put G1 Zt [] W=W2 at *
      rcases HC.out with ⟨rfl,hg,hlt⟩ | ⟨rfl,hg⟩
      · have hstep:DvInv n (j+1) i Zt (Q.set i g) D (val X*2 ^ s) :=
          dv_step (by omega) HP.out.lt hinvh.out hwin hozt hgl (by have:=HV.out;rw [Nat.mul_zero,Nat.add_zero] at this;exact this) hlt
        have HST:=Lib.hid hstep;clear hstep hg hlt HC
        go_wp2
        go_roundg i
        case measure=>omega
        case rel=>exact ⟨Zt,_,by omega,rfl,HST.out,hbZ2,hrL2,hbQ2,hbl2⟩
      · clear HC
        have hgd:g=wv Z i (j+2) / D+(g - wv Z i (j+2) / D):=by omega
        have HGD:=Lib.hid hgd
        have hpos:0<g - wv Z i (j+2) / D:=by omega
        clear hgd hg
        generalize g - wv Z i (j+2) / D=gg at *
        go_wp2
        go_loopg [] gg (fun k wr=>DMRel n j i D L Z Q G1 G2 G3 w k wr)
        case atStart=>exact ⟨g,Zt,HGD.out,hpos,hgl,hwin,hozt,by have:=HV.out;rw [Nat.mul_one] at this;exact this,hbZ2,hrL2,hbQ2,hbl2⟩
        case round =>
          clear hbZ2 hrL2 hbQ2 hbl2 HV HVT HGD hwin hozt hgl hpos HGW
          obtain ⟨g1,Zc,hg1,hk0,hgl,hwin,hozt,hval,hbZ2,hrL2,hbQ2,hbl2⟩:=hrel
          have HG1:=Lib.hid hg1
          have hg0:1≤g1:=by rw [hg1];exact Nat.le_trans hk0 (Nat.le_add_left _ _)
          have hgq:wv Z i (j+2) / D<g1:=by rw [hg1];exact Nat.lt_add_of_pos_right hk0
          have HGQ:=Lib.hid hgq
          have HV:=Lib.hid hval
          clear hg1 hgq hval
          have hgl':=hgl
          rw [B32_eq] at hgl'
          have hcq:=hbQ2.cell i (by rw [List.length_set,hinvh.out.ql];omega)
          rw [getD_set_self _ _ _ (by rw [hinvh.out.ql];omega)] at hcq
          have hfq:=hbQ2.free i
          have e1:Hid (wr.setCell ⟨G3,i,none⟩ (.int .u32 ((g1:Int) - 1))=put G3 (Q.set i (g1 - 1)) [] wr):=by
            unfold Hid
            rw [show ((g1:Int) - 1)=((g1 - 1:Nat):Int) by omega,set_blk hbQ2 i (g1 - 1) (by rw [List.length_set,hinvh.out.ql];omega),List.set_set]
          have hneL:∀ a,some (⟨G2,0,none⟩:Addr)=some a→0<L.length→a.block ≠ G1:=fun a e _=>by cases e;have:=HG.out;simp;omega
          have hbZ3:Blk (put G3 (Q.set i (g1 - 1)) [] wr) G1 Zc []:=hbZ2.put_ne (by have:=HG3.out;omega)
          have hrL3:Rd (put G3 (Q.set i (g1 - 1)) [] wr) (some ⟨G2,0,none⟩) L:=hrL2.put (fun a e _=>by cases e;have:=HG23.out;simp;omega) _ _
          have hbQ3:Blk (put G3 (Q.set i (g1 - 1)) [] wr) G3 (Q.set i (g1 - 1)) []:=put_blk _ _ hbQ2.lt
          have hbl3:Below G1 w (put G3 (Q.set i (g1 - 1)) [] wr):=put_below hbl2 (Nat.le_of_lt HG3.out) _ _
          go_wp2_with fail
          rw [e1.out]
          clear hbZ2 hrL2 hbQ2 hbl2 hcq hfq e1
          generalize put G3 (Q.set i (g1 - 1)) [] wr=W3 at *
          refine (addTo_any G1 i (j+1+1) (n+1 - i) (some ⟨G2,0,none⟩) (j+1) (j+1+1) Zc L [] W3 HLD.out (by omega) (by omega) (by omega) (by rw [hwin.len,hzl.out];omega) hozt hoD hbZ3 hrL3 hneL).mono ?_
          rintro e w' ⟨Zn,cy,rfl,hcy,hwin2,hozn,hval2,rfl⟩
          rw [HVL.out] at hval2
          have hvt:=win_val_lt hozn (show i+(j+2)≤Zn.length by rw [hwin2.len,hwin.len,hzl.out];omega)
          have hwin3:Win Z Zn i (j+2):=⟨by rw [hwin2.len,hwin.len],by rw [hwin2.lo,hwin.lo],by rw [hwin2.hi,hwin.hi]⟩
          have hbZ4:Blk (put G1 Zn [] W3) G1 Zn []:=put_blk _ _ hbZ3.lt
          have hrL4:Rd (put G1 Zn [] W3) (some ⟨G2,0,none⟩) L:=hrL3.put hneL _ _
          have hbQ4:Blk (put G1 Zn [] W3) G3 (Q.set i (g1 - 1)) []:=hbQ3.put_ne (by have:=HG3.out;omega)
          have hbl4:Below G1 w (put G1 Zn [] W3):=put_below hbl3 (Nat.le_refl _) _ _
          clear hbZ3 hrL3 hbQ3 hbl3 hneL
          generalize put G1 Zn [] W3=W4 at *
          have HC:=Lib.hid (back_case HP.out.pos HGQ.out hvt HV.out hcy hval2)
          clear hval2 hvt hwin2 hwin
          rcases HC.out with ⟨rfl,hq,hfin,hlt⟩ | ⟨rfl,hq,hfin⟩
          · have hstep:DvInv n (j+1) i Zn (Q.set i (g1 - 1)) D (val X*2 ^ s) :=
              dv_step (by omega) HP.out.lt hinvh.out hwin3 hozn (by omega) hfin hlt
            have HST:=Lib.hid hstep;clear hstep hq hfin hlt HC
            go_wp2
            go_roundg i
            case measure=>omega
            case rel=>exact ⟨Zn,_,by omega,rfl,HST.out,hbZ4,hrL4,hbQ4,hbl4⟩
          · have HF:=Lib.hid hfin
            have HQ:=Lib.hid hq
            clear hfin hq HC
            go_wp2
            go_roundg (gk - 1)
            case measure=>omega
            case rel=>exact ⟨g1 - 1,Zn,by rw [HG1.out];exact Nat.add_sub_assoc hk0 _,dm_pos HG1.out HQ.out,by omega,hwin3,hozn,HF.out,hbZ4,hrL4,hbQ4,hbl4⟩
end Go.Proofs.YtnacbakcalcgaaaGreatDoor
