/- Texts of the claim. -/
import Derived.Test.YtijaphbccnadbaaGreatDoorUa
import Derived.Lib.Strings
import Derived.Lib.Slices
import Derived.Lib.Small
import Derived.Lib.Walk
import Derived.Lib.BitFns
import Derived.Laws.CopyOwn
set_option linter.unusedVariables false
set_option linter.unusedSimpArgs false
set_option maxHeartbeats 2000000
set_option maxRecDepth 100000
namespace Go.Proofs.YtijaphbccnadbaaGreatDoor
open Go.RowKit
open Go.RowKit
open Go.RowKit
theorem cut_any (ad:Option Addr) (n cap:Nat) (xs:List Nat) (w:World) (hn:xs.length=n) (hcap:n≤cap) (hm:n≤1000000000000) (hr:Rd w ad xs) :
    Calls Tryz.prog 181 #[.slice ad n cap] w fun e w'=>e=.returned (.slice ad (cutLen xs n) cap)∧w=w':=by
  go_enter Tryz.func181,Tryz.ntmps181
  go_wp2
  go_loop [3] (fun i=>∃ k:Nat,k≤n∧i=.int .i64 k∧cutLen xs k=cutLen xs n) (fun i=>(intOf i).toNat)
  case atStart=>exact ⟨n,Nat.le_refl _,rfl,rfl⟩
  case round =>
    obtain ⟨k,hk,rfl,he⟩:=hrel
    have HE:=Lib.hid he;clear he
    rcases k with _ | k
    · have h0:cutLen xs n=0:=by rw [← HE.out];rfl
      have H0:=Lib.hid h0;clear h0
      go_wp2
      go_ret
      rw [H0.out];exact ⟨rfl,rfl⟩
    · obtain ⟨b,o,hadd,_,hc⟩:=hr k (by omega)
      subst hadd
      generalize hx:xs.getD k 0=x at *
      have HX:=Lib.hid hx;clear hx
      by_cases hz:x=0
      · go_wp2
        go_round
        case rel=>exact ⟨k,by omega,rfl,by rw [← HE.out];simp only [cutLen];rw [if_pos (by rw [HX.out];exact hz)]⟩
        case measure=>simp [intOf]
      · have h0:cutLen xs n=k+1:=by rw [← HE.out];simp only [cutLen];rw [if_neg (by rw [HX.out];exact hz)]
        have H0:=Lib.hid h0;clear h0
        go_wp2
        go_ret
        rw [H0.out];exact ⟨rfl,rfl⟩
structure Win (ys zs:List Nat) (o m:Nat):Prop where
  len:zs.length=ys.length
  lo:zs.take o=ys.take o
  hi:zs.drop (o+m)=ys.drop (o+m)
theorem Win.refl (ys:List Nat) (o m:Nat):Win ys ys o m:=⟨rfl,rfl,rfl⟩
theorem Win.set {ys zs:List Nat} {o m:Nat} (h:Win ys zs o m) (k v:Nat) (hk:k<m):Win ys (zs.set (o+k) v) o m:=by
  refine ⟨by rw [List.length_set];exact h.len,?_,?_⟩
  · rw [List.take_set_of_le (by omega)];exact h.lo
  · rw [List.drop_set_of_lt (by omega)];exact h.hi
def wv (ys:List Nat) (o k:Nat):Nat:=val ((ys.drop o).take k)
theorem wv_succ (ys:List Nat) (o k:Nat) (h:o+k<ys.length):wv ys o (k+1)=wv ys o k+B32 ^ k*ys.getD (o+k) 0:=by
  unfold wv
  rw [val_take_succ _ _ (by rw [List.length_drop];omega)]
  simp [List.getD]
theorem wv_set (ys:List Nat) (o k v:Nat) (h:o+k<ys.length):wv (ys.set (o+k) v) o (k+1)=wv ys o k+B32 ^ k*v:=by
  rw [wv_succ _ _ _ (by rw [List.length_set];exact h)]
  have e:wv (ys.set (o+k) v) o k=wv ys o k:=by
    unfold wv;rw [List.drop_set,if_neg (by omega),List.take_set_of_le (by omega)]
  rw [e];simp [List.getD,h]
theorem mul_bd {x f:Nat} (hx:x<B32) (hf:f<B32):0≤(x:Int)*(f:Int)∧(x:Int)*(f:Int)≤18446744065119617025:=by
  rw [B32_eq] at hx hf
  have h:=Nat.mul_le_mul (Nat.le_of_lt_succ hx) (Nat.le_of_lt_succ hf)
  have e:(x:Int)*(f:Int)=((x*f:Nat):Int):=by push_cast;rfl
  rw [e];omega
theorem win_ext {zs ys:List Nat} {o k:Nat} {v:Nat} (h:∀ j,k≤j→zs.getD (o+j) 0=ys.getD (o+j) 0):∀ j,k+1≤j→(zs.set (o+k) v).getD (o+j) 0=ys.getD (o+j) 0:=by
  intro j hj
  rw [← h j (by omega)]
  simp only [List.getD]
  rw [List.getElem?_set_ne (by omega)]
theorem info_u32:(Tryz.prog.info? 130).map (fun i=>(i.zero,i.size,i.bytes))=some (some (.int .u32 0),1,4):=by kernel_rfl
theorem made_zero (n:Nat):(madeCells (Value.cells (.int .u32 0)) n).toList=(List.replicate n 0).map lv++[]:=by
  simp only [madeCells,List.append_nil]
  apply List.ext_getElem
  · simp
  · intro i h1 h2;simp [Value.cells,lv,Nat.mod_one]
theorem wpl_make (w:World) {ops:Array Oper} {rest:List Oper} {o:Oper} {a:Act} {Q:Exit→Act→World→Prop}
    (hg:o.guard=none) (l c:Operand) (hop:o.op=Op.makeSlice 22 l c) (kl kc:IntKind) (L C:Int) (n:Nat)
    (hl:a.eval l=.int kl L) (hc:a.eval c=.int kc C) (hL:L=(n:Int)) (hC:C=(n:Int)) (hn:n≤1000000000000)
    (hK:∀ w',Blk w' w.heap.size (List.replicate n 0) []→Below w.heap.size w w'→wpList Tryz.prog ops Q rest (a.put o.dst (.slice (some ⟨w.heap.size,0,none⟩) n n)) w') :
    wpList Tryz.prog ops Q (o::rest) a w:=by
  obtain ⟨i0,hi,hz0,hz1,hz2⟩:=info_parts info_u32
  refine wpList_make_full w hg l c 22 hop w.heap.size 130 i0 (.int .u32 0) 1 Tryz.underlying22 hi hz0 hz1 kl kc L C n hl hc hL hC (by rw [hz2];omega) (by unfold maxLen;omega) (Nat.le_refl _) ?_
  intro w' ho hgr
  refine hK w' ?_ ((Below.refl _ _).grown hgr (Nat.le_refl _) (fun k h=>by cases h))
  obtain ⟨hl',h | ⟨g,cap,cur,e,_,hh,_,_,hs,ht⟩⟩:=ho
  · exact absurd h.1 (by simp)
  · simp only [Value.slice.injEq,Option.some.injEq,Addr.mk.injEq] at e
    obtain ⟨⟨rfl,_⟩,_,rfl⟩:=e
    unfold Blk
    rw [hh,← made_zero]
    have:cur.toList=(madeCells (Value.cells (.int .u32 0)) n).toList:=by
      have h2:=ht
      rw [List.take_of_length_le (by simp [hs])] at h2
      simpa using h2
    rw [← this]
theorem wpl_copy {w:World} {ops:Array Oper} {rest:List Oper} {o:Oper} {a:Act} {Q:Exit→Act→World→Prop} (hgd:o.guard=none) (d s:Operand)
    (ho:o.op=.call { callee:=.builtin .copy,args:=#[d,s],argTypes:=#[22,22] }) (g n cap:Nat) (ad:Option Addr) (m cap':Nat)
    (hd:a.eval d=.slice (some ⟨g,0,none⟩) n cap) (hs:a.eval s=.slice ad m cap') (ys xs:List Nat) (r:List Value) (hb:Blk w g ys r) (hy:ys.length=n) (hx:xs.length=m) (hmn:m≤n) (hr:Rd w ad xs)
    (h:wpList Tryz.prog ops Q rest (a.put o.dst (goInt m)) (put g (xs++ys.drop m) r w)):wpList Tryz.prog ops Q (o::rest) a w:=by
  have hsz:(Tryz.prog.info? 130).map (·.size)=some 1:=by kernel_rfl
  by_cases h0:m=0
  · subst h0
    obtain rfl:xs=[]:=List.eq_nil_of_length_eq_zero hx
    refine wpList_copy_nothing hgd d s _ _ ho 130 Tryz.underlying22 hsz _ _ _ _ _ _ hd hs (by simp) ?_
    rw [List.nil_append,List.drop_zero,put_same hb] at h
    exact h
  · obtain ⟨b,o',e,_,_⟩:=hr 0 (by omega)
    subst e
    refine wpList_copy_own hgd d s _ _ ho 130 Tryz.underlying22 hsz g 0 n cap ⟨b,o',none⟩ m cap' hd hs _ _ hb (xs.map lv) (by rw [List.length_map,hx];exact (Nat.min_eq_left hmn).symm) ?_ (by simp;omega) ?_ ?_
    · intro j v hj
      have hjl:j<xs.length:=by
        rcases Nat.lt_or_ge j xs.length with h1 | h1
        · exact h1
        · rw [List.getElem?_eq_none (by simpa using h1)] at hj;cases hj
      have hc:=hr.at j hjl
      have e:(Addr.add ⟨b,o',none⟩ j)=⟨b,o'+j,none⟩:=by unfold Addr.add;split <;> simp_all
      rw [e,hc]
      rw [List.getElem?_map,List.getElem?_eq_getElem hjl] at hj
      simp only [Option.map_some,Option.some.injEq] at hj
      rw [← hj];simp [lv,List.getD,hjl]
    · intro v hv
      obtain ⟨x,_,rfl⟩:=List.mem_map.1 hv
      rfl
    · have e:w.setRow g ((List.map lv ys++r).toArray.toList.take 0++(xs.map lv++(List.map lv ys++r).toArray.toList.drop (0+(xs.map lv).length))).toArray=put g (xs++ys.drop m) r w:=by
        have hlt:=hb.lt
        unfold Blk at hb
        have e2:(w.setRow g ((List.map lv ys++r).toArray.toList.take 0++(xs.map lv++(List.map lv ys++r).toArray.toList.drop (0+(xs.map lv).length))).toArray).heap=(put g (xs++ys.drop m) r w).heap:=by
          apply Array.ext_getElem?
          intro k
          by_cases hk:k=g
          · subst hk
            rw [setRow_heap _ _ _ _ _ _ hb]
            simp only [put]
            rw [Array.getElem?_setIfInBounds_self_of_lt hlt]
            simp only [List.take_zero,List.nil_append,List.length_map,Nat.zero_add,hx,List.map_append,List.map_drop,List.append_assoc]
            rw [List.drop_append_of_le_length (by simp;omega)]
          · rw [setRow_other _ _ _ _ hk,put_other _ _ _ _ _ hk]
        unfold World.setRow at e2 ⊢
        unfold put at e2 ⊢
        simp only at e2
        rw [e2]
      rw [e]
      rw [List.length_map,hx]
      exact h
theorem Own.row {B:Nat} {w:World} {v:Value} {xs:List Nat} (h:Own B w v xs):w.ownsRow B 130 1 v xs.length (xs.map lv):=by
  obtain ⟨_,⟨rfl,rfl⟩ | ⟨g,cap,r,rfl,hg,hb,hc,hm⟩⟩:=h
  · exact ⟨by simp,.inl ⟨rfl,rfl⟩⟩
  · refine ⟨by simp,.inr ⟨g,cap,_,rfl,hg,hb,by omega,hm,by simp;omega,?_⟩⟩
    simp
theorem own_of_row {B:Nat} {w:World} {v:Value} {n:Nat} {xs:List Nat} (h:w.ownsRow B 130 1 v n (xs.map lv)) (ho:Okl xs):Own B w v xs:=by
  obtain ⟨hl,⟨rfl,rfl⟩ | ⟨g,cap,cur,rfl,hg,hb,hc,hm,hs,ht⟩⟩:=h
  · have:xs=[]:=List.eq_nil_of_length_eq_zero (by simpa using hl)
    subst this
    exact Own.nil _ _
  · simp only [List.length_map,Nat.mul_one] at hl
    subst hl
    refine ⟨ho,.inr ⟨g,cap,cur.toList.drop xs.length,rfl,hg,?_,?_,hm⟩⟩
    · unfold Blk;rw [hb]
      have:cur=(xs.map lv++cur.toList.drop xs.length).toArray:=by
        rw [← ht,Nat.mul_one,List.take_append_drop]
      rw [← this]
    · have:cur.toList.length=cap:=by simpa using hs
      rw [List.length_drop,this];omega
theorem Own.blockGe {B:Nat} {w:World} {v:Value} {xs:List Nat} (h:Own B w v xs):∀ k,v.ownBlock=some k→B≤k:=by
  obtain ⟨_,⟨rfl,rfl⟩ | ⟨g,cap,r,rfl,hg,_⟩⟩:=h
  · intro k e;cases e
  · intro k e;cases e;exact hg
theorem wpl_append {w:World} {ops:Array Oper} {rest:List Oper} {o:Oper} {a:Act} {Q:Exit→Act→World→Prop} (hgd:o.guard=none) (s x:Operand)
    (ho:o.op=.call { callee:=.builtin .append,args:=#[s,x],argTypes:=#[22,22] }) (B:Nat) (v:Value) (xs:List Nat) (hs:a.eval s=v) (hown:Own B w v xs)
    (ad:Addr) (c:Nat) (y:Nat) (hx:a.eval x=.slice (some ad) 1 c) (hy:y<B32) (hc:w.cell? ad=some (.int .u32 (y:Int))) (hl:xs.length≤1000000000) (hB:B≤w.heap.size)
    (h:∀ v' w',Own B w' v' (xs++[y])→Below B w w'→w.grownBy w' v.ownBlock→wpList Tryz.prog ops Q rest (a.put o.dst v') w'):wpList Tryz.prog ops Q (o::rest) a w:=by
  obtain ⟨i0,hi,hz0,hz1,hz2⟩:=info_parts info_u32
  refine wpList_append_own w hgd s x 22 ho B 130 i0 (.int .u32 0) 1 4 Tryz.underlying22 hi hz0 hz1 hz2 rfl (by decide) v xs.length (xs.map lv) hs hown.row ad 1 c [lv y] hx rfl ?_ ?_ (by unfold maxLen;omega) (by omega) hB ?_
  · intro j u hj
    rcases j with _ | j
    · simp only [List.getElem?_cons_zero,Option.some.injEq] at hj
      subst hj;simpa [Addr.add,lv] using hc
    · simp at hj
  · intro u hu;simp only [List.mem_singleton] at hu;subst hu;rfl
  · intro v' w' hown' hgr _
    refine h v' w' ?_ ((Below.refl _ _).grown hgr hB hown.blockGe) hgr
    have e:xs.map lv++[lv y]=(xs++[y]).map lv:=by simp
    rw [e] at hown'
    exact own_of_row hown' (hown.1.append (Okl.cons hy Okl.nil))
end Go.Proofs.YtijaphbccnadbaaGreatDoor
namespace Go.Proofs.YtijaphbccnadbaaGreatDoor
open Go.RowKit
open Go.RowKit
def Gives (N:Nat) (w:World) (e:Ending) (w':World):Prop :=
  ∃ v,e=.returned v∧Own w.heap.size w' v (limbs N)∧Below w.heap.size w w'
theorem norm_any (ad:Option Addr) (n cap:Nat) (xs:List Nat) (w:World) (hn:xs.length=n) (hcap:n≤cap) (hm:n≤1000000000) (ho:Okl xs) (hr:Rd w ad xs) :
    Calls Tryz.prog 144 #[.slice ad n cap] w (Gives (val xs) w):=by
  have hcl:=cutLen_le xs n
  have hce:=cutLen_eq ho
  have hcv:=cut_limbs ho
  rw [hn] at hce hcv
  have hr':Rd w ad (limbs (val xs)):=by rw [← hcv];exact hr.take _
  have HC:=Lib.hid hcv;clear hcv
  generalize hc:cutLen xs n=c at *
  have HCC:=Lib.hid hc;clear hc
  have HCE:=Lib.hid hce.symm;clear hce
  have hr1:∀ w1,Below w.heap.size w w1→Rd w1 ad (limbs (val xs)):=fun w1 hb=>hr'.below hb
  have HR1:=Lib.hid hr1;clear hr1
  go_enter Tryz.func144,Tryz.ntmps144
  go_wp2_with (first
    | (go_at_call 181;refine (cut_any ad n cap xs w hn hcap (by omega) hr).mono ?_;rw [HCC.out];rintro e w' ⟨rfl,rfl⟩)
    | (at_make;refine wpl_make _ rfl _ _ rfl _ _ _ _ c rfl rfl rfl rfl (by omega) ?_;intro w1 hB1 hb1)
    | (with_reducible refine wpl_copy rfl (.tmp 10) (.tmp 11) rfl _ _ _ _ _ _ rfl rfl _ (limbs (val xs)) _ hB1 List.length_replicate HCE.out (Nat.le_refl _) (HR1.out _ hb1) ?_))
  go_ret
  have hbk:=put_blk (limbs (val xs)) [] hB1.lt
  refine ⟨_,rfl,?_,put_below hb1 (Nat.le_refl _) _ _⟩
  have:=hbk.own (Nat.le_refl _) (limbs_ok _) c c (by rw [HCE.out];exact Nat.le_refl _) (by simp [HCE.out]) (by unfold maxLen;omega)
  rwa [List.take_of_length_le (by rw [HCE.out];exact Nat.le_refl _)] at this
def cmpN (a b:Nat):Int:=if a<b then -1 else if a=b then 0 else 1
theorem cmpN_lt {a b:Nat} (h:a<b):cmpN a b = -1:=by unfold cmpN;rw [if_pos h]
theorem cmpN_gt {a b:Nat} (h:b<a):cmpN a b=1:=by unfold cmpN;rw [if_neg (by omega),if_neg (by omega)]
theorem cmpN_eq (a:Nat):cmpN a a=0:=by unfold cmpN;rw [if_neg (by omega),if_pos rfl]
theorem limbs_len_lt {a b:Nat} (h:(limbs a).length<(limbs b).length):a<b:=by
  rcases Nat.lt_or_ge a b with h1 | h1
  · exact h1
  · have:=limbs_length_le (n:=(limbs a).length) (N:=b) (Nat.lt_of_le_of_lt h1 (limbs_lt_pow a))
    omega
theorem val_top_lt {xs ys:List Nat} (hx:Okl xs) (hy:Okl ys) (hl:xs.length=ys.length) (j:Nat) (hj:j<xs.length) (hs:∀ i,j+1≤i→xs.getD i 0=ys.getD i 0) (h:xs.getD j 0<ys.getD j 0):val xs<val ys:=by
  have e:∀ n,j+1≤n→n≤xs.length→val (xs.take n)<val (ys.take n):=by
    intro n
    induction n with
    | zero=>intro h0;omega
    | succ n ih =>
      intro h1 h2
      rw [val_take_succ xs n (by omega),val_take_succ ys n (by omega)]
      by_cases hn:n=j
      · subst hn
        have b1:=val_lt (hx.take n)
        rw [List.length_take,Nat.min_eq_left (by omega)] at b1
        have:B32 ^ n*(xs.getD n 0+1)≤B32 ^ n*ys.getD n 0:=Nat.mul_le_mul_left _ h
        rw [Nat.mul_add,Nat.mul_one] at this
        omega
      · rw [hs n (by omega)]
        have:=ih (by omega) (by omega)
        omega
  have:=e xs.length (by omega) (Nat.le_refl _)
  rw [List.take_length,hl,List.take_length] at this
  exact this
theorem getD_out {xs:List Nat} {j:Nat} (h:xs.length≤j):xs.getD j 0=0:=by simp [List.getD,h]
theorem list_eq_of_getD {xs ys:List Nat} (hl:xs.length=ys.length) (h:∀ j,0≤j→xs.getD j 0=ys.getD j 0):xs=ys:=by
  apply List.ext_getElem hl
  intro i h1 h2
  have:=h i (by omega)
  simpa [List.getD,h1,h2] using this
def CmpPost (a b:Nat) (w:World) (e:Ending) (w':World):Prop:=e=.returned (.int .i64 (cmpN a b))∧∃ q,w'=w.drewN q
def CmpRel (X Y:List Nat) (c:Nat) (w:World) (i:Value) (wr:World):Prop:=∃ (k q:Nat),k≤c∧i=.int .i64 ((k:Int) - 1)∧(∀ j,k≤j→X.getD j 0=Y.getD j 0)∧wr=w.drewN q
theorem cut_nat (ad:Option Addr) (n cap:Nat) (xs:List Nat) (w:World) (hn:xs.length=n) (hcap:n≤cap) (hm:n≤1000000000) (ho:Okl xs) (hr:Rd w ad xs) :
    Calls Tryz.prog 181 #[.slice ad n cap] w fun e w'=>e=.returned (.slice ad (limbs (val xs)).length cap)∧w=w':=by
  have h:=cutLen_eq ho
  rw [hn] at h
  rw [← h]
  exact cut_any ad n cap xs w hn hcap (by omega) hr
theorem limbs_len_le {xs:List Nat} (ho:Okl xs):(limbs (val xs)).length≤xs.length:=by
  rw [← cutLen_eq ho];exact cutLen_le _ _
theorem win_full {ys zs:List Nat} {n:Nat} (hl:ys.length=n) (h:Win ys zs 0 n):zs.length=n∧wv zs 0 n=val zs:=by
  have h1:zs.length=n:=by rw [h.len,hl]
  refine ⟨h1,?_⟩
  unfold wv;rw [List.drop_zero,List.take_of_length_le (by omega)]
theorem wv_full {ys:List Nat} {n:Nat} (hl:ys.length=n):wv ys 0 n=val ys:=by
  unfold wv;rw [List.drop_zero,List.take_of_length_le (by omega)]
theorem below_drewN' {B:Nat} {a w:World} (h:Below B a w) (n:Nat):Below B a (w.drewN n):=h.trans ⟨rfl,rfl,rfl,Nat.le_refl _,fun _ _=>rfl⟩
end Go.Proofs.YtijaphbccnadbaaGreatDoor
namespace Go.Proofs.YtijaphbccnadbaaGreatDoor
open Go.RowKit
open Go.RowKit
open Go.RowKit
def Makes (B N:Nat) (w:World) (e:Ending) (w':World):Prop:=∃ v,e=.returned v∧Own B w' v (limbs N)∧Below B w w'
theorem own_cut {B:Nat} {w:World} {v:Value} {xs:List Nat} (h:Own B w v xs):∃ ad cap,v=.slice ad xs.length cap∧xs.length≤cap∧Rd w ad xs∧Own B w (.slice ad (limbs (val xs)).length cap) (limbs (val xs)):=by
  obtain ⟨ho,⟨rfl,rfl⟩ | ⟨g,cap,r,rfl,hg,hb,hc,hm⟩⟩:=h
  · exact ⟨none,0,rfl,Nat.le_refl _,Rd.nil _ _,Own.nil _ _⟩
  · refine ⟨_,cap,rfl,by omega,hb.rd_all,?_⟩
    have:=hb.own hg ho (limbs (val xs)).length cap (limbs_len_le ho) hc hm
    rw [← cutLen_eq ho,cut_limbs ho,cutLen_eq ho] at this
    exact this
theorem cut_own (B:Nat) (v:Value) (xs:List Nat) (w:World) (h:Own B w v xs) (hm:xs.length≤1000000000) :
    Calls Tryz.prog 181 #[v] w fun e w'=>(∃ v',e=.returned v'∧Own B w v' (limbs (val xs)))∧w=w':=by
  obtain ⟨ad,cap,rfl,hc,hr,ho⟩:=own_cut h
  refine (cut_nat ad xs.length cap xs w rfl hc hm h.1 hr).mono ?_
  rintro e w' ⟨rfl,rfl⟩
  exact ⟨⟨_,rfl,ho⟩,rfl⟩
def TPRel (g n : Nat) (ys : List Nat) (f p : Nat) (r : List Value) (w : World) (c i : Value) (wr : World) : Prop :=
  ∃ (k cy : Nat) (zs : List Nat), k ≤ n ∧ i = .int .i64 k ∧ c = .int .u64 cy ∧ cy < B32 ∧ Win ys zs 0 n ∧ Okl zs ∧ (∀ j, k ≤ j → zs.getD (0 + j) 0 = ys.getD (0 + j) 0) ∧
    wv zs 0 k + B32 ^ k * cy = f * wv ys 0 k + p ∧ wr = put g zs r w
theorem tp_num {x f cy B a P W p s q:Nat} (h:a+P*cy=f*W+p) (e:s+B*q=x*f+cy):a+P*s+P*B*q=f*(W+P*x)+p:=by
  have h3:P*(s+B*q)=P*(x*f+cy):=by rw [e]
  grind
theorem tp_step {g n k cy f p x:Nat} {ys zs:List Nat} {r:List Value} {w:World} (hyl:ys.length=n) (hk:k<n) (hcy:cy<B32) (hf:f<B32) (hx:zs.getD (0+k) 0=x) (hxb:x<B32)
    (hb:Blk w g ys r) (hwin:Win ys zs 0 n) (hoz:Okl zs) (hs:∀ j,k≤j→zs.getD (0+j) 0=ys.getD (0+j) 0) (he:wv zs 0 k+B32 ^ k*cy=f*wv ys 0 k+p) :
    TPRel g n ys f p r w (.int .u64 (((x:Int)*(f:Int)+(cy:Int)) / 4294967296)) (.int .i64 ((k:Int)+1)) ((put g zs r w).setCell ⟨g,k,none⟩ (.int .u32 (((x:Int)*(f:Int)+(cy:Int)) % 4294967296))):=by
  have e1:((x:Int)*(f:Int)+(cy:Int)) / 4294967296=(((x*f+cy) / B32:Nat):Int):=by rw [B32_eq];omega
  have e2:((x:Int)*(f:Int)+(cy:Int)) % 4294967296=(((x*f+cy) % B32:Nat):Int):=by rw [B32_eq];omega
  rw [e1,e2,set_blk (put_blk _ _ hb.lt) _ _ (by rw [hwin.len];omega),put_put]
  have hbd:x*f≤18446744065119617025:=by
    rw [B32_eq] at hxb hf
    exact Nat.mul_le_mul (Nat.le_of_lt_succ hxb) (Nat.le_of_lt_succ hf)
  have hw:=hwin.set k ((x*f+cy) % B32) hk
  have hext:=win_ext (v:=(x*f+cy) % B32) hs
  have hset:=wv_set zs 0 k ((x*f+cy) % B32) (by rw [hwin.len];omega)
  rw [Nat.zero_add] at hw hext hset
  refine ⟨k+1,_,zs.set k ((x*f+cy) % B32),hk,rfl,rfl,?_,hw,hoz.set _ _ (Nat.mod_lt _ B32_pos),hext,?_,rfl⟩
  · rw [Nat.div_lt_iff_lt_mul B32_pos];rw [B32_eq] at *;omega
  · rw [hset,wv_succ ys 0 k (by omega),← hs k (Nat.le_refl _),hx,Nat.pow_succ]
    exact tp_num he (Nat.mod_add_div _ _)
theorem timesPlus_any (B:Nat) (v:Value) (xs:List Nat) (f p:Nat) (w:World) (hown:Own B w v xs) (hB:B≤w.heap.size) (hm:xs.length≤100000000) (hf:f<B32) (hp:p<B32) :
    Calls Tryz.prog 189 #[v,.int .u32 (f:Int),.int .u32 (p:Int)] w (Makes B (val xs*f+p) w):=by
  obtain ⟨hox,⟨rfl,rfl⟩ | ⟨g,cap,r,rfl,hg,hb,hc,hmx⟩⟩:=hown
  · have hp':=hp
    rw [B32_eq] at hp'
    by_cases h0:p=0
    · subst h0
      have K:=Lib.hid (cut_own B (.slice none 0 0) [] w (Own.nil _ _) (by simp))
      go_enter Tryz.func189,Tryz.ntmps189
      go_wp2
      refine wp_loop_rounds 1 ?_
      rw [rounds_succ]
      go_wp2_with fail
      refine K.out.mono ?_
      rintro e w' ⟨⟨v',rfl,hv'⟩,rfl⟩
      go_wp2
      go_ret
      exact ⟨v',rfl,by simpa [val] using hv',Below.refl _ _⟩
    · have hpos:(0:Int)<(p:Int):=by omega
      go_enter Tryz.func189,Tryz.ntmps189
      go_wp2
      refine wp_loop_rounds 1 ?_
      rw [rounds_succ]
      go_wp2_with (at_builtin;refine wpl_append rfl (.tmp 37) (.tmp 40) rfl B (.slice none 0 0) [] rfl (Own.nil _ _) ⟨w.heap.size,0,none⟩ 1 p rfl hp ?hcell (by simp) ?hbase ?_)
      case hcell=>simp
      case hbase=>simp;omega
      intro v1 w1 hown1 hbl1 _
      go_wp2_with fail
      refine (cut_own B v1 ([]++[p]) w1 hown1 (by simp)).mono ?_
      rintro e w' ⟨⟨v',rfl,hv'⟩,rfl⟩
      go_wp2
      go_ret
      exact ⟨v',rfl,by simpa [val] using hv',((Below.refl _ _).alloc hB _).trans hbl1⟩
  · have hp':=hp
    rw [B32_eq] at hp'
    generalize hn:xs.length=n at *
    have HN:=Lib.hid hn;clear hn
    have HC:=Lib.hid hc;clear hc
    go_enter Tryz.func189,Tryz.ntmps189
    go_wp2
    go_loopw [7,15] (fun c i wr=>TPRel g n xs f p r w c i wr) (fun _ i _=>n - (intOf i).toNat)
    case atStart=>exact ⟨0,p,xs,by omega,rfl,rfl,hp,Win.refl _ _ _,hox,fun _ _=>rfl,by simp [wv,val],(put_same hb).symm⟩
    case round =>
      obtain ⟨k,cy,zs,hk,rfl,rfl,hcy,hwin,hoz,hsame,heq,rfl⟩:=hrel
      have HS:=Lib.hid hsame;clear hsame
      have HE:=Lib.hid heq;clear heq
      have hbz:Blk (put g zs r w) g zs r:=put_blk _ _ hb.lt
      by_cases hlt:k<n
      · have hcz:=hbz.cell k (by rw [hwin.len,HN.out];exact hlt)
        have hfz:=hbz.free k
        have hzb:=hoz.getD k
        generalize hz:zs.getD k 0=z at *
        have R:=Lib.hid (tp_step (f:=f) HN.out hlt hcy hf (by rw [Nat.zero_add];exact hz) hzb hb hwin hoz HS.out HE.out)
        clear hz
        have hbd:=mul_bd hzb hf
        have hcy':=hcy
        have hf':=hf
        rw [B32_eq] at hzb hcy' hf'
        go_wp2
        go_roundw
        case rel=>exact R.out
        case measure=>simp [intOf];omega
      · obtain rfl:k=n:=by omega
        have hown:Own B (put g zs r w) (.slice (some ⟨g,0,none⟩) k cap) zs :=
          ⟨hoz,.inr ⟨g,cap,r,by rw [hwin.len,HN.out],hg,hbz,by rw [hwin.len,HN.out];exact HC.out,hmx⟩⟩
        have hv:val zs+B32 ^ k*cy=val xs*f+p:=by
          have h:=HE.out
          rw [(win_full HN.out hwin).2,wv_full HN.out,Nat.mul_comm f] at h
          exact h
        have HV:=Lib.hid hv;clear hv
        have hlz:=hwin.len
        rw [HN.out] at hlz
        have HZ:=Lib.hid hlz;clear hlz
        have hbl:Below B w (put g zs r w):=put_below (Below.refl _ _) hg _ _
        have hBp:B≤(put g zs r w).heap.size:=by rw [put_heap];exact hB
        clear hwin
        by_cases h0:cy=0
        · subst h0
          have hv:=HV.out
          rw [Nat.mul_zero,Nat.add_zero] at hv
          have HW:=Lib.hid hv;clear hv
          go_wp2_with fail
          refine (cut_own B _ zs _ hown (by rw [HZ.out];omega)).mono ?_
          rintro e w' ⟨⟨v',rfl,hv'⟩,rfl⟩
          go_wp2
          go_ret
          exact ⟨v',rfl,by rw [← HW.out];exact hv',hbl⟩
        · have hpos:(0:Int)<(cy:Int):=by omega
          have hcy':=hcy
          rw [B32_eq] at hcy'
          generalize hW:put g zs r w=W at *
          clear hW
          go_wp2_with (at_builtin;refine wpl_append rfl (.tmp 37) (.tmp 40) rfl B (.slice (some ⟨g,0,none⟩) k cap) zs rfl (hown.below ((Below.refl _ _).alloc (Nat.le_refl _) _)) ⟨W.heap.size,0,none⟩ 1 cy rfl hcy ?hcell (by rw [HZ.out];omega) ?hbase ?_)
          case hcell=>simp
          case hbase=>simp;omega
          intro v1 w1 hown1 hbl1 _
          go_wp2_with fail
          refine (cut_own B v1 (zs++[cy]) w1 hown1 (by simp [HZ.out];omega)).mono ?_
          rintro e w' ⟨⟨v',rfl,hv'⟩,rfl⟩
          go_wp2
          go_ret
          refine ⟨v',rfl,?_,hbl.trans (((Below.refl _ _).alloc hBp _).trans hbl1)⟩
          rw [← HV.out]
          rw [val_append,HZ.out] at hv'
          simpa [val] using hv'
def wd (h l:Nat):Nat:=h*B32+l
theorem wd_lt {h l:Nat} (hh:h<B32) (hl:l<B32):wd h l<18446744073709551616:=by
  unfold wd;rw [B32_eq] at *;omega
theorem wd_or {h l:Nat} (hh:h<B32) (hl:l<B32):bits BinOp.or IntKind.u64 ((h:Int)*4294967296) (l:Int)=((wd h l:Nat):Int):=by
  have e:(h:Int)*4294967296=((h*4294967296:Nat):Int):=by omega
  rw [B32_eq] at hh hl
  rw [e,u64_or_nat _ _ (by omega) (by omega),nat_join 32 _ _ (by omega) (by omega)]
  unfold wd;rw [B32_eq]
def SHRel (g n : Nat) (ys : List Nat) (d : Nat) (r : List Value) (w : World) (rm i : Value) (wr : World) : Prop :=
  ∃ (k q : Nat) (zs : List Nat), k ≤ n ∧ i = .int .i64 ((k : Int) - 1) ∧ rm = .int .u32 q ∧ q < d ∧ zs.length = n ∧ Okl zs ∧ zs.take k = ys.take k ∧
    val (zs.drop k) * d + q = val (ys.drop k) ∧ wr = put g zs r w
theorem val_drop_succ (l:List Nat) (j:Nat) (h:j<l.length):val (l.drop j)=l.getD j 0+B32*val (l.drop (j+1)):=by
  rw [List.drop_eq_getElem_cons h];simp [val,List.getD,h]
theorem sh_num {a q d x R s t B:Nat} (he:a*d+q=R) (hw:d*s+t=q*B+x):(s+B*a)*d+t=x+B*R:=by
  subst he;grind
theorem sh_step {g n d j q x:Nat} {ys zs:List Nat} {r:List Value} {w:World} (hl:zs.length=n) (hyl:ys.length=n) (hj:j+1≤n) (hd:d<B32) (hd0:0<d) (hq:q<d) (hoz:Okl zs) (ht:zs.take (j+1)=ys.take (j+1)) (hx:zs.getD j 0=x) (hxb:x<B32)
    (he:val (zs.drop (j+1))*d+q=val (ys.drop (j+1))) (hb:Blk w g ys r) :
    SHRel g n ys d r w (.int .u32 (((wd q x:Nat):Int) % (d:Int) % 4294967296)) (.int .i64 ((j:Int) - 1)) ((put g zs r w).setCell ⟨g,j,none⟩ (.int .u32 (IntKind.u64.wrap (((wd q x:Nat):Int) / (d:Int)) % 4294967296))):=by
  have hwl:=wd_lt (Nat.lt_trans hq hd) hxb
  have hql:wd q x / d<B32:=by
    rw [Nat.div_lt_iff_lt_mul hd0];unfold wd
    have:(q+1)*B32≤d*B32:=Nat.mul_le_mul_right _ hq
    rw [Nat.add_mul,Nat.one_mul] at this
    rw [Nat.mul_comm B32 d];omega
  have hml:wd q x % d<d:=Nat.mod_lt _ hd0
  have e1:((wd q x:Nat):Int) % (d:Int) % 4294967296=((wd q x % d:Nat):Int):=by
    rw [← Int.natCast_emod]
    generalize wd q x % d=Q at *
    rw [B32_eq] at hd;omega
  have e2:IntKind.u64.wrap (((wd q x:Nat):Int) / (d:Int)) % 4294967296=((wd q x / d:Nat):Int):=by
    rw [← Int.natCast_ediv]
    generalize wd q x / d=Q at *
    rw [B32_eq] at hql
    rw [IntWalk.u64_in _ (by omega)];omega
  rw [e1,e2,set_blk (put_blk _ _ hb.lt) _ _ (by omega),put_put]
  have hg:ys.getD j 0=x:=by
    have h1:(zs.take (j+1)).getD j 0=(ys.take (j+1)).getD j 0:=by rw [ht]
    simp only [List.getD,List.getElem?_take,Nat.lt_succ_self,if_true] at h1
    simp only [List.getD] at hx ⊢
    rw [← h1];exact hx
  refine ⟨j,_,zs.set j (wd q x / d),by omega,rfl,rfl,hml,by rw [List.length_set];exact hl,hoz.set _ _ hql,?_,?_,rfl⟩
  · rw [List.take_set_of_le (Nat.le_refl _)]
    have h1:(zs.take (j+1)).take j=(ys.take (j+1)).take j:=by rw [ht]
    simpa [List.take_take] using h1
  · rw [val_drop_succ _ j (by rw [List.length_set];omega),val_drop_succ ys j (by omega),hg,List.drop_set_of_lt (by omega)]
    have e3:(zs.set j (wd q x / d)).getD j 0=wd q x / d:=by simp [List.getD,show j<zs.length by omega]
    rw [e3]
    exact sh_num he (Nat.div_add_mod _ _)
def ShrinkPost (B N d:Nat) (row:Option Nat) (w:World) (e:Ending) (w':World):Prop :=
  ∃ v,e=.returned (.tuple #[v,.int .u32 ((N % d:Nat):Int)])∧Own B w' v (limbs (N / d))∧Below B w w'∧∀ k,some k ≠ row→w'.heap[k]? = w.heap[k]?
theorem shrink_any (B:Nat) (v:Value) (xs:List Nat) (d:Nat) (w:World) (hown:Own B w v xs) (hB:B≤w.heap.size) (hm:xs.length≤100000000) (hd:d<B32) (hd0:0<d) :
    Calls Tryz.prog 145 #[v,.int .u32 (d:Int)] w (ShrinkPost B (val xs) d v.ownBlock w):=by
  obtain ⟨hox,⟨rfl,rfl⟩ | ⟨g,cap,r,rfl,hg,hb,hc,hmx⟩⟩:=hown
  · have K:=Lib.hid (cut_own B (.slice none 0 0) [] w (Own.nil _ _) (by simp))
    go_enter Tryz.func145,Tryz.ntmps145
    go_wp2
    refine wp_loop_rounds 1 ?_
    rw [rounds_succ]
    go_wp2_with fail
    refine K.out.mono ?_
    rintro e w' ⟨⟨v',rfl,hv'⟩,rfl⟩
    go_wp2
    go_ret2
    refine ⟨v',?_,by simpa [val,limbs_zero] using hv',Below.refl _ _,fun _ _=>rfl⟩
    simp [val]
  · have HC:=Lib.hid hc;clear hc
    generalize hn:xs.length=n at *
    have HN:=Lib.hid hn;clear hn
    have hd':=hd
    rw [B32_eq] at hd'
    go_enter Tryz.func145,Tryz.ntmps145
    go_wp2
    go_loopw [5,6] (fun q i wr=>SHRel g n xs d r w q i wr) (fun _ i _=>(intOf i+1).toNat)
    case atStart=>exact ⟨n,0,xs,Nat.le_refl _,by go_num,rfl,hd0,HN.out,hox,rfl,by rw [List.drop_of_length_le (by rw [HN.out];exact Nat.le_refl _)];simp [val],(put_same hb).symm⟩
    case round =>
      obtain ⟨k,q,zs,hk,rfl,rfl,hq,hl,hoz,htk,he,rfl⟩:=hrel
      have HL:=Lib.hid hl;clear hl
      have HT:=Lib.hid htk;clear htk
      have HE:=Lib.hid he;clear he
      have hbz:Blk (put g zs r w) g zs r:=put_blk _ _ hb.lt
      rcases k with _ | j
      · have hown:Own B (put g zs r w) (.slice (some ⟨g,0,none⟩) n cap) zs :=
          ⟨hoz,.inr ⟨g,cap,r,by rw [HL.out],hg,hbz,by rw [HL.out];exact HC.out,hmx⟩⟩
        have hv:=HE.out
        simp only [List.drop_zero] at hv
        have hdv:val xs / d=val zs:=by
          rw [← hv,Nat.mul_comm,Nat.mul_add_div hd0,Nat.div_eq_of_lt hq,Nat.add_zero]
        have hmd:val xs % d=q:=by
          rw [← hv,Nat.mul_comm,Nat.mul_add_mod,Nat.mod_eq_of_lt hq]
        have HD:=Lib.hid hdv;clear hdv
        have HM:=Lib.hid hmd;clear hmd hv
        have hbl:Below B w (put g zs r w):=put_below (Below.refl _ _) hg _ _
        have hoth:∀ k,some k ≠ (Value.slice (some ⟨g,0,none⟩) n cap).ownBlock→(put g zs r w).heap[k]? = w.heap[k]?:=fun k hk=>put_other _ _ _ _ _ (fun e=>hk (by rw [e];rfl))
        have HOTH:=Lib.hid hoth;clear hoth
        rw [show (((0:Nat):Int) - 1) = -1 from rfl]
        generalize put g zs r w=W at *
        go_wp2_with fail
        refine (cut_own B _ zs W hown (by rw [HL.out];exact Nat.le_trans hm (by decide))).mono ?_
        rintro e w' ⟨⟨v',rfl,hv'⟩,rfl⟩
        go_wp2
        go_ret2
        exact ⟨v',by rw [HM.out];rfl,by rw [HD.out];exact hv',hbl,HOTH.out⟩
      · rw [show (((j+1:Nat):Int) - 1)=(j:Int) by omega]
        have hcz:=hbz.cell j (by rw [HL.out];omega)
        have hfz:=hbz.free j
        have hzb:=hoz.getD j
        generalize hx:zs.getD j 0=x at *
        have R:=Lib.hid (sh_step (g:=g) (r:=r) (w:=w) HL.out HN.out hk hd hd0 hq hoz HT.out hx hzb HE.out hb)
        clear hx
        have hor:=wd_or (Nat.lt_trans hq hd) hzb
        have hq':q<4294967296:=by omega
        have hwl:=wd_lt (Nat.lt_trans hq hd) hzb
        rw [B32_eq] at hzb
        go_wp2
        go_roundw
        case rel=>exact R.out
        case measure=>simp [intOf]
end Go.Proofs.YtijaphbccnadbaaGreatDoor
