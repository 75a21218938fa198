/- Texts of the claim. -/
import Derived.Test.YticgggjfmhiilaaDoorRows
import Derived.WalkSpells
import Derived.WalkLawsBesides
import Derived.BigQuiet
import Derived.Lib.Hide
import Derived.Lib.Strings
import Derived.Lib.Slices
import Derived.Lib.Small
import Derived.Lib.Walk
import Derived.Lib.BitFns
import Derived.Laws.CopyOwn
import Derived.Deep.LoopGhost
set_option linter.unusedVariables false
set_option linter.unusedSimpArgs false
set_option maxHeartbeats 200000
set_option maxRecDepth 100000
namespace Go.Proofs.YticgggjfmhiilaaDoor
open Go.RowKit
open Go.RowKit
def B32:Nat:=4294967296
theorem B32_eq:B32=4294967296:=rfl
theorem B32_pos:0<B32:=by decide
def val:List Nat→Nat
  | []=>0
  | x::xs=>x+B32*val xs
def Okl (xs:List Nat):Prop:=∀ x∈xs,x<B32
theorem Okl.nil:Okl []:=by intro x h;cases h
theorem Okl.cons {x:Nat} {xs:List Nat} (h:x<B32) (hs:Okl xs):Okl (x::xs):=by
  intro y hy;rcases List.mem_cons.1 hy with rfl | hy
  · exact h
  · exact hs y hy
theorem Okl.head {x:Nat} {xs:List Nat} (h:Okl (x::xs)):x<B32:=h x (by simp)
theorem Okl.tail {x:Nat} {xs:List Nat} (h:Okl (x::xs)):Okl xs:=fun y hy=>h y (by simp [hy])
theorem Okl.take {xs:List Nat} (h:Okl xs) (n:Nat):Okl (xs.take n):=fun y hy=>h y (List.mem_of_mem_take hy)
theorem Okl.drop {xs:List Nat} (h:Okl xs) (n:Nat):Okl (xs.drop n):=fun y hy=>h y (List.mem_of_mem_drop hy)
theorem Okl.append {xs ys:List Nat} (h:Okl xs) (k:Okl ys):Okl (xs++ys):=by
  intro y hy;rcases List.mem_append.1 hy with hy | hy
  · exact h y hy
  · exact k y hy
theorem Okl.set {xs:List Nat} (h:Okl xs) (i v:Nat) (hv:v<B32):Okl (xs.set i v):=by
  intro y hy;rcases List.mem_or_eq_of_mem_set hy with hy | hy
  · exact h y hy
  · exact hy ▸ hv
theorem Okl.getD {xs:List Nat} (h:Okl xs) (i:Nat):xs.getD i 0<B32:=by
  by_cases hi:i<xs.length
  · simp only [List.getD,List.getElem?_eq_getElem hi,Option.getD_some];exact h _ (List.getElem_mem hi)
  · simp only [List.getD,List.getElem?_eq_none (Nat.le_of_not_lt hi),Option.getD_none];exact B32_pos
theorem Okl.replicate (n:Nat):Okl (List.replicate n 0):=by
  intro y hy;rw [(List.mem_replicate.1 hy).2];exact B32_pos
theorem val_append (xs ys:List Nat):val (xs++ys)=val xs+B32 ^ xs.length*val ys:=by
  induction xs with
  | nil=>simp [val]
  | cons x xs ih=>simp only [List.cons_append,val,ih,List.length_cons,Nat.pow_succ];grind
theorem val_take_succ (xs:List Nat) (n:Nat) (h:n<xs.length):val (xs.take (n+1))=val (xs.take n)+B32 ^ n*xs.getD n 0:=by
  rw [List.take_succ_eq_append_getElem h,val_append,List.length_take,Nat.min_eq_left (by omega)]
  simp [val,List.getD,h]
def limbsF:Nat→Nat→List Nat
  | 0,_=>[]
  | f+1,N=>if N=0 then [] else N % B32::limbsF f (N / B32)
def limbs (N:Nat):List Nat:=limbsF N N
theorem limbsF_eq : ∀ (f g N : Nat), N ≤ f → N ≤ g → limbsF f N = limbsF g N := by
  intro f
  induction f with
  | zero => intro g N h _; obtain rfl : N = 0 := by omega
            cases g <;> simp [limbsF]
  | succ f ih =>
    intro g N h k
    cases g with
    | zero => obtain rfl : N = 0 := by omega
              simp [limbsF]
    | succ g =>
      simp only [limbsF]
      split
      · rfl
      · rename_i hN
        have : N / B32 < N := Nat.div_lt_self (by omega) (by decide)
        rw [ih g (N / B32) (by omega) (by omega)]
theorem limbs_pos {N:Nat} (h:N ≠ 0):limbs N=N % B32::limbs (N / B32):=by
  unfold limbs
  obtain ⟨f,rfl⟩:∃ f,N=f+1:=⟨N - 1,by omega⟩
  conv=>lhs;rw [limbsF,if_neg h]
  have:(f+1) / B32<f+1:=Nat.div_lt_self (by omega) (by decide)
  rw [limbsF_eq f ((f+1) / B32) _ (by omega) (Nat.le_refl _)]
theorem limbs_val {xs:List Nat} (h:Okl xs) (ht:∀ n,xs.length=n+1→xs.getD n 0 ≠ 0):limbs (val xs)=xs:=by
  induction xs with
  | nil=>rfl
  | cons x xs ih =>
    have hx:limbs (val xs)=xs:=ih h.tail (fun n hn=>by have:=ht (n+1) (by simp [hn]);simpa using this)
    have hne:val (x::xs) ≠ 0:=by
      cases xs with
      | nil=>have:=ht 0 rfl;simp at this;simp [val];omega
      | cons y ys =>
        intro h0
        simp only [val] at h0
        have h1:B32*(y+B32*val ys)=0:=by omega
        have h2:val (y::ys)=0:=by
          simp only [val];rcases Nat.mul_eq_zero.1 h1 with h | h
          · exact absurd h (by decide)
          · exact h
        rw [h2] at hx;cases hx
    rw [limbs_pos hne]
    have hm:val (x::xs) % B32=x:=by simp only [val,Nat.add_mul_mod_self_left];exact Nat.mod_eq_of_lt h.head
    have hd:val (x::xs) / B32=val xs:=by simp only [val];rw [Nat.add_mul_div_left _ _ B32_pos,Nat.div_eq_of_lt h.head,Nat.zero_add]
    rw [hm,hd,hx]
def cutLen (xs:List Nat):Nat→Nat
  | 0=>0
  | n+1=>if xs.getD n 0=0 then cutLen xs n else n+1
theorem cutLen_le (xs:List Nat):∀ n,cutLen xs n≤n
  | 0=>Nat.le_refl _
  | n+1=>by unfold cutLen;split;exact Nat.le_succ_of_le (cutLen_le xs n);exact Nat.le_refl _
theorem val_cut (xs:List Nat):∀ n,n≤xs.length→val (xs.take (cutLen xs n))=val (xs.take n)
  | 0,_=>rfl
  | n+1,h=>by
    unfold cutLen;split
    · rename_i h0;rw [val_cut xs n (by omega),val_take_succ _ _ (by omega),h0];simp
    · rfl
theorem cut_top (xs:List Nat):∀ n m,cutLen xs n=m+1→xs.getD m 0 ≠ 0
  | 0,m,h=>by simp [cutLen] at h
  | n+1,m,h=>by
    unfold cutLen at h;split at h
    · exact cut_top xs n m h
    · rename_i h0;obtain rfl:n=m:=by omega
      exact h0
theorem cut_limbs {xs:List Nat} (h:Okl xs):xs.take (cutLen xs xs.length)=limbs (val xs):=by
  have hl:=cutLen_le xs xs.length
  have e:val (xs.take (cutLen xs xs.length))=val xs:=by rw [val_cut _ _ (Nat.le_refl _),List.take_length]
  rw [← e]
  refine (limbs_val (h.take _) ?_).symm
  intro n hn
  rw [List.length_take,Nat.min_eq_left hl] at hn
  have:=cut_top xs _ n hn
  simpa [List.getD,List.getElem?_take,hn] using this
def lv (n:Nat):Value:=.int .u32 (n:Int)
def Rd (w:World) (ad:Option Addr) (xs:List Nat):Prop :=
  ∀ i,i<xs.length→∃ b o,ad=some ⟨b,o,none⟩∧b<w.heap.size∧w.cell? ⟨b,o+i,none⟩=some (.int .u32 ((xs.getD i 0:Nat):Int))
theorem Rd.at {w:World} {b o:Nat} {xs:List Nat} (h:Rd w (some ⟨b,o,none⟩) xs) (i:Nat) (hi:i<xs.length) :
    w.cell? ⟨b,o+i,none⟩=some (.int .u32 ((xs.getD i 0:Nat):Int)):=by
  obtain ⟨b',o',e,_,hc⟩:=h i hi
  cases e;exact hc
theorem Rd.lt {w:World} {ad:Option Addr} {xs:List Nat} (h:Rd w ad xs) (a:Addr) (e:ad=some a) (hx:0<xs.length):a.block<w.heap.size:=by
  obtain ⟨b,o,e',hb,_⟩:=h 0 hx
  rw [e] at e';cases e';exact hb
theorem Rd.apart {w:World} {ad:Option Addr} {xs:List Nat} (h:Rd w ad xs) {g:Nat} (hg:w.heap.size≤g) (a:Addr) (e:ad=some a) (hx:0<xs.length):a.block ≠ g:=by
  have:=h.lt a e hx;omega
theorem Rd.nil (w:World) (ad:Option Addr):Rd w ad []:=by intro i h;simp at h
theorem Rd.take {w:World} {ad:Option Addr} {xs:List Nat} (h:Rd w ad xs) (n:Nat):Rd w ad (xs.take n):=by
  intro i hi
  rw [List.length_take] at hi
  obtain ⟨b,o,e,hb,hc⟩:=h i (by omega)
  exact ⟨b,o,e,hb,by rw [hc];simp [List.getD,show i<n by omega]⟩
theorem Rd.below {w w':World} {ad:Option Addr} {xs:List Nat} (h:Rd w ad xs) (hb:Below w.heap.size w w'):Rd w' ad xs:=by
  intro i hi
  obtain ⟨b,o,e,hlt,hc⟩:=h i hi
  exact ⟨b,o,e,Nat.lt_of_lt_of_le hlt hb.size,by rw [hb.cell (p:=⟨b,o+i,none⟩) hlt];exact hc⟩
def Blk (w:World) (g:Nat) (ys:List Nat) (r:List Value):Prop:=w.heap[g]? = some (.cells (ys.map lv++r).toArray 132 (0,0))
def put (g:Nat) (ys:List Nat) (r:List Value) (w:World):World:={ w with heap:=w.heap.setIfInBounds g (.cells (ys.map lv++r).toArray 132 (0,0)) }
theorem Blk.lt {w:World} {g:Nat} {ys:List Nat} {r:List Value} (h:Blk w g ys r):g<w.heap.size:=by
  rcases Nat.lt_or_ge g w.heap.size with h1 | h1
  · exact h1
  · rw [Blk,Array.getElem?_eq_none h1] at h;cases h
theorem Blk.cell {w:World} {g:Nat} {ys:List Nat} {r:List Value} (h:Blk w g ys r) (i:Nat) (hi:i<ys.length) :
    w.cell? ⟨g,i,none⟩=some (.int .u32 ((ys.getD i 0:Nat):Int)):=by
  unfold Blk at h
  have e:(List.map lv ys++r)[i]? = some (lv (ys.getD i 0)):=by
    rw [List.getElem?_append_left (by simpa using hi)]
    simp [List.getD,hi]
  simp only [World.cell?,h]
  simpa [lv] using e
theorem Blk.free {w:World} {g:Nat} {ys:List Nat} {r:List Value} (h:Blk w g ys r) (i:Nat):w.frozen? ⟨g,i,none⟩=false:=by
  unfold Blk at h
  simp [World.frozen?,h]
theorem Blk.rd {w:World} {g:Nat} {ys:List Nat} {r:List Value} (h:Blk w g ys r) (o n:Nat) (hn:o+n≤ys.length):Rd w (some ⟨g,o,none⟩) ((ys.drop o).take n):=by
  intro i hi
  rw [List.length_take,List.length_drop] at hi
  refine ⟨g,o,rfl,h.lt,?_⟩
  rw [h.cell (o+i) (by omega)]
  simp [List.getD,show i<n by omega]
theorem Blk.rd_all {w:World} {g:Nat} {ys:List Nat} {r:List Value} (h:Blk w g ys r):Rd w (some ⟨g,0,none⟩) ys:=by
  have:=h.rd 0 ys.length (by omega)
  simpa using this
theorem put_heap (g:Nat) (ys:List Nat) (r:List Value) (w:World):(put g ys r w).heap.size=w.heap.size:=by simp [put]
theorem put_blk {w:World} {g:Nat} (ys:List Nat) (r:List Value) (h:g<w.heap.size):Blk (put g ys r w) g ys r:=by
  simp [Blk,put,h]
theorem put_put (g:Nat) (ys zs:List Nat) (r r':List Value) (w:World):put g ys r (put g zs r' w)=put g ys r w:=by
  simp [put]
theorem put_other (g:Nat) (ys:List Nat) (r:List Value) (w:World) (k:Nat) (h:k ≠ g):(put g ys r w).heap[k]? = w.heap[k]?:=by
  simp only [put];rw [Array.getElem?_setIfInBounds_ne (by omega)]
theorem put_cell (g:Nat) (ys:List Nat) (r:List Value) (w:World) (a:Addr) (h:a.block ≠ g):(put g ys r w).cell? a=w.cell? a :=
  World.cell?_of_block (put_other g ys r w _ h)
theorem put_same {w:World} {g:Nat} {ys:List Nat} {r:List Value} (h:Blk w g ys r):put g ys r w=w:=by
  have hlt:=h.lt
  unfold Blk at h
  have e:w.heap.setIfInBounds g (.cells (ys.map lv++r).toArray 132 (0,0))=w.heap:=by
    apply Array.ext_getElem?
    intro k
    by_cases hk:k=g
    · subst hk;rw [Array.getElem?_setIfInBounds_self_of_lt hlt,h]
    · rw [Array.getElem?_setIfInBounds_ne (by omega)]
  simp only [put];rw [e]
theorem set_blk {w:World} {g:Nat} {ys:List Nat} {r:List Value} (h:Blk w g ys r) (i v:Nat) (hi:i<ys.length):w.setCell ⟨g,i,none⟩ (.int .u32 (v:Int))=put g (ys.set i v) r w:=by
  have hlt:=h.lt
  unfold Blk at h
  have e:(w.setCell ⟨g,i,none⟩ (.int .u32 (v:Int))).heap=w.heap.setIfInBounds g (.cells ((ys.set i v).map lv++r).toArray 132 (0,0)):=by
    apply Array.ext_getElem?
    intro k
    simp only [World.setCell,Array.getElem?_modify]
    by_cases hk:g=k
    · subst hk;rw [Array.getElem?_setIfInBounds_self_of_lt hlt,h];simp [lv,hi]
    · rw [if_neg hk,Array.getElem?_setIfInBounds_ne hk]
  unfold put;rw [← e];rfl
theorem put_below {B:Nat} {a w:World} (h:Below B a w) {g:Nat} (hg:B≤g) (ys:List Nat) (r:List Value):Below B a (put g ys r w) :=
  h.trans ⟨rfl,rfl,rfl,by rw [put_heap];exact Nat.le_refl _,fun k hk=>put_other g ys r w k (by omega)⟩
theorem Rd.put {w:World} {ad:Option Addr} {xs:List Nat} (h:Rd w ad xs) {g:Nat} (hne:∀ a,ad=some a→0<xs.length→a.block ≠ g) (ys:List Nat) (r:List Value):Rd (put g ys r w) ad xs:=by
  intro i hi
  obtain ⟨b,o,e,hb,hc⟩:=h i hi
  exact ⟨b,o,e,by rw [put_heap];exact hb,by rw [put_cell g ys r w ⟨b,o+i,none⟩ (hne ⟨b,o,none⟩ e (by omega))];exact hc⟩
theorem Rd.drewN {w:World} {ad:Option Addr} {xs:List Nat} (h:Rd w ad xs) (q:Nat):Rd (w.drewN q) ad xs:=h
theorem Blk.drewN {w:World} {g:Nat} {ys:List Nat} {r:List Value} (h:Blk w g ys r) (q:Nat):Blk (w.drewN q) g ys r:=h
theorem Blk.below {w w':World} {g:Nat} {ys:List Nat} {r:List Value} (h:Blk w g ys r) {B:Nat} (hb:Below B w w') (hg:g<B):Blk w' g ys r:=by
  unfold Blk;rw [hb.block g hg];exact h
def Own (B:Nat) (w:World) (v:Value) (xs:List Nat):Prop :=
  Okl xs∧((v=.slice none 0 0∧xs=[])∨∃ g cap r,v=.slice (some ⟨g,0,none⟩) xs.length cap∧B≤g∧Blk w g xs r∧cap=xs.length+r.length∧cap≤maxLen)
theorem Own.nil (B:Nat) (w:World):Own B w (.slice none 0 0) []:=⟨Okl.nil,.inl ⟨rfl,rfl⟩⟩
theorem Own.view {B:Nat} {w:World} {v:Value} {xs:List Nat} (h:Own B w v xs) :
    ∃ ad cap,v=.slice ad xs.length cap∧xs.length≤cap∧Rd w ad xs∧∀ a,ad=some a→B≤a.block∧a.block<w.heap.size:=by
  obtain ⟨_,⟨rfl,rfl⟩ | ⟨g,cap,r,rfl,hg,hb,hc,_⟩⟩:=h
  · exact ⟨none,0,rfl,Nat.le_refl _,Rd.nil _ _,fun a h=>by cases h⟩
  · exact ⟨_,cap,rfl,by omega,hb.rd_all,fun a h=>by cases h;exact ⟨hg,hb.lt⟩⟩
theorem Own.mono {B B':Nat} {w:World} {v:Value} {xs:List Nat} (h:Own B w v xs) (hB:B'≤B):Own B' w v xs:=by
  obtain ⟨ho,h | ⟨g,cap,r,e,hg,hb,hc⟩⟩:=h
  · exact ⟨ho,.inl h⟩
  · exact ⟨ho,.inr ⟨g,cap,r,e,by omega,hb,hc⟩⟩
theorem Own.below {B:Nat} {w w':World} {v:Value} {xs:List Nat} (h:Own B w v xs) (hb:Below w.heap.size w w'):Own B w' v xs:=by
  obtain ⟨ho,h | ⟨g,cap,r,e,hg,hk,hc⟩⟩:=h
  · exact ⟨ho,.inl h⟩
  · exact ⟨ho,.inr ⟨g,cap,r,e,hg,hk.below hb hk.lt,hc⟩⟩
theorem Own.drewN {B:Nat} {w:World} {v:Value} {xs:List Nat} (h:Own B w v xs) (q:Nat):Own B (w.drewN q) v xs:=h
theorem Blk.own {w:World} {g B:Nat} {ys:List Nat} {r:List Value} (h:Blk w g ys r) (hg:B≤g) (ho:Okl ys) (n cap:Nat) (hn:n≤ys.length) (hc:cap=ys.length+r.length) (hm:cap≤maxLen) :
    Own B w (.slice (some ⟨g,0,none⟩) n cap) (ys.take n):=by
  refine ⟨ho.take n,.inr ⟨g,cap,(ys.drop n).map lv++r,?_,hg,?_,?_,hm⟩⟩
  · rw [List.length_take,Nat.min_eq_left hn]
  · unfold Blk at h ⊢;rw [h,← List.append_assoc,← List.map_append,List.take_append_drop]
  · simp;omega
end Go.Proofs.YticgggjfmhiilaaDoor
namespace Go.Proofs.YticgggjfmhiilaaDoor
open Go.RowKit
open Go.RowKit
open Go.RowKit
structure Win (ys zs:List Nat) (o m:Nat):Prop where
  len:zs.length=ys.length
  lo:zs.take o=ys.take o
  hi:zs.drop (o+m)=ys.drop (o+m)
theorem Win.refl (ys:List Nat) (o m:Nat):Win ys ys o m:=⟨rfl,rfl,rfl⟩
theorem Win.set {ys zs:List Nat} {o m:Nat} (h:Win ys zs o m) (k v:Nat) (hk:k<m):Win ys (zs.set (o+k) v) o m:=by
  refine ⟨by rw [List.length_set];exact h.len,?_,?_⟩
  · rw [List.take_set_of_le (by omega)];exact h.lo
  · rw [List.drop_set_of_lt (by omega)];exact h.hi
def wv (ys:List Nat) (o k:Nat):Nat:=val ((ys.drop o).take k)
theorem info_u32:(Tryd.prog.info? 132).map (fun i=>(i.zero,i.size,i.bytes))=some (some (.int .u32 0),1,4):=by kernel_rfl
theorem made_zero (n:Nat):(madeCells (Value.cells (.int .u32 0)) n).toList=(List.replicate n 0).map lv++[]:=by
  simp only [madeCells,List.append_nil]
  apply List.ext_getElem
  · simp
  · intro i h1 h2;simp [Value.cells,lv,Nat.mod_one]
theorem wpl_make (w:World) {ops:Array Oper} {rest:List Oper} {o:Oper} {a:Act} {Q:Exit→Act→World→Prop}
    (hg:o.guard=none) (l c:Operand) (hop:o.op=Op.makeSlice 23 l c) (kl kc:IntKind) (L C:Int) (n:Nat)
    (hl:a.eval l=.int kl L) (hc:a.eval c=.int kc C) (hL:L=(n:Int)) (hC:C=(n:Int)) (hn:n≤1000000000000)
    (hK:∀ w',Blk w' w.heap.size (List.replicate n 0) []→Below w.heap.size w w'→wpList Tryd.prog ops Q rest (a.put o.dst (.slice (some ⟨w.heap.size,0,none⟩) n n)) w') :
    wpList Tryd.prog ops Q (o::rest) a w:=by
  obtain ⟨i0,hi,hz0,hz1,hz2⟩:=info_parts info_u32
  refine wpList_make_full w hg l c 23 hop w.heap.size 132 i0 (.int .u32 0) 1 Tryd.underlying23 hi hz0 hz1 kl kc L C n hl hc hL hC (by rw [hz2];omega) (by unfold maxLen;omega) (Nat.le_refl _) ?_
  intro w' ho hgr
  refine hK w' ?_ ((Below.refl _ _).grown hgr (Nat.le_refl _) (fun k h=>by cases h))
  obtain ⟨hl',h | ⟨g,cap,cur,e,_,hh,_,_,hs,ht⟩⟩:=ho
  · exact absurd h.1 (by simp)
  · simp only [Value.slice.injEq,Option.some.injEq,Addr.mk.injEq] at e
    obtain ⟨⟨rfl,_⟩,_,rfl⟩:=e
    unfold Blk
    rw [hh,← made_zero]
    have:cur.toList=(madeCells (Value.cells (.int .u32 0)) n).toList:=by
      have h2:=ht
      rw [List.take_of_length_le (by simp [hs])] at h2
      simpa using h2
    rw [← this]
theorem Own.row {B:Nat} {w:World} {v:Value} {xs:List Nat} (h:Own B w v xs):w.ownsRow B 132 1 v xs.length (xs.map lv):=by
  obtain ⟨_,⟨rfl,rfl⟩ | ⟨g,cap,r,rfl,hg,hb,hc,hm⟩⟩:=h
  · exact ⟨by simp,.inl ⟨rfl,rfl⟩⟩
  · refine ⟨by simp,.inr ⟨g,cap,_,rfl,hg,hb,by omega,hm,by simp;omega,?_⟩⟩
    simp
theorem own_of_row {B:Nat} {w:World} {v:Value} {n:Nat} {xs:List Nat} (h:w.ownsRow B 132 1 v n (xs.map lv)) (ho:Okl xs):Own B w v xs:=by
  obtain ⟨hl,⟨rfl,rfl⟩ | ⟨g,cap,cur,rfl,hg,hb,hc,hm,hs,ht⟩⟩:=h
  · have:xs=[]:=List.eq_nil_of_length_eq_zero (by simpa using hl)
    subst this
    exact Own.nil _ _
  · simp only [List.length_map,Nat.mul_one] at hl
    subst hl
    refine ⟨ho,.inr ⟨g,cap,cur.toList.drop xs.length,rfl,hg,?_,?_,hm⟩⟩
    · unfold Blk;rw [hb]
      have:cur=(xs.map lv++cur.toList.drop xs.length).toArray:=by
        rw [← ht,Nat.mul_one,List.take_append_drop]
      rw [← this]
    · have:cur.toList.length=cap:=by simpa using hs
      rw [List.length_drop,this];omega
theorem Own.blockGe {B:Nat} {w:World} {v:Value} {xs:List Nat} (h:Own B w v xs):∀ k,v.ownBlock=some k→B≤k:=by
  obtain ⟨_,⟨rfl,rfl⟩ | ⟨g,cap,r,rfl,hg,_⟩⟩:=h
  · intro k e;cases e
  · intro k e;cases e;exact hg
end Go.Proofs.YticgggjfmhiilaaDoor
namespace Go.Proofs.YticgggjfmhiilaaDoor
open Go.RowKit
open Go.RowKit
def Gives (N:Nat) (w:World) (e:Ending) (w':World):Prop :=
  ∃ v,e=.returned v∧Own w.heap.size w' v (limbs N)∧Below w.heap.size w w'
theorem below_drewN' {B:Nat} {a w:World} (h:Below B a w) (n:Nat):Below B a (w.drewN n):=h.trans ⟨rfl,rfl,rfl,Nat.le_refl _,fun _ _=>rfl⟩
end Go.Proofs.YticgggjfmhiilaaDoor
namespace Go.Proofs.YticgggjfmhiilaaDoor
open Go.RowKit
open Go.RowKit
open Go.RowKit
def wd (h l:Nat):Nat:=h*B32+l
theorem wd_lt {h l:Nat} (hh:h<B32) (hl:l<B32):wd h l<18446744073709551616:=by
  unfold wd;rw [B32_eq] at *;omega
theorem val_drop_succ (l:List Nat) (j:Nat) (h:j<l.length):val (l.drop j)=l.getD j 0+B32*val (l.drop (j+1)):=by
  rw [List.drop_eq_getElem_cons h];simp [val,List.getD,h]
theorem sh_num {a q d x R s t B:Nat} (he:a*d+q=R) (hw:d*s+t=q*B+x):(s+B*a)*d+t=x+B*R:=by
  subst he;grind
end Go.Proofs.YticgggjfmhiilaaDoor
namespace Go.Proofs.YticgggjfmhiilaaDoor
open Go.RowKit
open Go.RowKit
open Go.RowKit
open Go.RowKit
def gs (h l d:Nat):Nat:=min (wd h l / d) 4294967295
end Go.Proofs.YticgggjfmhiilaaDoor
namespace Go.Proofs.YticgggjfmhiilaaDoor
open Go.RowKit

end Go.Proofs.YticgggjfmhiilaaDoor
