/- Texts of the claim. -/
import Derived.Test.YtnacbakcalcgaaaGreatDoorRows
import Derived.WalkSpells
import Derived.WalkLawsBesides
import Derived.BigQuiet
import Derived.Lib.Hide
import Derived.Lib.Strings
import Derived.Lib.Slices
import Derived.Lib.Small
import Derived.Lib.Walk
import Derived.Lib.BitFns
import Derived.Laws.CopyOwn
set_option linter.unusedVariables false
set_option linter.unusedSimpArgs false
set_option maxHeartbeats 4000000
set_option maxRecDepth 100000
namespace Go.Proofs.YtnacbakcalcgaaaGreatDoor
open Go.RowKit
open Go.RowKit
def B32:Nat:=4294967296
theorem B32_eq:B32=4294967296:=rfl
theorem B32_pos:0<B32:=by decide
def val:List Nat→Nat
  | []=>0
  | x::xs=>x+B32*val xs
def Okl (xs:List Nat):Prop:=∀ x∈xs,x<B32
theorem Okl.nil:Okl []:=by intro x h;cases h
theorem Okl.cons {x:Nat} {xs:List Nat} (h:x<B32) (hs:Okl xs):Okl (x::xs):=by
  intro y hy;rcases List.mem_cons.1 hy with rfl | hy
  · exact h
  · exact hs y hy
theorem Okl.head {x:Nat} {xs:List Nat} (h:Okl (x::xs)):x<B32:=h x (by simp)
theorem Okl.tail {x:Nat} {xs:List Nat} (h:Okl (x::xs)):Okl xs:=fun y hy=>h y (by simp [hy])
theorem Okl.take {xs:List Nat} (h:Okl xs) (n:Nat):Okl (xs.take n):=fun y hy=>h y (List.mem_of_mem_take hy)
theorem Okl.drop {xs:List Nat} (h:Okl xs) (n:Nat):Okl (xs.drop n):=fun y hy=>h y (List.mem_of_mem_drop hy)
theorem Okl.append {xs ys:List Nat} (h:Okl xs) (k:Okl ys):Okl (xs++ys):=by
  intro y hy;rcases List.mem_append.1 hy with hy | hy
  · exact h y hy
  · exact k y hy
theorem Okl.set {xs:List Nat} (h:Okl xs) (i v:Nat) (hv:v<B32):Okl (xs.set i v):=by
  intro y hy;rcases List.mem_or_eq_of_mem_set hy with hy | hy
  · exact h y hy
  · exact hy ▸ hv
theorem Okl.getD {xs:List Nat} (h:Okl xs) (i:Nat):xs.getD i 0<B32:=by
  by_cases hi:i<xs.length
  · simp only [List.getD,List.getElem?_eq_getElem hi,Option.getD_some];exact h _ (List.getElem_mem hi)
  · simp only [List.getD,List.getElem?_eq_none (Nat.le_of_not_lt hi),Option.getD_none];exact B32_pos
theorem Okl.replicate (n:Nat):Okl (List.replicate n 0):=by
  intro y hy;rw [(List.mem_replicate.1 hy).2];exact B32_pos
theorem val_append (xs ys:List Nat):val (xs++ys)=val xs+B32 ^ xs.length*val ys:=by
  induction xs with
  | nil=>simp [val]
  | cons x xs ih=>simp only [List.cons_append,val,ih,List.length_cons,Nat.pow_succ];grind
theorem val_replicate (n:Nat):val (List.replicate n 0)=0:=by
  induction n with
  | zero=>rfl
  | succ n ih=>simp [List.replicate_succ,val,ih]
theorem val_lt {xs:List Nat} (h:Okl xs):val xs<B32 ^ xs.length:=by
  induction xs with
  | nil=>simp [val]
  | cons x xs ih =>
    have h1:=h.head
    have h2:=ih h.tail
    simp only [val,List.length_cons,Nat.pow_succ]
    have:B32*(val xs+1)≤B32*B32 ^ xs.length:=Nat.mul_le_mul_left _ h2
    rw [Nat.mul_comm (B32 ^ xs.length)]
    rw [Nat.mul_add] at this;omega
theorem val_take_drop (xs:List Nat) (n:Nat) (h:n≤xs.length):val xs=val (xs.take n)+B32 ^ n*val (xs.drop n):=by
  conv=>lhs;rw [← List.take_append_drop n xs]
  rw [val_append,List.length_take,Nat.min_eq_left h]
theorem val_take_succ (xs:List Nat) (n:Nat) (h:n<xs.length):val (xs.take (n+1))=val (xs.take n)+B32 ^ n*xs.getD n 0:=by
  rw [List.take_succ_eq_append_getElem h,val_append,List.length_take,Nat.min_eq_left (by omega)]
  simp [val,List.getD,h]
theorem val_set_take (xs:List Nat) (n v:Nat) (h:n<xs.length):val ((xs.set n v).take (n+1))=val (xs.take n)+B32 ^ n*v:=by
  rw [val_take_succ _ _ (by simpa using h),List.take_set_of_le (Nat.le_refl _)]
  simp [List.getD,h]
theorem two_le_B32:2≤B32:=by decide
theorem pow_two_le (n:Nat):2*B32 ^ n≤B32 ^ (n+1):=by
  rw [Nat.pow_succ,Nat.mul_comm];exact Nat.mul_le_mul_left _ two_le_B32
def limbsF:Nat→Nat→List Nat
  | 0,_=>[]
  | f+1,N=>if N=0 then [] else N % B32::limbsF f (N / B32)
def limbs (N:Nat):List Nat:=limbsF N N
theorem limbsF_eq : ∀ (f g N : Nat), N ≤ f → N ≤ g → limbsF f N = limbsF g N := by
  intro f
  induction f with
  | zero => intro g N h _; obtain rfl : N = 0 := by omega
            cases g <;> simp [limbsF]
  | succ f ih =>
    intro g N h k
    cases g with
    | zero => obtain rfl : N = 0 := by omega
              simp [limbsF]
    | succ g =>
      simp only [limbsF]
      split
      · rfl
      · rename_i hN
        have : N / B32 < N := Nat.div_lt_self (by omega) (by decide)
        rw [ih g (N / B32) (by omega) (by omega)]
theorem limbs_zero:limbs 0=[]:=rfl
theorem limbs_pos {N:Nat} (h:N ≠ 0):limbs N=N % B32::limbs (N / B32):=by
  unfold limbs
  obtain ⟨f,rfl⟩:∃ f,N=f+1:=⟨N - 1,by omega⟩
  conv=>lhs;rw [limbsF,if_neg h]
  have:(f+1) / B32<f+1:=Nat.div_lt_self (by omega) (by decide)
  rw [limbsF_eq f ((f+1) / B32) _ (by omega) (Nat.le_refl _)]
theorem limbs_ind {P:Nat→Prop} (z:P 0) (s:∀ N,N ≠ 0→P (N / B32)→P N):∀ N,P N:=by
  intro N
  induction N using Nat.strongRecOn with
  | _ N ih =>
    by_cases h:N=0
    · subst h;exact z
    · exact s N h (ih _ (Nat.div_lt_self (by omega) (by decide)))
theorem limbs_ok (N:Nat):Okl (limbs N):=by
  refine limbs_ind (P:=fun N=>Okl (limbs N)) ?_ ?_ N
  · exact Okl.nil
  · intro N h ih;rw [limbs_pos h];exact Okl.cons (Nat.mod_lt _ B32_pos) ih
theorem val_limbs (N:Nat):val (limbs N)=N:=by
  refine limbs_ind (P:=fun N=>val (limbs N)=N) rfl ?_ N
  intro N h ih;rw [limbs_pos h,val,ih];exact Nat.mod_add_div N B32
theorem limbs_nil_iff (N:Nat):limbs N=[] ↔ N=0:=by
  constructor
  · intro h;rw [← val_limbs N,h];rfl
  · rintro rfl;rfl
theorem limbs_length_le {n N : Nat} (h : N < B32 ^ n) : (limbs N).length ≤ n := by
  induction n generalizing N with
  | zero => obtain rfl : N = 0 := by simp at h; exact h
            simp [limbs_zero]
  | succ n ih =>
    by_cases h0 : N = 0
    · subst h0; simp [limbs_zero]
    · rw [limbs_pos h0, List.length_cons]
      have : N / B32 < B32 ^ n := by rw [Nat.div_lt_iff_lt_mul B32_pos, ← Nat.pow_succ]; exact h
      have := ih this; omega
theorem limbs_lt_pow (N:Nat):N<B32 ^ (limbs N).length:=by
  have:=val_lt (limbs_ok N);rwa [val_limbs] at this
theorem limbs_val {xs:List Nat} (h:Okl xs) (ht:∀ n,xs.length=n+1→xs.getD n 0 ≠ 0):limbs (val xs)=xs:=by
  induction xs with
  | nil=>rfl
  | cons x xs ih =>
    have hx:limbs (val xs)=xs:=ih h.tail (fun n hn=>by have:=ht (n+1) (by simp [hn]);simpa using this)
    have hne:val (x::xs) ≠ 0:=by
      cases xs with
      | nil=>have:=ht 0 rfl;simp at this;simp [val];omega
      | cons y ys =>
        intro h0
        simp only [val] at h0
        have h1:B32*(y+B32*val ys)=0:=by omega
        have h2:val (y::ys)=0:=by
          simp only [val];rcases Nat.mul_eq_zero.1 h1 with h | h
          · exact absurd h (by decide)
          · exact h
        rw [h2] at hx;cases hx
    rw [limbs_pos hne]
    have hm:val (x::xs) % B32=x:=by simp only [val,Nat.add_mul_mod_self_left];exact Nat.mod_eq_of_lt h.head
    have hd:val (x::xs) / B32=val xs:=by simp only [val];rw [Nat.add_mul_div_left _ _ B32_pos,Nat.div_eq_of_lt h.head,Nat.zero_add]
    rw [hm,hd,hx]
def cutLen (xs:List Nat):Nat→Nat
  | 0=>0
  | n+1=>if xs.getD n 0=0 then cutLen xs n else n+1
theorem cutLen_le (xs:List Nat):∀ n,cutLen xs n≤n
  | 0=>Nat.le_refl _
  | n+1=>by unfold cutLen;split;exact Nat.le_succ_of_le (cutLen_le xs n);exact Nat.le_refl _
theorem val_cut (xs:List Nat):∀ n,n≤xs.length→val (xs.take (cutLen xs n))=val (xs.take n)
  | 0,_=>rfl
  | n+1,h=>by
    unfold cutLen;split
    · rename_i h0;rw [val_cut xs n (by omega),val_take_succ _ _ (by omega),h0];simp
    · rfl
theorem cut_top (xs:List Nat):∀ n m,cutLen xs n=m+1→xs.getD m 0 ≠ 0
  | 0,m,h=>by simp [cutLen] at h
  | n+1,m,h=>by
    unfold cutLen at h;split at h
    · exact cut_top xs n m h
    · rename_i h0;obtain rfl:n=m:=by omega
      exact h0
theorem cut_limbs {xs:List Nat} (h:Okl xs):xs.take (cutLen xs xs.length)=limbs (val xs):=by
  have hl:=cutLen_le xs xs.length
  have e:val (xs.take (cutLen xs xs.length))=val xs:=by rw [val_cut _ _ (Nat.le_refl _),List.take_length]
  rw [← e]
  refine (limbs_val (h.take _) ?_).symm
  intro n hn
  rw [List.length_take,Nat.min_eq_left hl] at hn
  have:=cut_top xs _ n hn
  simpa [List.getD,List.getElem?_take,hn] using this
theorem cutLen_eq {xs:List Nat} (h:Okl xs):cutLen xs xs.length=(limbs (val xs)).length:=by
  rw [← cut_limbs h,List.length_take,Nat.min_eq_left (cutLen_le _ _)]
theorem limbs_cutLen (N:Nat):cutLen (limbs N) (limbs N).length=(limbs N).length:=by
  rw [cutLen_eq (limbs_ok N),val_limbs]
def lv (n:Nat):Value:=.int .u32 (n:Int)
def Rd (w:World) (ad:Option Addr) (xs:List Nat):Prop :=
  ∀ i,i<xs.length→∃ b o,ad=some ⟨b,o,none⟩∧b<w.heap.size∧w.cell? ⟨b,o+i,none⟩=some (.int .u32 ((xs.getD i 0:Nat):Int))
theorem Rd.at {w:World} {b o:Nat} {xs:List Nat} (h:Rd w (some ⟨b,o,none⟩) xs) (i:Nat) (hi:i<xs.length) :
    w.cell? ⟨b,o+i,none⟩=some (.int .u32 ((xs.getD i 0:Nat):Int)):=by
  obtain ⟨b',o',e,_,hc⟩:=h i hi
  cases e;exact hc
theorem Rd.lt {w:World} {ad:Option Addr} {xs:List Nat} (h:Rd w ad xs) (a:Addr) (e:ad=some a) (hx:0<xs.length):a.block<w.heap.size:=by
  obtain ⟨b,o,e',hb,_⟩:=h 0 hx
  rw [e] at e';cases e';exact hb
theorem Rd.apart {w:World} {ad:Option Addr} {xs:List Nat} (h:Rd w ad xs) {g:Nat} (hg:w.heap.size≤g) (a:Addr) (e:ad=some a) (hx:0<xs.length):a.block ≠ g:=by
  have:=h.lt a e hx;omega
theorem Rd.nil (w:World) (ad:Option Addr):Rd w ad []:=by intro i h;simp at h
theorem Rd.take {w:World} {ad:Option Addr} {xs:List Nat} (h:Rd w ad xs) (n:Nat):Rd w ad (xs.take n):=by
  intro i hi
  rw [List.length_take] at hi
  obtain ⟨b,o,e,hb,hc⟩:=h i (by omega)
  exact ⟨b,o,e,hb,by rw [hc];simp [List.getD,show i<n by omega]⟩
theorem Rd.below {w w':World} {ad:Option Addr} {xs:List Nat} (h:Rd w ad xs) (hb:Below w.heap.size w w'):Rd w' ad xs:=by
  intro i hi
  obtain ⟨b,o,e,hlt,hc⟩:=h i hi
  exact ⟨b,o,e,Nat.lt_of_lt_of_le hlt hb.size,by rw [hb.cell (p:=⟨b,o+i,none⟩) hlt];exact hc⟩
def Blk (w:World) (g:Nat) (ys:List Nat) (r:List Value):Prop:=w.heap[g]? = some (.cells (ys.map lv++r).toArray 51 (0,0))
def put (g:Nat) (ys:List Nat) (r:List Value) (w:World):World:={ w with heap:=w.heap.setIfInBounds g (.cells (ys.map lv++r).toArray 51 (0,0)) }
theorem Blk.lt {w:World} {g:Nat} {ys:List Nat} {r:List Value} (h:Blk w g ys r):g<w.heap.size:=by
  rcases Nat.lt_or_ge g w.heap.size with h1 | h1
  · exact h1
  · rw [Blk,Array.getElem?_eq_none h1] at h;cases h
theorem Blk.cell {w:World} {g:Nat} {ys:List Nat} {r:List Value} (h:Blk w g ys r) (i:Nat) (hi:i<ys.length) :
    w.cell? ⟨g,i,none⟩=some (.int .u32 ((ys.getD i 0:Nat):Int)):=by
  unfold Blk at h
  have e:(List.map lv ys++r)[i]? = some (lv (ys.getD i 0)):=by
    rw [List.getElem?_append_left (by simpa using hi)]
    simp [List.getD,hi]
  simp only [World.cell?,h]
  simpa [lv] using e
theorem Blk.free {w:World} {g:Nat} {ys:List Nat} {r:List Value} (h:Blk w g ys r) (i:Nat):w.frozen? ⟨g,i,none⟩=false:=by
  unfold Blk at h
  simp [World.frozen?,h]
theorem Blk.rd {w:World} {g:Nat} {ys:List Nat} {r:List Value} (h:Blk w g ys r) (o n:Nat) (hn:o+n≤ys.length):Rd w (some ⟨g,o,none⟩) ((ys.drop o).take n):=by
  intro i hi
  rw [List.length_take,List.length_drop] at hi
  refine ⟨g,o,rfl,h.lt,?_⟩
  rw [h.cell (o+i) (by omega)]
  simp [List.getD,show i<n by omega]
theorem Blk.rd_all {w:World} {g:Nat} {ys:List Nat} {r:List Value} (h:Blk w g ys r):Rd w (some ⟨g,0,none⟩) ys:=by
  have:=h.rd 0 ys.length (by omega)
  simpa using this
theorem put_heap (g:Nat) (ys:List Nat) (r:List Value) (w:World):(put g ys r w).heap.size=w.heap.size:=by simp [put]
theorem put_blk {w:World} {g:Nat} (ys:List Nat) (r:List Value) (h:g<w.heap.size):Blk (put g ys r w) g ys r:=by
  simp [Blk,put,h]
theorem put_put (g:Nat) (ys zs:List Nat) (r r':List Value) (w:World):put g ys r (put g zs r' w)=put g ys r w:=by
  simp [put]
theorem put_other (g:Nat) (ys:List Nat) (r:List Value) (w:World) (k:Nat) (h:k ≠ g):(put g ys r w).heap[k]? = w.heap[k]?:=by
  simp only [put];rw [Array.getElem?_setIfInBounds_ne (by omega)]
theorem put_cell (g:Nat) (ys:List Nat) (r:List Value) (w:World) (a:Addr) (h:a.block ≠ g):(put g ys r w).cell? a=w.cell? a :=
  World.cell?_of_block (put_other g ys r w _ h)
theorem put_same {w:World} {g:Nat} {ys:List Nat} {r:List Value} (h:Blk w g ys r):put g ys r w=w:=by
  have hlt:=h.lt
  unfold Blk at h
  have e:w.heap.setIfInBounds g (.cells (ys.map lv++r).toArray 51 (0,0))=w.heap:=by
    apply Array.ext_getElem?
    intro k
    by_cases hk:k=g
    · subst hk;rw [Array.getElem?_setIfInBounds_self_of_lt hlt,h]
    · rw [Array.getElem?_setIfInBounds_ne (by omega)]
  simp only [put];rw [e]
theorem set_blk {w:World} {g:Nat} {ys:List Nat} {r:List Value} (h:Blk w g ys r) (i v:Nat) (hi:i<ys.length):w.setCell ⟨g,i,none⟩ (.int .u32 (v:Int))=put g (ys.set i v) r w:=by
  have hlt:=h.lt
  unfold Blk at h
  have e:(w.setCell ⟨g,i,none⟩ (.int .u32 (v:Int))).heap=w.heap.setIfInBounds g (.cells ((ys.set i v).map lv++r).toArray 51 (0,0)):=by
    apply Array.ext_getElem?
    intro k
    simp only [World.setCell,Array.getElem?_modify]
    by_cases hk:g=k
    · subst hk;rw [Array.getElem?_setIfInBounds_self_of_lt hlt,h];simp [lv,hi]
    · rw [if_neg hk,Array.getElem?_setIfInBounds_ne hk]
  unfold put;rw [← e];rfl
theorem put_below {B:Nat} {a w:World} (h:Below B a w) {g:Nat} (hg:B≤g) (ys:List Nat) (r:List Value):Below B a (put g ys r w) :=
  h.trans ⟨rfl,rfl,rfl,by rw [put_heap];exact Nat.le_refl _,fun k hk=>put_other g ys r w k (by omega)⟩
theorem Rd.put {w:World} {ad:Option Addr} {xs:List Nat} (h:Rd w ad xs) {g:Nat} (hne:∀ a,ad=some a→0<xs.length→a.block ≠ g) (ys:List Nat) (r:List Value):Rd (put g ys r w) ad xs:=by
  intro i hi
  obtain ⟨b,o,e,hb,hc⟩:=h i hi
  exact ⟨b,o,e,by rw [put_heap];exact hb,by rw [put_cell g ys r w ⟨b,o+i,none⟩ (hne ⟨b,o,none⟩ e (by omega))];exact hc⟩
theorem Rd.drewN {w:World} {ad:Option Addr} {xs:List Nat} (h:Rd w ad xs) (q:Nat):Rd (w.drewN q) ad xs:=h
theorem Blk.drewN {w:World} {g:Nat} {ys:List Nat} {r:List Value} (h:Blk w g ys r) (q:Nat):Blk (w.drewN q) g ys r:=h
theorem Blk.below {w w':World} {g:Nat} {ys:List Nat} {r:List Value} (h:Blk w g ys r) {B:Nat} (hb:Below B w w') (hg:g<B):Blk w' g ys r:=by
  unfold Blk;rw [hb.block g hg];exact h
def Own (B:Nat) (w:World) (v:Value) (xs:List Nat):Prop :=
  Okl xs∧((v=.slice none 0 0∧xs=[])∨∃ g cap r,v=.slice (some ⟨g,0,none⟩) xs.length cap∧B≤g∧Blk w g xs r∧cap=xs.length+r.length∧cap≤maxLen)
theorem Own.nil (B:Nat) (w:World):Own B w (.slice none 0 0) []:=⟨Okl.nil,.inl ⟨rfl,rfl⟩⟩
theorem Own.view {B:Nat} {w:World} {v:Value} {xs:List Nat} (h:Own B w v xs) :
    ∃ ad cap,v=.slice ad xs.length cap∧xs.length≤cap∧Rd w ad xs∧∀ a,ad=some a→B≤a.block∧a.block<w.heap.size:=by
  obtain ⟨_,⟨rfl,rfl⟩ | ⟨g,cap,r,rfl,hg,hb,hc,_⟩⟩:=h
  · exact ⟨none,0,rfl,Nat.le_refl _,Rd.nil _ _,fun a h=>by cases h⟩
  · exact ⟨_,cap,rfl,by omega,hb.rd_all,fun a h=>by cases h;exact ⟨hg,hb.lt⟩⟩
theorem Own.mono {B B':Nat} {w:World} {v:Value} {xs:List Nat} (h:Own B w v xs) (hB:B'≤B):Own B' w v xs:=by
  obtain ⟨ho,h | ⟨g,cap,r,e,hg,hb,hc⟩⟩:=h
  · exact ⟨ho,.inl h⟩
  · exact ⟨ho,.inr ⟨g,cap,r,e,by omega,hb,hc⟩⟩
theorem Own.below {B:Nat} {w w':World} {v:Value} {xs:List Nat} (h:Own B w v xs) (hb:Below w.heap.size w w'):Own B w' v xs:=by
  obtain ⟨ho,h | ⟨g,cap,r,e,hg,hk,hc⟩⟩:=h
  · exact ⟨ho,.inl h⟩
  · exact ⟨ho,.inr ⟨g,cap,r,e,hg,hk.below hb hk.lt,hc⟩⟩
theorem Own.drewN {B:Nat} {w:World} {v:Value} {xs:List Nat} (h:Own B w v xs) (q:Nat):Own B (w.drewN q) v xs:=h
theorem Blk.own {w:World} {g B:Nat} {ys:List Nat} {r:List Value} (h:Blk w g ys r) (hg:B≤g) (ho:Okl ys) (n cap:Nat) (hn:n≤ys.length) (hc:cap=ys.length+r.length) (hm:cap≤maxLen) :
    Own B w (.slice (some ⟨g,0,none⟩) n cap) (ys.take n):=by
  refine ⟨ho.take n,.inr ⟨g,cap,(ys.drop n).map lv++r,?_,hg,?_,?_,hm⟩⟩
  · rw [List.length_take,Nat.min_eq_left hn]
  · unfold Blk at h ⊢;rw [h,← List.append_assoc,← List.map_append,List.take_append_drop]
  · simp;omega
end Go.Proofs.YtnacbakcalcgaaaGreatDoor
namespace Go.Proofs.YtnacbakcalcgaaaGreatDoor
open Go.RowKit
open Go.RowKit
open Go.RowKit
theorem cut_any (ad:Option Addr) (n cap:Nat) (xs:List Nat) (w:World) (hn:xs.length=n) (hcap:n≤cap) (hm:n≤1000000000000) (hr:Rd w ad xs) :
    Calls Tryz.prog 120 #[.slice ad n cap] w fun e w'=>e=.returned (.slice ad (cutLen xs n) cap)∧w=w':=by
  go_enter Tryz.func120,Tryz.ntmps120
  go_wp2
  go_loop [3] (fun i=>∃ k:Nat,k≤n∧i=.int .i64 k∧cutLen xs k=cutLen xs n) (fun i=>(intOf i).toNat)
  case atStart=>exact ⟨n,Nat.le_refl _,rfl,rfl⟩
  case round =>
    obtain ⟨k,hk,rfl,he⟩:=hrel
    have HE:=Lib.hid he;clear he
    rcases k with _ | k
    · have h0:cutLen xs n=0:=by rw [← HE.out];rfl
      have H0:=Lib.hid h0;clear h0
      go_wp2
      go_ret
      rw [H0.out];exact ⟨rfl,rfl⟩
    · obtain ⟨b,o,hadd,_,hc⟩:=hr k (by omega)
      subst hadd
      generalize hx:xs.getD k 0=x at *
      have HX:=Lib.hid hx;clear hx
      by_cases hz:x=0
      · go_wp2
        go_round
        case rel=>exact ⟨k,by omega,rfl,by rw [← HE.out];simp only [cutLen];rw [if_pos (by rw [HX.out];exact hz)]⟩
        case measure=>simp [intOf]
      · have h0:cutLen xs n=k+1:=by rw [← HE.out];simp only [cutLen];rw [if_neg (by rw [HX.out];exact hz)]
        have H0:=Lib.hid h0;clear h0
        go_wp2
        go_ret
        rw [H0.out];exact ⟨rfl,rfl⟩
def sgn (b:Bool):Int:=if b then -1 else 1
theorem sign_any (b:Bool) (w:World) :
    Calls Tryz.prog 161 #[.bool b] w fun e w'=>e=.returned (.int .i64 (sgn b))∧w=w':=by
  cases b
  all_goals
    go_enter Tryz.func161,Tryz.ntmps161
    go_wp2
    go_ret
    exact ⟨rfl,rfl⟩
structure Win (ys zs:List Nat) (o m:Nat):Prop where
  len:zs.length=ys.length
  lo:zs.take o=ys.take o
  hi:zs.drop (o+m)=ys.drop (o+m)
theorem Win.refl (ys:List Nat) (o m:Nat):Win ys ys o m:=⟨rfl,rfl,rfl⟩
theorem Win.set {ys zs:List Nat} {o m:Nat} (h:Win ys zs o m) (k v:Nat) (hk:k<m):Win ys (zs.set (o+k) v) o m:=by
  refine ⟨by rw [List.length_set];exact h.len,?_,?_⟩
  · rw [List.take_set_of_le (by omega)];exact h.lo
  · rw [List.drop_set_of_lt (by omega)];exact h.hi
def wv (ys:List Nat) (o k:Nat):Nat:=val ((ys.drop o).take k)
theorem wv_succ (ys:List Nat) (o k:Nat) (h:o+k<ys.length):wv ys o (k+1)=wv ys o k+B32 ^ k*ys.getD (o+k) 0:=by
  unfold wv
  rw [val_take_succ _ _ (by rw [List.length_drop];omega)]
  simp [List.getD]
theorem wv_set (ys:List Nat) (o k v:Nat) (h:o+k<ys.length):wv (ys.set (o+k) v) o (k+1)=wv ys o k+B32 ^ k*v:=by
  rw [wv_succ _ _ _ (by rw [List.length_set];exact h)]
  have e:wv (ys.set (o+k) v) o k=wv ys o k:=by
    unfold wv;rw [List.drop_set,if_neg (by omega),List.take_set_of_le (by omega)]
  rw [e];simp [List.getD,h]
theorem mul_bd {x f:Nat} (hx:x<B32) (hf:f<B32):0≤(x:Int)*(f:Int)∧(x:Int)*(f:Int)≤18446744065119617025:=by
  rw [B32_eq] at hx hf
  have h:=Nat.mul_le_mul (Nat.le_of_lt_succ hx) (Nat.le_of_lt_succ hf)
  have e:(x:Int)*(f:Int)=((x*f:Nat):Int):=by push_cast;rfl
  rw [e];omega
def AddTimesPost (g o m:Nat) (ys xs:List Nat) (f:Nat) (r:List Value) (w:World) (e:Ending) (w':World):Prop :=
  e=.returned (.tuple #[])∧∃ zs,Win ys zs o (m+1)∧Okl zs∧wv zs o (m+1)=wv ys o m+f*val xs∧w'=put g zs r w
def ATRel (g o m : Nat) (ys xs : List Nat) (f : Nat) (r : List Value) (w : World) (c i : Value) (wr : World) : Prop :=
  ∃ (k cy : Nat) (zs : List Nat), k ≤ m ∧ i = .int .i64 k ∧ c = .int .u64 cy ∧ cy < B32 ∧ Win ys zs o (m + 1) ∧ Okl zs ∧ (∀ j, k ≤ j → zs.getD (o + j) 0 = ys.getD (o + j) 0) ∧
    wv zs o k + B32 ^ k * cy = wv ys o k + f * val (xs.take k) ∧ wr = put g zs r w
theorem win_ext {zs ys:List Nat} {o k:Nat} {v:Nat} (h:∀ j,k≤j→zs.getD (o+j) 0=ys.getD (o+j) 0):∀ j,k+1≤j→(zs.set (o+k) v).getD (o+j) 0=ys.getD (o+j) 0:=by
  intro j hj
  rw [← h j (by omega)]
  simp only [List.getD]
  rw [List.getElem?_set_ne (by omega)]
theorem at_num {x f z cy B a P W V:Nat} (h:a+P*cy=W+f*V) (_hB:0<B):a+P*((x*f+z+cy) % B)+P*B*((x*f+z+cy) / B)=W+P*z+f*(V+P*x):=by
  have h2:=Nat.mod_add_div (x*f+z+cy) B
  generalize (x*f+z+cy) % B=r at *
  generalize (x*f+z+cy) / B=q at *
  have h3:P*(r+B*q)=P*(x*f+z+cy):=by rw [h2]
  grind
theorem at_step {g o m k cy f x z:Nat} {ys xs zs:List Nat} {r:List Value} {w:World} (hxl:xs.length=m) (hyl:o+m+1≤ys.length) (hk:k<m) (hcy:cy<B32) (hf:f<B32) (hx:xs.getD k 0=x) (hz:zs.getD (o+k) 0=z) (hxb:x<B32) (hzb:z<B32)
    (hb:Blk w g ys r) (hwin:Win ys zs o (m+1)) (hoz:Okl zs) (hs:∀ j,k≤j→zs.getD (o+j) 0=ys.getD (o+j) 0) (he:wv zs o k+B32 ^ k*cy=wv ys o k+f*val (xs.take k)) :
    ATRel g o m ys xs f r w (.int .u64 (((x:Int)*(f:Int)+(z:Int)+(cy:Int)) / 4294967296)) (.int .i64 ((k:Int)+1)) ((put g zs r w).setCell ⟨g,o+k,none⟩ (.int .u32 (((x:Int)*(f:Int)+(z:Int)+(cy:Int)) % 4294967296))):=by
  have e1:((x:Int)*(f:Int)+(z:Int)+(cy:Int)) / 4294967296=(((x*f+z+cy) / B32:Nat):Int):=by rw [B32_eq];omega
  have e2:((x:Int)*(f:Int)+(z:Int)+(cy:Int)) % 4294967296=(((x*f+z+cy) % B32:Nat):Int):=by rw [B32_eq];omega
  rw [e1,e2,set_blk (put_blk _ _ hb.lt) _ _ (by rw [hwin.len];omega),put_put]
  have hbd:x*f≤18446744065119617025:=by
    rw [B32_eq] at hxb hf
    exact Nat.mul_le_mul (Nat.le_of_lt_succ hxb) (Nat.le_of_lt_succ hf)
  refine ⟨k+1,_,zs.set (o+k) ((x*f+z+cy) % B32),hk,rfl,rfl,?_,hwin.set _ _ (by omega),hoz.set _ _ (Nat.mod_lt _ B32_pos),win_ext hs,?_,rfl⟩
  · rw [Nat.div_lt_iff_lt_mul B32_pos];rw [B32_eq] at *;omega
  · rw [wv_set _ _ _ _ (by rw [hwin.len];omega),wv_succ ys o k (by omega),← hs k (Nat.le_refl _),hz,val_take_succ xs k (by omega),hx,Nat.pow_succ]
    exact at_num he B32_pos
theorem at_end {g o m cy f:Nat} {ys xs zs:List Nat} {r:List Value} {w:World} (hxl:xs.length=m) (hyl:o+m+1≤ys.length) (hcy:cy<B32)
    (hb:Blk w g ys r) (hwin:Win ys zs o (m+1)) (hoz:Okl zs) (he:wv zs o m+B32 ^ m*cy=wv ys o m+f*val (xs.take m)) :
    AddTimesPost g o m ys xs f r w (.returned (.tuple #[])) ((put g zs r w).setCell ⟨g,o+m,none⟩ (.int .u32 ((cy:Int) % 4294967296))):=by
  have e2:(cy:Int) % 4294967296=(cy:Int):=by rw [B32_eq] at hcy;omega
  rw [e2,set_blk (put_blk _ _ hb.lt) _ _ (by rw [hwin.len];omega),put_put]
  refine ⟨rfl,zs.set (o+m) cy,hwin.set _ _ (by omega),hoz.set _ _ hcy,?_,rfl⟩
  rw [wv_set _ _ _ _ (by rw [hwin.len];omega),he,List.take_of_length_le (by omega)]
theorem addTimes_any (g o m cap:Nat) (ad:Option Addr) (cap':Nat) (ys xs:List Nat) (r:List Value) (f:Nat) (w:World) (hxl:xs.length=m) (hcap:m+1≤cap) (hm:m≤1000000000000)
    (hyl:o+m+1≤ys.length) (hoy:Okl ys) (hox:Okl xs) (hf:f<B32) (hb:Blk w g ys r) (hr:Rd w ad xs) (hne:∀ a,ad=some a→0<xs.length→a.block ≠ g) :
    Calls Tryz.prog 121 #[.slice (some ⟨g,o,none⟩) (m+1) cap,.slice ad m cap',.int .u32 (f:Int)] w (AddTimesPost g o m ys xs f r w):=by
  go_enter Tryz.func121,Tryz.ntmps121
  go_wp2
  go_loopw [6,12] (fun c i wr=>ATRel g o m ys xs f r w c i wr) (fun _ i _=>m - (intOf i).toNat)
  case atStart=>exact ⟨0,0,ys,by omega,rfl,rfl,by decide,Win.refl _ _ _,hoy,fun _ _=>rfl,by simp [wv,val],(put_same hb).symm⟩
  case round =>
    obtain ⟨k,cy,zs,hk,rfl,rfl,hcy,hwin,hoz,hsame,heq,rfl⟩:=hrel
    have HS:=Lib.hid hsame;clear hsame
    have HE:=Lib.hid heq;clear heq
    have hbz:Blk (put g zs r w) g zs r:=put_blk _ _ hb.lt
    by_cases hlt:k<m
    · obtain ⟨b,ox,hadd,_,hc⟩:=hr k (by omega)
      subst hadd
      have hcx:(put g zs r w).cell? ⟨b,ox+k,none⟩=some (.int .u32 ((xs.getD k 0:Nat):Int)):=(put_cell g zs r w ⟨b,ox+k,none⟩ (hne ⟨b,ox,none⟩ rfl (by omega))).trans hc
      have hcz:=hbz.cell (o+k) (by rw [hwin.len];omega)
      have hfz:=hbz.free (o+k)
      have hxb:=hox.getD k
      have hzb:=hoz.getD (o+k)
      clear hc
      generalize hx:xs.getD k 0=x at *
      generalize hz:zs.getD (o+k) 0=z at *
      have R:=Lib.hid (at_step (f:=f) hxl hyl hlt hcy hf hx hz hxb hzb hb hwin hoz HS.out HE.out)
      clear hx hz
      have hbd:=mul_bd hxb hf
      rw [B32_eq] at hxb hzb hcy hf
      go_wp2
      go_roundw
      case rel=>exact R.out
      case measure=>simp [intOf];omega
    · obtain rfl:k=m:=by omega
      have hcz:=hbz.cell (o+k) (by rw [hwin.len];omega)
      have hfz:=hbz.free (o+k)
      generalize zs.getD (o+k) 0=z at *
      have R:=Lib.hid (at_end (f:=f) hxl hyl hcy hb hwin hoz HE.out)
      go_wp2
      go_end0
      exact R.out
def smd (x y c:Nat):Nat:=(x+y+c) % 4294967296
def cry (x y c:Nat):Nat:=(x+y+c) / 4294967296
theorem smd_lt (x y c:Nat):smd x y c<4294967296:=Nat.mod_lt _ (by decide)
theorem cry_le {x y c:Nat} (hx:x<4294967296) (hy:y<4294967296) (hc:c≤1):cry x y c≤1:=by unfold cry;omega
theorem smd_eq (x y c:Nat):smd x y c+4294967296*cry x y c=x+y+c:=by unfold smd cry;omega
theorem add32_any (x y c:Nat) (w:World) (hx:x<4294967296) (hy:y<4294967296) (hc:c≤1) :
    Calls Tryz.prog 213 #[.int .u32 (x:Int),.int .u32 (y:Int),.int .u32 (c:Int)] w fun e w' =>
      e=.returned (.tuple #[.int .u32 ((smd x y c:Nat):Int),.int .u32 ((cry x y c:Nat):Int)])∧w=w':=by
  go_enter Tryz.func213,Tryz.ntmps213
  go_wp2
  go_ret2
  exact ⟨by unfold smd cry;congr 5 <;> omega,rfl⟩
theorem ret1_eq {k1:IntKind} {a a':Int} (h1:a=a'):Ending.returned (.int k1 a)=.returned (.int k1 a'):=by rw [h1]
theorem ret2_eq {k1 k2:IntKind} {a a' b b':Int} (h1:a=a') (h2:b=b'):Ending.returned (.tuple #[.int k1 a,.int k2 b])=.returned (.tuple #[.int k1 a',.int k2 b']):=by rw [h1,h2]
def brw (x y c:Nat):Nat:=if x<y+c then 1 else 0
theorem brw_le (x y c:Nat):brw x y c≤1:=by unfold brw;split <;> omega
def dif (x y c:Nat):Nat:=(x+4294967296 - y - c) % 4294967296
theorem dif_lt (x y c:Nat):dif x y c<4294967296:=Nat.mod_lt _ (by decide)
theorem dif_eq {x y c:Nat} (hx:x<4294967296) (hy:y<4294967296) (hc:c≤1):x+4294967296*brw x y c=dif x y c+y+c:=by
  unfold brw dif;split <;> omega
theorem top_bit (n:Nat) (h:n<4294967296):n / 2147483648=(n.testBit 31).toNat:=by
  rw [Nat.testBit_eq_decide_div_mod_eq]
  have:n / 2 ^ 31=n / 2147483648:=rfl
  rw [this]
  by_cases h1:n / 2147483648 % 2=1
  iterate 2
    · simp [h1];omega
theorem tb_ge (n:Nat) (h:n<4294967296):n.testBit 31=decide (2147483648≤n):=by
  have h1:=top_bit n h
  by_cases h2:2147483648≤n
  · have:n / 2147483648=1:=by omega
    rw [this] at h1
    cases hb:n.testBit 31
    · rw [hb] at h1;simp at h1
    · simp [h2]
  · have:n / 2147483648=0:=by omega
    rw [this] at h1
    cases hb:n.testBit 31
    · simp [h2]
    · rw [hb] at h1;simp at h1
theorem borrow_nat {x y c:Nat} (hx:x<4294967296) (hy:y<4294967296) (hc:c≤1) :
    (((4294967295 ^^^ x) &&& y) ||| ((4294967295 ^^^ (x ^^^ y)) &&& dif x y c)) / 2147483648=brw x y c:=by
  have hd:=dif_lt x y c
  have hM:(4294967295:Nat)<2 ^ 32:=by decide
  have b1:(4294967295 ^^^ x) &&& y<2 ^ 32:=Nat.and_lt_two_pow _ hy
  have b2:(4294967295 ^^^ (x ^^^ y)) &&& dif x y c<2 ^ 32:=Nat.and_lt_two_pow _ hd
  rw [top_bit _ (Nat.or_lt_two_pow b1 b2)]
  simp only [Nat.testBit_or,Nat.testBit_and,Nat.testBit_xor]
  rw [tb_ge x hx,tb_ge y hy,tb_ge _ hd,show Nat.testBit 4294967295 31=true by decide]
  have he:=dif_eq hx hy hc
  have hb:=brw_le x y c
  generalize brw x y c=q at *
  generalize dif x y c=d at *
  clear b1 b2 hM
  by_cases h1:2147483648≤x <;> by_cases h2:2147483648≤y <;> by_cases h3:2147483648≤d <;> simp [h1,h2,h3] <;> omega
theorem borrow_int {x y c:Nat} (hx:x<4294967296) (hy:y<4294967296) (hc:c≤1) :
    bits BinOp.or IntKind.u32 (bits BinOp.and IntKind.u32 (bits BinOp.xor IntKind.u32 IntKind.u32.max ↑x) ↑y)
      (bits BinOp.and IntKind.u32 (bits BinOp.xor IntKind.u32 IntKind.u32.max (bits BinOp.xor IntKind.u32 ↑x ↑y)) (((x:Int) - ↑y - ↑c) % 4294967296)) / 2147483648=((brw x y c:Nat):Int):=by
  have hd:=dif_lt x y c
  have hM:(4294967295:Nat)<2 ^ 32:=by decide
  have ed:((x:Int) - ↑y - ↑c) % 4294967296=((dif x y c:Nat):Int):=by unfold dif;omega
  have em:IntKind.u32.max=((4294967295:Nat):Int):=by decide
  have x1:4294967295 ^^^ x<2 ^ 32:=Nat.xor_lt_two_pow hM hx
  have x2:x ^^^ y<2 ^ 32:=Nat.xor_lt_two_pow hx hy
  have x3:4294967295 ^^^ (x ^^^ y)<2 ^ 32:=Nat.xor_lt_two_pow hM x2
  have b1:(4294967295 ^^^ x) &&& y<2 ^ 32:=Nat.and_lt_two_pow _ hy
  have b2:(4294967295 ^^^ (x ^^^ y)) &&& dif x y c<2 ^ 32:=Nat.and_lt_two_pow _ hd
  rw [ed,em,u32_xor_nat _ _ (by decide) hx,u32_xor_nat _ _ hx hy,u32_xor_nat _ _ (by decide) x2,u32_and_nat _ _ x1 hy,u32_and_nat _ _ x3 hd,u32_or_nat _ _ b1 b2,← borrow_nat hx hy hc]
  omega
theorem sub32_any (x y c:Nat) (w:World) (hx:x<4294967296) (hy:y<4294967296) (hc:c≤1) :
    Calls Tryz.prog 162 #[.int .u32 (x:Int),.int .u32 (y:Int),.int .u32 (c:Int)] w fun e w' =>
      e=.returned (.tuple #[.int .u32 ((dif x y c:Nat):Int),.int .u32 ((brw x y c:Nat):Int)])∧w=w':=by
  have hs:IntKind.u32.signed=false:=rfl
  have HB:=Lib.hid (borrow_int hx hy hc)
  go_enter Tryz.func162,Tryz.ntmps162
  go_wp2
  go_ret2
  refine ⟨ret2_eq ?_ ?_,rfl⟩
  · unfold dif;omega
  · exact HB.out
def blen (x:Nat):Nat:=Lib.bitLen x
theorem len32_int (x:Int) (w:World) (h0:0≤x) (h1:x≤4294967295) :
    Calls Tryz.prog 124 #[.int .u32 x] w fun e w'=>e=.returned (.int .i64 (Lib.bitLen x.toNat))∧w=w':=by
  by_cases hA:x≤255
  · have q0:0≤x:=by omega
    have q1:x≤255:=by omega
    have e:(x).toNat=x.toNat:=by omega
    have l:=Lib.bitLen_le8' (x) (by omega) (by omega)
    have t:=Lib.len8_of (x) (by omega) (by omega)
    rw [e] at l t
    have v0:0≤Lib.len8 (x):=by rw [t];omega
    have v1:Lib.len8 (x)≤8:=by rw [t];omega
    have T:Hid (Lib.len8 (x)+0=Lib.bitLen x.toNat):=by unfold Hid;rw [t];omega
    clear t l e
    go_enter Tryz.func124,Tryz.ntmps124
    go_wp2
    go_ret
    exact ⟨ret1_eq (by rw [← T.out];omega),rfl⟩
  by_cases hB:x≤65535
  · have q0:0≤x / 256:=by omega
    have q1:x / 256≤255:=by omega
    have e:(x / 256).toNat=x.toNat / 256:=by omega
    have l:=Lib.bitLen_le8' (x / 256) (by omega) (by omega)
    have t:=Lib.len8_of (x / 256) (by omega) (by omega)
    rw [e] at l t
    have s:=Lib.bitLen_shift8 x.toNat (by omega) (by omega)
    have v0:0≤Lib.len8 (x / 256):=by rw [t];omega
    have v1:Lib.len8 (x / 256)≤8:=by rw [t];omega
    have T:Hid (Lib.len8 (x / 256)+8=Lib.bitLen x.toNat):=by unfold Hid;rw [t,s];omega
    clear t l e s
    go_enter Tryz.func124,Tryz.ntmps124
    go_wp2
    go_ret
    exact ⟨ret1_eq (by rw [← T.out];omega),rfl⟩
  by_cases hC:x≤16777215
  · have q0:0≤x / 65536:=by omega
    have q1:x / 65536≤255:=by omega
    have e:(x / 65536).toNat=x.toNat / 65536:=by omega
    have l:=Lib.bitLen_le8' (x / 65536) (by omega) (by omega)
    have t:=Lib.len8_of (x / 65536) (by omega) (by omega)
    rw [e] at l t
    have s:=Lib.bitLen_shift16 x.toNat (by omega) (by omega)
    have v0:0≤Lib.len8 (x / 65536):=by rw [t];omega
    have v1:Lib.len8 (x / 65536)≤8:=by rw [t];omega
    have T:Hid (Lib.len8 (x / 65536)+16=Lib.bitLen x.toNat):=by unfold Hid;rw [t,s];omega
    clear t l e s
    go_enter Tryz.func124,Tryz.ntmps124
    go_wp2
    go_ret
    exact ⟨ret1_eq (by rw [← T.out];omega),rfl⟩
  · have q0:0≤x / 65536 / 256:=by omega
    have q1:x / 65536 / 256≤255:=by omega
    have e:(x / 65536 / 256).toNat=x.toNat / 16777216:=by omega
    have l:=Lib.bitLen_le8' (x / 65536 / 256) (by omega) (by omega)
    have t:=Lib.len8_of (x / 65536 / 256) (by omega) (by omega)
    rw [e] at l t
    have s:=Lib.bitLen_shift24 x.toNat (by omega) (by omega)
    have v0:0≤Lib.len8 (x / 65536 / 256):=by rw [t];omega
    have v1:Lib.len8 (x / 65536 / 256)≤8:=by rw [t];omega
    have T:Hid (Lib.len8 (x / 65536 / 256)+24=Lib.bitLen x.toNat):=by unfold Hid;rw [t,s];omega
    clear t l e s
    go_enter Tryz.func124,Tryz.ntmps124
    go_wp2
    go_ret
    exact ⟨ret1_eq (by rw [← T.out];omega),rfl⟩
theorem len32_any (x:Nat) (w:World) (hx:x<4294967296) :
    Calls Tryz.prog 124 #[.int .u32 (x:Int)] w fun e w'=>e=.returned (.int .i64 (blen x:Int))∧w=w' :=
  (len32_int (x:Int) w (by omega) (by omega)).mono fun _ _ h=>h
theorem blen_le (x:Nat) (hx:x<4294967296):blen x≤32:=Lib.bitLen_le x 32 (by decide) hx
theorem lz32_any (x:Nat) (w:World) (hx:x<4294967296) :
    Calls Tryz.prog 214 #[.int .u32 (x:Int)] w fun e w'=>e=.returned (.int .i64 ((32 - blen x:Nat):Int))∧w=w':=by
  have hb:=blen_le x hx
  go_enter Tryz.func214,Tryz.ntmps214
  go_wp2_with (go_at_call 124;refine (len32_any _ _ hx).mono ?_;rintro e w' ⟨rfl,rfl⟩)
  go_ret
  exact ⟨ret1_eq (by omega),rfl⟩
theorem len64_small (x:Int) (w:World) (h0:0≤x) (h1:x≤65535) :
    Calls Tryz.prog 160 #[.int .u64 x] w fun e w'=>e=.returned (.int .i64 (Lib.bitLen x.toNat))∧w=w':=by
  by_cases hA:x≤255
  · have q0:0≤x:=by omega
    have q1:x≤255:=by omega
    have e:(x).toNat=x.toNat:=by omega
    have l:=Lib.bitLen_le8' (x) (by omega) (by omega)
    have t:=Lib.len8_of (x) (by omega) (by omega)
    rw [e] at l t
    have v0:0≤Lib.len8 (x):=by rw [t];omega
    have v1:Lib.len8 (x)≤8:=by rw [t];omega
    have T:Hid (Lib.len8 (x)+0=Lib.bitLen x.toNat):=by unfold Hid;rw [t];omega
    clear t l e
    go_enter Tryz.func160,Tryz.ntmps160
    go_wp2
    go_ret
    exact ⟨ret1_eq (by rw [← T.out];omega),rfl⟩
  · have q0:0≤x / 256:=by omega
    have q1:x / 256≤255:=by omega
    have e:(x / 256).toNat=x.toNat / 256:=by omega
    have l:=Lib.bitLen_le8' (x / 256) (by omega) (by omega)
    have t:=Lib.len8_of (x / 256) (by omega) (by omega)
    rw [e] at l t
    have s:=Lib.bitLen_shift8 x.toNat (by omega) (by omega)
    have v0:0≤Lib.len8 (x / 256):=by rw [t];omega
    have v1:Lib.len8 (x / 256)≤8:=by rw [t];omega
    have T:Hid (Lib.len8 (x / 256)+8=Lib.bitLen x.toNat):=by unfold Hid;rw [t,s];omega
    clear t l e s
    go_enter Tryz.func160,Tryz.ntmps160
    go_wp2
    go_ret
    exact ⟨ret1_eq (by rw [← T.out];omega),rfl⟩
theorem len_small (x:Nat) (w:World) (h1:x≤65535) :
    Calls Tryz.prog 122 #[.int .u64 (x:Int)] w fun e w'=>e=.returned (.int .i64 (blen x:Int))∧w=w':=by
  go_enter Tryz.func122,Tryz.ntmps122
  go_wp2_with (go_at_call 160;refine (len64_small (x:Int) _ (by omega) (by omega)).mono ?_;rintro e w' ⟨rfl,rfl⟩)
  go_ret
  exact ⟨rfl,rfl⟩
theorem wv_ext {zs ys : List Nat} {o k : Nat} (hl : zs.length = ys.length) (h : ∀ j, k ≤ j → zs.getD (o + j) 0 = ys.getD (o + j) 0) :
    ∀ n, k ≤ n → o + n ≤ ys.length → wv zs o n + wv ys o k = wv ys o n + wv zs o k := by
  intro n
  induction n with
  | zero => intro h0 _; obtain rfl : k = 0 := by omega
            omega
  | succ n ih =>
    intro hk hn
    by_cases hkn : k = n + 1
    · subst hkn; omega
    · have := ih (by omega) (by omega)
      rw [wv_succ zs o n (by omega), wv_succ ys o n (by omega), h n (by omega)]; omega
def AddToPost (g o n:Nat) (ys xs:List Nat) (r:List Value) (w:World) (e:Ending) (w':World):Prop :=
  ∃ zs cy,e=.returned (.int .u32 ((cy:Nat):Int))∧cy≤1∧Win ys zs o n∧Okl zs∧wv zs o n+B32 ^ n*cy=wv ys o n+val xs∧w'=put g zs r w
def ADRel (g o n : Nat) (ys xs : List Nat) (k0 : Nat) (r : List Value) (w : World) (c i : Value) (wr : World) : Prop :=
  ∃ (k cy : Nat) (zs : List Nat), k ≤ n ∧ k0 ≤ k ∧ i = .int .i64 k ∧ c = .int .u32 cy ∧ cy ≤ 1 ∧ Win ys zs o n ∧ Okl zs ∧ (∀ j, k ≤ j → zs.getD (o + j) 0 = ys.getD (o + j) 0) ∧
    wv zs o k + B32 ^ k * cy = wv ys o k + val (xs.take k) ∧ wr = put g zs r w
theorem ad_num {x z cy B a P W V s q:Nat} (h:a+P*cy=W+V) (e:s+B*q=z+x+cy):a+P*s+P*B*q=W+P*z+(V+P*x):=by
  have h3:P*(s+B*q)=P*(z+x+cy):=by rw [e]
  grind
theorem ad_step {g o n k cy x z:Nat} {ys xs zs:List Nat} {r:List Value} {w:World} {k0:Nat} (hyl:o+n≤ys.length) (hk:k<n) (hk0:k0≤k) (hcy:cy≤1) (hx:val (xs.take (k+1))=val (xs.take k)+B32 ^ k*x) (hz:zs.getD (o+k) 0=z) (hxb:x<B32) (hzb:z<B32)
    (hb:Blk w g ys r) (hwin:Win ys zs o n) (hoz:Okl zs) (hs:∀ j,k≤j→zs.getD (o+j) 0=ys.getD (o+j) 0) (he:wv zs o k+B32 ^ k*cy=wv ys o k+val (xs.take k)) :
    ADRel g o n ys xs k0 r w (.int .u32 ((cry z x cy:Nat):Int)) (.int .i64 ((k:Int)+1)) ((put g zs r w).setCell ⟨g,o+k,none⟩ (.int .u32 ((smd z x cy:Nat):Int))):=by
  rw [set_blk (put_blk _ _ hb.lt) _ _ (by rw [hwin.len];omega),put_put]
  refine ⟨k+1,_,zs.set (o+k) (smd z x cy),hk,by omega,rfl,rfl,cry_le hzb hxb hcy,hwin.set _ _ (by omega),hoz.set _ _ (smd_lt _ _ _),win_ext hs,?_,rfl⟩
  rw [wv_set _ _ _ _ (by rw [hwin.len];omega),wv_succ ys o k (by omega),← hs k (Nat.le_refl _),hz,hx,Nat.pow_succ]
  exact ad_num he (smd_eq z x cy)
theorem ad_end {g o n k cy:Nat} {ys xs zs:List Nat} {r:List Value} {w:World} (hyl:o+n≤ys.length) (hk:k≤n) (hm:xs.length≤k) (hcy:cy≤1) (hout:k=n∨cy=0)
    (hwin:Win ys zs o n) (hoz:Okl zs) (hs:∀ j,k≤j→zs.getD (o+j) 0=ys.getD (o+j) 0) (he:wv zs o k+B32 ^ k*cy=wv ys o k+val (xs.take k)) :
    AddToPost g o n ys xs r w (.returned (.int .u32 (cy:Int))) (put g zs r w):=by
  refine ⟨zs,cy,rfl,hcy,hwin,hoz,?_,rfl⟩
  rw [List.take_of_length_le hm] at he
  rcases hout with rfl | rfl
  · exact he
  · have:=wv_ext hwin.len hs n hk hyl
    simp only [Nat.mul_zero,Nat.add_zero] at he ⊢
    omega
theorem addTo_any (g o n cap:Nat) (ad:Option Addr) (m cap':Nat) (ys xs:List Nat) (r:List Value) (w:World) (hxl:xs.length=m) (hmn:m≤n) (hcap:n≤cap) (hm:n≤1000000000000)
    (hyl:o+n≤ys.length) (hoy:Okl ys) (hox:Okl xs) (hb:Blk w g ys r) (hr:Rd w ad xs) (hne:∀ a,ad=some a→0<xs.length→a.block ≠ g) :
    Calls Tryz.prog 208 #[.slice (some ⟨g,o,none⟩) n cap,.slice ad m cap'] w (AddToPost g o n ys xs r w):=by
  go_enter Tryz.func208,Tryz.ntmps208
  go_wp2
  go_loopw [4,10] (fun c i wr=>ADRel g o n ys xs 0 r w c i wr∧(intOf i).toNat≤m) (fun _ i _=>m - (intOf i).toNat)
  case atStart=>exact ⟨⟨0,0,ys,by omega,by omega,rfl,rfl,by decide,Win.refl _ _ _,hoy,fun _ _=>rfl,by simp [wv,val],(put_same hb).symm⟩,by simp [intOf]⟩
  case round =>
    obtain ⟨⟨k,cy,zs,hk,_,rfl,rfl,hcy,hwin,hoz,hsame,heq,rfl⟩,hkm⟩:=hrel
    simp only [intOf,Int.toNat_natCast] at hkm
    have HS:=Lib.hid hsame;clear hsame
    have HE:=Lib.hid heq;clear heq
    have hbz:Blk (put g zs r w) g zs r:=put_blk _ _ hb.lt
    by_cases hlt:k<m
    · obtain ⟨b,ox,hadd,_,hc⟩:=hr k (by omega)
      subst hadd
      have hcx:(put g zs r w).cell? ⟨b,ox+k,none⟩=some (.int .u32 ((xs.getD k 0:Nat):Int)):=(put_cell g zs r w ⟨b,ox+k,none⟩ (hne ⟨b,ox,none⟩ rfl (by omega))).trans hc
      have hcz:=hbz.cell (o+k) (by rw [hwin.len];omega)
      have hfz:=hbz.free (o+k)
      have hxb:=hox.getD k
      have hzb:=hoz.getD (o+k)
      have hvt:=val_take_succ xs k (by omega)
      clear hc
      generalize hx:xs.getD k 0=x at *
      generalize hz:zs.getD (o+k) 0=z at *
      have R:=Lib.hid (ad_step (k0:=0) hyl (by omega) (by omega) hcy hvt hz hxb hzb hb hwin hoz HS.out HE.out)
      clear hx hz hvt
      rw [B32_eq] at hxb hzb
      go_wp2_with (go_at_call 213;refine (add32_any _ _ _ _ hzb hxb hcy).mono ?_;rintro e w' ⟨rfl,rfl⟩)
      go_roundw
      case rel=>exact ⟨R.out,by simp [intOf];omega⟩
      case measure=>simp [intOf];omega
    · obtain rfl:k=m:=by omega
      go_wp2
      go_loopw [4,7] (fun c i wr=>ADRel g o n ys xs k r w c i wr) (fun _ i _=>n - (intOf i).toNat)
      case atStart=>exact ⟨k,cy,zs,by omega,by omega,rfl,rfl,hcy,hwin,hoz,HS.out,HE.out,rfl⟩
      case round =>
        clear hcy hwin hoz HS HE hbz
        obtain ⟨k',cz,zt,hk',hkk,rfl,rfl,hcy,hwin,hoz,hsame,heq,rfl⟩:=hrel
        have HS:=Lib.hid hsame;clear hsame
        have HE:=Lib.hid heq;clear heq
        have hbz:Blk (put g zt r w) g zt r:=put_blk _ _ hb.lt
        by_cases hlt':k'<n
        · by_cases hc0:cz=0
          · subst hc0
            have R:=Lib.hid (ad_end (g:=g) (r:=r) (w:=w) hyl hk' (by omega) hcy (.inr rfl) hwin hoz HS.out HE.out)
            go_wp2
            go_ret
            exact R.out
          · have hcz:=hbz.cell (o+k') (by rw [hwin.len];omega)
            have hfz:=hbz.free (o+k')
            have hzb:=hoz.getD (o+k')
            have hvt:val (xs.take (k'+1))=val (xs.take k')+B32 ^ k'*0:=by rw [List.take_of_length_le (by omega),List.take_of_length_le (by omega)];omega
            generalize hz:zt.getD (o+k') 0=z at *
            have R:=Lib.hid (ad_step (k0:=k) hyl hlt' (by omega) hcy hvt hz B32_pos hzb hb hwin hoz HS.out HE.out)
            clear hz hvt
            rw [B32_eq] at hzb
            go_wp2_with (go_at_call 213;refine (add32_any z 0 cz _ hzb (by decide) hcy).mono ?_;rintro e w' ⟨rfl,rfl⟩)
            go_roundw
            case rel=>exact R.out
            case measure=>simp [intOf];omega
        · have R:=Lib.hid (ad_end (g:=g) (r:=r) (w:=w) hyl hk' (by omega) hcy (.inl (by omega)) hwin hoz HS.out HE.out)
          go_wp2
          go_ret
          exact R.out
def TakePost (g o n:Nat) (ys xs:List Nat) (f:Nat) (r:List Value) (w:World) (e:Ending) (w':World):Prop :=
  ∃ zs q,e=.returned (.bool (decide ((0:Int)<(q:Nat))))∧Win ys zs o n∧Okl zs∧wv zs o n+f*val xs=wv ys o n+B32 ^ n*q∧w'=put g zs r w
def TKRel (g o n : Nat) (ys xs : List Nat) (f k0 : Nat) (r : List Value) (w : World) (c br i : Value) (wr : World) : Prop :=
  ∃ (k cy bo : Nat) (zs : List Nat), k ≤ n ∧ k0 ≤ k ∧ i = .int .i64 k ∧ c = .int .u64 cy ∧ br = .int .u32 bo ∧ cy < B32 ∧ bo ≤ 1 ∧ Win ys zs o n ∧ Okl zs ∧ (∀ j, k ≤ j → zs.getD (o + j) 0 = ys.getD (o + j) 0) ∧
    wv zs o k + f * val (xs.take k) = wv ys o k + B32 ^ k * (cy + bo) ∧ wr = put g zs r w
theorem tk_num {x z c b c' b' B a P W V f d l:Nat} (h:a+f*V=W+P*(c+b)) (e1:l+B*c'=x*f+c) (e2:z+B*b'=d+l+b):a+P*d+f*(V+P*x)=W+P*z+P*B*(c'+b'):=by
  have h3:P*(l+B*c')=P*(x*f+c):=by rw [e1]
  have h4:P*(z+B*b')=P*(d+l+b):=by rw [e2]
  grind
theorem tk_step {g o n k k0 cy bo x z f c' l:Nat} {ys xs zs:List Nat} {r:List Value} {w:World} (hyl:o+n≤ys.length) (hk:k<n) (hk0:k0≤k) (hbo:bo≤1) (hx:val (xs.take (k+1))=val (xs.take k)+B32 ^ k*x) (hz:zs.getD (o+k) 0=z) (hzb:z<B32)
    (hc':c'<B32) (hl:l<B32) (el:l+B32*c'=x*f+cy)
    (hb:Blk w g ys r) (hwin:Win ys zs o n) (hoz:Okl zs) (hs:∀ j,k≤j→zs.getD (o+j) 0=ys.getD (o+j) 0) (he:wv zs o k+f*val (xs.take k)=wv ys o k+B32 ^ k*(cy+bo)) :
    TKRel g o n ys xs f k0 r w (.int .u64 ((c':Nat):Int)) (.int .u32 ((brw z l bo:Nat):Int)) (.int .i64 ((k:Int)+1)) ((put g zs r w).setCell ⟨g,o+k,none⟩ (.int .u32 ((dif z l bo:Nat):Int))):=by
  rw [set_blk (put_blk _ _ hb.lt) _ _ (by rw [hwin.len];omega),put_put]
  refine ⟨k+1,c',brw z l bo,zs.set (o+k) (dif z l bo),hk,by omega,rfl,rfl,rfl,hc',brw_le _ _ _,hwin.set _ _ (by omega),hoz.set _ _ (dif_lt _ _ _),win_ext hs,?_,rfl⟩
  rw [wv_set _ _ _ _ (by rw [hwin.len];omega),wv_succ ys o k (by omega),← hs k (Nat.le_refl _),hz,hx,Nat.pow_succ]
  exact tk_num he el (dif_eq hzb hl hbo)
theorem tk_end {g o n k cy bo f:Nat} {ys xs zs:List Nat} {r:List Value} {w:World} (hyl:o+n≤ys.length) (hk:k≤n) (hm:xs.length≤k) (hout:k=n∨cy+bo=0)
    (hwin:Win ys zs o n) (hoz:Okl zs) (hs:∀ j,k≤j→zs.getD (o+j) 0=ys.getD (o+j) 0) (he:wv zs o k+f*val (xs.take k)=wv ys o k+B32 ^ k*(cy+bo)) :
    TakePost g o n ys xs f r w (.returned (.bool (decide ((0:Int)<(cy:Int)+(bo:Int))))) (put g zs r w):=by
  refine ⟨zs,cy+bo,by rw [Int.natCast_add],hwin,hoz,?_,rfl⟩
  rw [List.take_of_length_le hm] at he
  rcases hout with rfl | h0
  · exact he
  · have:=wv_ext hwin.len hs n hk hyl
    rw [h0] at he ⊢
    simp only [Nat.mul_zero,Nat.add_zero] at he ⊢
    omega
theorem takeTimes_any (g o n cap:Nat) (ad:Option Addr) (m cap' f:Nat) (ys xs:List Nat) (r:List Value) (w:World) (hxl:xs.length=m) (hmn:m≤n) (hcap:n≤cap) (hm:n≤1000000000000)
    (hyl:o+n≤ys.length) (hoy:Okl ys) (hox:Okl xs) (hf:f<B32) (hb:Blk w g ys r) (hr:Rd w ad xs) (hne:∀ a,ad=some a→0<xs.length→a.block ≠ g) :
    Calls Tryz.prog 127 #[.slice (some ⟨g,o,none⟩) n cap,.slice ad m cap',.int .u32 (f:Int)] w (TakePost g o n ys xs f r w):=by
  go_enter Tryz.func127,Tryz.ntmps127
  go_wp2
  go_loopw [7,8,15] (fun c br i wr=>TKRel g o n ys xs f 0 r w c br i wr∧(intOf i).toNat≤m) (fun _ _ i _=>m - (intOf i).toNat)
  case atStart=>exact ⟨⟨0,0,0,ys,by omega,by omega,rfl,rfl,rfl,by decide,by decide,Win.refl _ _ _,hoy,fun _ _=>rfl,by simp [wv,val],(put_same hb).symm⟩,by simp [intOf]⟩
  case round =>
    obtain ⟨⟨k,cy,bo,zs,hk,_,rfl,rfl,rfl,hcy,hbo,hwin,hoz,hsame,heq,rfl⟩,hkm⟩:=hrel
    simp only [intOf,Int.toNat_natCast] at hkm
    have HS:=Lib.hid hsame;clear hsame
    have HE:=Lib.hid heq;clear heq
    have hbz:Blk (put g zs r w) g zs r:=put_blk _ _ hb.lt
    by_cases hlt:k<m
    · obtain ⟨b,ox,hadd,_,hc⟩:=hr k (by omega)
      subst hadd
      have hcx:(put g zs r w).cell? ⟨b,ox+k,none⟩=some (.int .u32 ((xs.getD k 0:Nat):Int)):=(put_cell g zs r w ⟨b,ox+k,none⟩ (hne ⟨b,ox,none⟩ rfl (by omega))).trans hc
      have hcz:=hbz.cell (o+k) (by rw [hwin.len];omega)
      have hfz:=hbz.free (o+k)
      have hxb:=hox.getD k
      have hzb:=hoz.getD (o+k)
      have hvt:=val_take_succ xs k (by omega)
      clear hc
      generalize hx:xs.getD k 0=x at *
      generalize hz:zs.getD (o+k) 0=z at *
      have hbd:=mul_bd hxb hf
      have hbn:x*f≤18446744065119617025:=by
        have h1:=hxb;have h2:=hf;rw [B32_eq] at h1 h2
        exact Nat.mul_le_mul (Nat.le_of_lt_succ h1) (Nat.le_of_lt_succ h2)
      have hc':(x*f+cy) / B32<B32:=by rw [Nat.div_lt_iff_lt_mul B32_pos];rw [B32_eq] at *;omega
      have hl':(x*f+cy) % B32<B32:=Nat.mod_lt _ B32_pos
      have R:=Lib.hid (tk_step (k0:=0) hyl (by omega) (by omega) hbo hvt hz hzb hc' hl' (Nat.mod_add_div _ _) hb hwin hoz HS.out HE.out)
      have e1:Hid (((x:Int)*(f:Int)+(cy:Int)) / 4294967296=(((x*f+cy) / B32:Nat):Int)):=by unfold Hid;rw [B32_eq];omega
      have e2:Hid (((x:Int)*(f:Int)+(cy:Int)) % 4294967296=(((x*f+cy) % B32:Nat):Int)):=by unfold Hid;rw [B32_eq];omega
      clear hx hz hvt hbn
      generalize (x*f+cy) / B32=c' at *
      generalize (x*f+cy) % B32=l at *
      rw [B32_eq] at hxb hzb hcy hf hl' hc'
      go_wp2_with (go_at_call 162;rw [e2.out];refine (sub32_any z l bo _ hzb hl' hbo).mono ?_;rintro e w' ⟨rfl,rfl⟩)
      go_roundw
      case rel=>rw [e1.out];exact ⟨R.out,by simp [intOf];omega⟩
      case measure=>simp [intOf];omega
    · obtain rfl:k=m:=by omega
      go_wp2
      go_loopw [7,8,12] (fun c br i wr=>TKRel g o n ys xs f k r w c br i wr) (fun _ _ i _=>n - (intOf i).toNat)
      case atStart=>exact ⟨k,cy,bo,zs,by omega,by omega,rfl,rfl,rfl,hcy,hbo,hwin,hoz,HS.out,HE.out,rfl⟩
      case round =>
        clear hcy hbo hwin hoz HS HE hbz
        obtain ⟨k',cz,bz,zt,hk',hkk,rfl,rfl,rfl,hcz',hbo,hwin,hoz,hsame,heq,rfl⟩:=hrel
        have HS:=Lib.hid hsame;clear hsame
        have HE:=Lib.hid heq;clear heq
        have hbz:Blk (put g zt r w) g zt r:=put_blk _ _ hb.lt
        by_cases hlt':k'<n
        · by_cases hc0:cz+bz=0
          · obtain rfl:cz=0:=by omega
            obtain rfl:bz=0:=by omega
            have R:=Lib.hid (tk_end (g:=g) (r:=r) (w:=w) hyl hk' (by omega) (.inr rfl) hwin hoz HS.out HE.out)
            go_wp2
            go_ret
            exact R.out
          · have hcz:=hbz.cell (o+k') (by rw [hwin.len];omega)
            have hfz:=hbz.free (o+k')
            have hzb:=hoz.getD (o+k')
            have hvt:val (xs.take (k'+1))=val (xs.take k')+B32 ^ k'*0:=by rw [List.take_of_length_le (by omega),List.take_of_length_le (by omega)];omega
            generalize hz:zt.getD (o+k') 0=z at *
            have R:=Lib.hid (tk_step (k0:=k) (f:=f) (c':=0) (l:=cz) hyl hlt' (by omega) hbo hvt hz hzb B32_pos hcz' (by omega) hb hwin hoz HS.out HE.out)
            clear hz hvt
            rw [B32_eq] at hzb hcz'
            have hpos:0<(cz:Int)+(bz:Int):=by omega
            go_wp2_with (go_at_call 162;refine (sub32_any z cz bz _ hzb hcz' hbo).mono ?_;rintro e w' ⟨rfl,rfl⟩)
            go_roundw
            case rel=>exact R.out
            case measure=>simp [intOf];omega
        · have R:=Lib.hid (tk_end (g:=g) (r:=r) (w:=w) hyl hk' (by omega) (.inl (by omega)) hwin hoz HS.out HE.out)
          rw [B32_eq] at hcz'
          go_wp2
          go_ret
          exact R.out
theorem info_u32:(Tryz.prog.info? 51).map (fun i=>(i.zero,i.size,i.bytes))=some (some (.int .u32 0),1,4):=by kernel_rfl
theorem made_zero (n:Nat):(madeCells (Value.cells (.int .u32 0)) n).toList=(List.replicate n 0).map lv++[]:=by
  simp only [madeCells,List.append_nil]
  apply List.ext_getElem
  · simp
  · intro i h1 h2;simp [Value.cells,lv,Nat.mod_one]
theorem wpl_make (w:World) {ops:Array Oper} {rest:List Oper} {o:Oper} {a:Act} {Q:Exit→Act→World→Prop}
    (hg:o.guard=none) (l c:Operand) (hop:o.op=Op.makeSlice 23 l c) (kl kc:IntKind) (L C:Int) (n:Nat)
    (hl:a.eval l=.int kl L) (hc:a.eval c=.int kc C) (hL:L=(n:Int)) (hC:C=(n:Int)) (hn:n≤1000000000000)
    (hK:∀ w',Blk w' w.heap.size (List.replicate n 0) []→Below w.heap.size w w'→wpList Tryz.prog ops Q rest (a.put o.dst (.slice (some ⟨w.heap.size,0,none⟩) n n)) w') :
    wpList Tryz.prog ops Q (o::rest) a w:=by
  obtain ⟨i0,hi,hz0,hz1,hz2⟩:=info_parts info_u32
  refine wpList_make_full w hg l c 23 hop w.heap.size 51 i0 (.int .u32 0) 1 Tryz.underlying23 hi hz0 hz1 kl kc L C n hl hc hL hC (by rw [hz2];omega) (by unfold maxLen;omega) (Nat.le_refl _) ?_
  intro w' ho hgr
  refine hK w' ?_ ((Below.refl _ _).grown hgr (Nat.le_refl _) (fun k h=>by cases h))
  obtain ⟨hl',h | ⟨g,cap,cur,e,_,hh,_,_,hs,ht⟩⟩:=ho
  · exact absurd h.1 (by simp)
  · simp only [Value.slice.injEq,Option.some.injEq,Addr.mk.injEq] at e
    obtain ⟨⟨rfl,_⟩,_,rfl⟩:=e
    unfold Blk
    rw [hh,← made_zero]
    have:cur.toList=(madeCells (Value.cells (.int .u32 0)) n).toList:=by
      have h2:=ht
      rw [List.take_of_length_le (by simp [hs])] at h2
      simpa using h2
    rw [← this]
theorem wpl_copy {w:World} {ops:Array Oper} {rest:List Oper} {o:Oper} {a:Act} {Q:Exit→Act→World→Prop} (hgd:o.guard=none) (d s:Operand)
    (ho:o.op=.call { callee:=.builtin .copy,args:=#[d,s],argTypes:=#[23,23] }) (g n cap:Nat) (ad:Option Addr) (m cap':Nat)
    (hd:a.eval d=.slice (some ⟨g,0,none⟩) n cap) (hs:a.eval s=.slice ad m cap') (ys xs:List Nat) (r:List Value) (hb:Blk w g ys r) (hy:ys.length=n) (hx:xs.length=m) (hmn:m≤n) (hr:Rd w ad xs)
    (h:wpList Tryz.prog ops Q rest (a.put o.dst (goInt m)) (put g (xs++ys.drop m) r w)):wpList Tryz.prog ops Q (o::rest) a w:=by
  have hsz:(Tryz.prog.info? 51).map (·.size)=some 1:=by kernel_rfl
  by_cases h0:m=0
  · subst h0
    obtain rfl:xs=[]:=List.eq_nil_of_length_eq_zero hx
    refine wpList_copy_nothing hgd d s _ _ ho 51 Tryz.underlying23 hsz _ _ _ _ _ _ hd hs (by simp) ?_
    rw [List.nil_append,List.drop_zero,put_same hb] at h
    exact h
  · obtain ⟨b,o',e,_,_⟩:=hr 0 (by omega)
    subst e
    refine wpList_copy_own hgd d s _ _ ho 51 Tryz.underlying23 hsz g 0 n cap ⟨b,o',none⟩ m cap' hd hs _ _ hb (xs.map lv) (by rw [List.length_map,hx];exact (Nat.min_eq_left hmn).symm) ?_ (by simp;omega) ?_ ?_
    · intro j v hj
      have hjl:j<xs.length:=by
        rcases Nat.lt_or_ge j xs.length with h1 | h1
        · exact h1
        · rw [List.getElem?_eq_none (by simpa using h1)] at hj;cases hj
      have hc:=hr.at j hjl
      have e:(Addr.add ⟨b,o',none⟩ j)=⟨b,o'+j,none⟩:=by unfold Addr.add;split <;> simp_all
      rw [e,hc]
      rw [List.getElem?_map,List.getElem?_eq_getElem hjl] at hj
      simp only [Option.map_some,Option.some.injEq] at hj
      rw [← hj];simp [lv,List.getD,hjl]
    · intro v hv
      obtain ⟨x,_,rfl⟩:=List.mem_map.1 hv
      rfl
    · have e:w.setRow g ((List.map lv ys++r).toArray.toList.take 0++(xs.map lv++(List.map lv ys++r).toArray.toList.drop (0+(xs.map lv).length))).toArray=put g (xs++ys.drop m) r w:=by
        have hlt:=hb.lt
        unfold Blk at hb
        have e2:(w.setRow g ((List.map lv ys++r).toArray.toList.take 0++(xs.map lv++(List.map lv ys++r).toArray.toList.drop (0+(xs.map lv).length))).toArray).heap=(put g (xs++ys.drop m) r w).heap:=by
          apply Array.ext_getElem?
          intro k
          by_cases hk:k=g
          · subst hk
            rw [setRow_heap _ _ _ _ _ _ hb]
            simp only [put]
            rw [Array.getElem?_setIfInBounds_self_of_lt hlt]
            simp only [List.take_zero,List.nil_append,List.length_map,Nat.zero_add,hx,List.map_append,List.map_drop,List.append_assoc]
            rw [List.drop_append_of_le_length (by simp;omega)]
          · rw [setRow_other _ _ _ _ hk,put_other _ _ _ _ _ hk]
        unfold World.setRow at e2 ⊢
        unfold put at e2 ⊢
        simp only at e2
        rw [e2]
      rw [e]
      rw [List.length_map,hx]
      exact h
theorem Own.row {B:Nat} {w:World} {v:Value} {xs:List Nat} (h:Own B w v xs):w.ownsRow B 51 1 v xs.length (xs.map lv):=by
  obtain ⟨_,⟨rfl,rfl⟩ | ⟨g,cap,r,rfl,hg,hb,hc,hm⟩⟩:=h
  · exact ⟨by simp,.inl ⟨rfl,rfl⟩⟩
  · refine ⟨by simp,.inr ⟨g,cap,_,rfl,hg,hb,by omega,hm,by simp;omega,?_⟩⟩
    simp
theorem own_of_row {B:Nat} {w:World} {v:Value} {n:Nat} {xs:List Nat} (h:w.ownsRow B 51 1 v n (xs.map lv)) (ho:Okl xs):Own B w v xs:=by
  obtain ⟨hl,⟨rfl,rfl⟩ | ⟨g,cap,cur,rfl,hg,hb,hc,hm,hs,ht⟩⟩:=h
  · have:xs=[]:=List.eq_nil_of_length_eq_zero (by simpa using hl)
    subst this
    exact Own.nil _ _
  · simp only [List.length_map,Nat.mul_one] at hl
    subst hl
    refine ⟨ho,.inr ⟨g,cap,cur.toList.drop xs.length,rfl,hg,?_,?_,hm⟩⟩
    · unfold Blk;rw [hb]
      have:cur=(xs.map lv++cur.toList.drop xs.length).toArray:=by
        rw [← ht,Nat.mul_one,List.take_append_drop]
      rw [← this]
    · have:cur.toList.length=cap:=by simpa using hs
      rw [List.length_drop,this];omega
theorem Own.blockGe {B:Nat} {w:World} {v:Value} {xs:List Nat} (h:Own B w v xs):∀ k,v.ownBlock=some k→B≤k:=by
  obtain ⟨_,⟨rfl,rfl⟩ | ⟨g,cap,r,rfl,hg,_⟩⟩:=h
  · intro k e;cases e
  · intro k e;cases e;exact hg
theorem wpl_append {w:World} {ops:Array Oper} {rest:List Oper} {o:Oper} {a:Act} {Q:Exit→Act→World→Prop} (hgd:o.guard=none) (s x:Operand)
    (ho:o.op=.call { callee:=.builtin .append,args:=#[s,x],argTypes:=#[23,23] }) (B:Nat) (v:Value) (xs:List Nat) (hs:a.eval s=v) (hown:Own B w v xs)
    (ad:Addr) (c:Nat) (y:Nat) (hx:a.eval x=.slice (some ad) 1 c) (hy:y<B32) (hc:w.cell? ad=some (.int .u32 (y:Int))) (hl:xs.length≤1000000000) (hB:B≤w.heap.size)
    (h:∀ v' w',Own B w' v' (xs++[y])→Below B w w'→w.grownBy w' v.ownBlock→wpList Tryz.prog ops Q rest (a.put o.dst v') w'):wpList Tryz.prog ops Q (o::rest) a w:=by
  obtain ⟨i0,hi,hz0,hz1,hz2⟩:=info_parts info_u32
  refine wpList_append_own w hgd s x 23 ho B 51 i0 (.int .u32 0) 1 4 Tryz.underlying23 hi hz0 hz1 hz2 rfl (by decide) v xs.length (xs.map lv) hs hown.row ad 1 c [lv y] hx rfl ?_ ?_ (by unfold maxLen;omega) (by omega) hB ?_
  · intro j u hj
    rcases j with _ | j
    · simp only [List.getElem?_cons_zero,Option.some.injEq] at hj
      subst hj;simpa [Addr.add,lv] using hc
    · simp at hj
  · intro u hu;simp only [List.mem_singleton] at hu;subst hu;rfl
  · intro v' w' hown' hgr _
    refine h v' w' ?_ ((Below.refl _ _).grown hgr hB hown.blockGe) hgr
    have e:xs.map lv++[lv y]=(xs++[y]).map lv:=by simp
    rw [e] at hown'
    exact own_of_row hown' (hown.1.append (Okl.cons hy Okl.nil))
end Go.Proofs.YtnacbakcalcgaaaGreatDoor
namespace Go.Proofs.YtnacbakcalcgaaaGreatDoor
open Go.RowKit
open Go.RowKit
def Gives (N:Nat) (w:World) (e:Ending) (w':World):Prop :=
  ∃ v,e=.returned v∧Own w.heap.size w' v (limbs N)∧Below w.heap.size w w'
theorem norm_any (ad:Option Addr) (n cap:Nat) (xs:List Nat) (w:World) (hn:xs.length=n) (hcap:n≤cap) (hm:n≤1000000000) (ho:Okl xs) (hr:Rd w ad xs) :
    Calls Tryz.prog 126 #[.slice ad n cap] w (Gives (val xs) w):=by
  have hcl:=cutLen_le xs n
  have hce:=cutLen_eq ho
  have hcv:=cut_limbs ho
  rw [hn] at hce hcv
  have hr':Rd w ad (limbs (val xs)):=by rw [← hcv];exact hr.take _
  have HC:=Lib.hid hcv;clear hcv
  generalize hc:cutLen xs n=c at *
  have HCC:=Lib.hid hc;clear hc
  have HCE:=Lib.hid hce.symm;clear hce
  have hr1:∀ w1,Below w.heap.size w w1→Rd w1 ad (limbs (val xs)):=fun w1 hb=>hr'.below hb
  have HR1:=Lib.hid hr1;clear hr1
  go_enter Tryz.func126,Tryz.ntmps126
  go_wp2_with (first
    | (go_at_call 120;refine (cut_any ad n cap xs w hn hcap (by omega) hr).mono ?_;rw [HCC.out];rintro e w' ⟨rfl,rfl⟩)
    | (at_make;refine wpl_make _ rfl _ _ rfl _ _ _ _ c rfl rfl rfl rfl (by omega) ?_;intro w1 hB1 hb1)
    | (with_reducible refine wpl_copy rfl (.tmp 10) (.tmp 11) rfl _ _ _ _ _ _ rfl rfl _ (limbs (val xs)) _ hB1 List.length_replicate HCE.out (Nat.le_refl _) (HR1.out _ hb1) ?_))
  go_ret
  have hbk:=put_blk (limbs (val xs)) [] hB1.lt
  refine ⟨_,rfl,?_,put_below hb1 (Nat.le_refl _) _ _⟩
  have:=hbk.own (Nat.le_refl _) (limbs_ok _) c c (by rw [HCE.out];exact Nat.le_refl _) (by simp [HCE.out]) (by unfold maxLen;omega)
  rwa [List.take_of_length_le (by rw [HCE.out];exact Nat.le_refl _)] at this
def cmpN (a b:Nat):Int:=if a<b then -1 else if a=b then 0 else 1
theorem cmpN_lt {a b:Nat} (h:a<b):cmpN a b = -1:=by unfold cmpN;rw [if_pos h]
theorem cmpN_gt {a b:Nat} (h:b<a):cmpN a b=1:=by unfold cmpN;rw [if_neg (by omega),if_neg (by omega)]
theorem cmpN_eq (a:Nat):cmpN a a=0:=by unfold cmpN;rw [if_neg (by omega),if_pos rfl]
theorem cmpN_sign {a b:Nat} (h:a ≠ b):cmpN a b=sgn (decide (a<b)):=by
  unfold sgn
  by_cases h1:a<b
  · rw [cmpN_lt h1];simp [h1]
  · rw [cmpN_gt (by omega)];simp [h1]
theorem limbs_len_lt {a b:Nat} (h:(limbs a).length<(limbs b).length):a<b:=by
  rcases Nat.lt_or_ge a b with h1 | h1
  · exact h1
  · have:=limbs_length_le (n:=(limbs a).length) (N:=b) (Nat.lt_of_le_of_lt h1 (limbs_lt_pow a))
    omega
theorem val_top_lt {xs ys:List Nat} (hx:Okl xs) (hy:Okl ys) (hl:xs.length=ys.length) (j:Nat) (hj:j<xs.length) (hs:∀ i,j+1≤i→xs.getD i 0=ys.getD i 0) (h:xs.getD j 0<ys.getD j 0):val xs<val ys:=by
  have e:∀ n,j+1≤n→n≤xs.length→val (xs.take n)<val (ys.take n):=by
    intro n
    induction n with
    | zero=>intro h0;omega
    | succ n ih =>
      intro h1 h2
      rw [val_take_succ xs n (by omega),val_take_succ ys n (by omega)]
      by_cases hn:n=j
      · subst hn
        have b1:=val_lt (hx.take n)
        rw [List.length_take,Nat.min_eq_left (by omega)] at b1
        have:B32 ^ n*(xs.getD n 0+1)≤B32 ^ n*ys.getD n 0:=Nat.mul_le_mul_left _ h
        rw [Nat.mul_add,Nat.mul_one] at this
        omega
      · rw [hs n (by omega)]
        have:=ih (by omega) (by omega)
        omega
  have:=e xs.length (by omega) (Nat.le_refl _)
  rw [List.take_length,hl,List.take_length] at this
  exact this
theorem getD_out {xs:List Nat} {j:Nat} (h:xs.length≤j):xs.getD j 0=0:=by simp [List.getD,h]
theorem list_eq_of_getD {xs ys:List Nat} (hl:xs.length=ys.length) (h:∀ j,0≤j→xs.getD j 0=ys.getD j 0):xs=ys:=by
  apply List.ext_getElem hl
  intro i h1 h2
  have:=h i (by omega)
  simpa [List.getD,h1,h2] using this
def CmpPost (a b:Nat) (w:World) (e:Ending) (w':World):Prop:=e=.returned (.int .i64 (cmpN a b))∧∃ q,w'=w.drewN q
def CmpRel (X Y:List Nat) (c:Nat) (w:World) (i:Value) (wr:World):Prop:=∃ (k q:Nat),k≤c∧i=.int .i64 ((k:Int) - 1)∧(∀ j,k≤j→X.getD j 0=Y.getD j 0)∧wr=w.drewN q
theorem cmp_any (ad:Option Addr) (n cap:Nat) (xs:List Nat) (ad':Option Addr) (n' cap':Nat) (ys:List Nat) (w:World) (hn:xs.length=n) (hcap:n≤cap) (hm:n≤1000000000) (ho:Okl xs) (hr:Rd w ad xs)
    (hn':ys.length=n') (hcap':n'≤cap') (hm':n'≤1000000000) (ho':Okl ys) (hr':Rd w ad' ys) :
    Calls Tryz.prog 125 #[.slice ad n cap,.slice ad' n' cap'] w (CmpPost (val xs) (val ys) w):=by
  have hcl:=cutLen_le xs n
  have hcl':=cutLen_le ys n'
  have hce:=cutLen_eq ho
  have hce':=cutLen_eq ho'
  have hcv:=cut_limbs ho
  have hcv':=cut_limbs ho'
  rw [hn] at hce hcv
  rw [hn'] at hce' hcv'
  have K1:=Lib.hid (cut_any ad n cap xs w hn hcap (by omega) hr)
  have K2:=Lib.hid (cut_any ad' n' cap' ys w hn' hcap' (by omega) hr')
  have hrX:Rd w ad (limbs (val xs)):=by rw [← hcv];exact hr.take _
  have hrY:Rd w ad' (limbs (val ys)):=by rw [← hcv'];exact hr'.take _
  have hoX:=limbs_ok (val xs)
  have hoY:=limbs_ok (val ys)
  have hvX:=val_limbs (val xs)
  have hvY:=val_limbs (val ys)
  have hlt1:=@limbs_len_lt (val xs) (val ys)
  have hlt2:=@limbs_len_lt (val ys) (val xs)
  clear hr hr' hcv hcv'
  generalize val xs=a at *
  generalize val ys=b at *
  generalize hX:limbs a=X at *
  generalize hY:limbs b=Y at *
  generalize cutLen xs n=c at *
  generalize cutLen ys n'=c' at *
  have hcc:c≤1000000000:=by omega
  have hcc':c'≤1000000000:=by omega
  clear hX hY hcl hcl' hn hn' hcap hcap' ho ho' hm hm'
  have HX:=Lib.hid hvX;clear hvX
  have HY:=Lib.hid hvY;clear hvY
  have HL1:=Lib.hid hlt1;clear hlt1
  have HL2:=Lib.hid hlt2;clear hlt2
  have HC:=Lib.hid hce;clear hce
  have HC':=Lib.hid hce';clear hce'
  by_cases hne:c=c'
  · subst hne
    go_enter Tryz.func125,Tryz.ntmps125
    go_wp2_with fail
    refine K1.out.mono ?_
    rintro e w' ⟨rfl,rfl⟩
    go_wp2_with fail
    refine K2.out.mono ?_
    rintro e w' ⟨rfl,rfl⟩
    go_wp2_with fail
    go_loopw [5] (fun i wr=>CmpRel X Y c w i wr) (fun i _=>(intOf i+1).toNat)
    case atStart=>exact ⟨c,0,Nat.le_refl _,rfl,fun j hj=>by
      rw [getD_out (by rw [← HC.out];exact hj),getD_out (by rw [← HC'.out];exact hj)],rfl⟩
    case round =>
      obtain ⟨k,q,hk,rfl,hs,rfl⟩:=hrel
      have HS:=Lib.hid hs;clear hs
      rcases k with _ | j
      · have hab:a=b:=by rw [← HX.out,← HY.out,list_eq_of_getD (by rw [← HC.out,← HC'.out]) HS.out]
        have H:=Lib.hid (show CmpPost a b w (.returned (.int .i64 0)) (w.drewN q) from ⟨by rw [hab,cmpN_eq],q,rfl⟩)
        clear hab
        rw [show (((0:Nat):Int) - 1) = -1 from rfl]
        go_wp2
        go_ret
        exact H.out
      · rw [show (((j+1:Nat):Int) - 1)=(j:Int) by omega]
        have hjX:j<X.length:=by rw [← HC.out];omega
        have hjY:j<Y.length:=by rw [← HC'.out];omega
        obtain ⟨g1,o1,rfl,_,hc1⟩:=hrX j hjX
        obtain ⟨g2,o2,rfl,_,hc2⟩:=hrY j hjY
        have hv1:=Lib.hid (@val_top_lt X Y hoX hoY (by rw [← HC.out,← HC'.out]) j hjX HS.out)
        have hv2:=Lib.hid (@val_top_lt Y X hoY hoX (by rw [← HC.out,← HC'.out]) j hjY (fun i hi=>(HS.out i hi).symm))
        have HJ:Hid (X.getD j 0=Y.getD j 0→∀ i,j≤i→X.getD i 0=Y.getD i 0):=fun h0 i hi=>by
          by_cases hij:i=j
          · subst hij;exact h0
          · exact HS.out i (by omega)
        generalize X.getD j 0=x at *
        generalize Y.getD j 0=y at *
        have hjc:(j:Int)<(c:Int):=by omega
        go_wp2
        go_quiet (fail)
        by_cases hxy:x=y
        · subst hxy
          go_wp2
          go_roundw
          case rel=>exact ⟨j,_,by omega,by go_num,HJ.out rfl,rfl⟩
          case measure=>simp [intOf]
        · have hab:a ≠ b:=by
            rcases Nat.lt_or_gt_of_ne hxy with h1 | h1
            · have:=hv1.out h1;rw [HX.out,HY.out] at this;omega
            · have:=hv2.out h1;rw [HX.out,HY.out] at this;omega
          have hdec:decide (x<y)=decide (a<b):=by
            rcases Nat.lt_or_gt_of_ne hxy with h1 | h1
            · have:=hv1.out h1;rw [HX.out,HY.out] at this;simp [this,h1]
            · have:=hv2.out h1;rw [HX.out,HY.out] at this
              rw [decide_eq_false (by omega),decide_eq_false (by omega)]
          have HD:=Lib.hid hdec;clear hdec
          have HS2:=Lib.hid (cmpN_sign hab);clear hab
          go_wp2
          go_quiet ((go_at_call 161;refine (sign_any _ _).mono ?_;rintro e w' ⟨rfl,rfl⟩;exact ⟨rfl,_,rfl⟩))
          go_wp2
          go_ret
          exact ⟨by rw [HS2.out,← HD.out];rfl,by rw [World.drewN_drewN,World.drewN_drewN];exact ⟨_,rfl⟩⟩
  · have hab:a ≠ b∧decide (c<c')=decide (a<b):=by
      rcases Nat.lt_or_gt_of_ne hne with h1 | h1
      · have:=HL1.out (by rw [← HC.out,← HC'.out];exact h1)
        exact ⟨by omega,by simp [this,h1]⟩
      · have:=HL2.out (by rw [← HC.out,← HC'.out];exact h1)
        exact ⟨by omega,by rw [decide_eq_false (by omega),decide_eq_false (by omega)]⟩
    have HD:=Lib.hid hab.2
    have HS2:=Lib.hid (cmpN_sign hab.1);clear hab
    go_enter Tryz.func125,Tryz.ntmps125
    go_wp2_with fail
    refine K1.out.mono ?_
    rintro e w' ⟨rfl,rfl⟩
    go_wp2_with fail
    refine K2.out.mono ?_
    rintro e w' ⟨rfl,rfl⟩
    go_wp2_with (go_at_call 161;refine (sign_any _ _).mono ?_;rintro e w' ⟨rfl,rfl⟩)
    go_ret
    exact ⟨by rw [HS2.out,← HD.out];rfl,0,rfl⟩
theorem cut_nat (ad:Option Addr) (n cap:Nat) (xs:List Nat) (w:World) (hn:xs.length=n) (hcap:n≤cap) (hm:n≤1000000000) (ho:Okl xs) (hr:Rd w ad xs) :
    Calls Tryz.prog 120 #[.slice ad n cap] w fun e w'=>e=.returned (.slice ad (limbs (val xs)).length cap)∧w=w':=by
  have h:=cutLen_eq ho
  rw [hn] at h
  rw [← h]
  exact cut_any ad n cap xs w hn hcap (by omega) hr
theorem rd_limbs {w:World} {ad:Option Addr} {xs:List Nat} (ho:Okl xs) (hr:Rd w ad xs):Rd w ad (limbs (val xs)):=by
  rw [← cut_limbs ho];exact hr.take _
theorem limbs_len_le {xs:List Nat} (ho:Okl xs):(limbs (val xs)).length≤xs.length:=by
  rw [← cutLen_eq ho];exact cutLen_le _ _
theorem gives_cut {g cap:Nat} {ys:List Nat} {r:List Value} {w w':World} (hb:Blk w' g ys r) (ho:Okl ys) (hc:cap=ys.length+r.length) (hm:cap≤maxLen) (hg:w.heap.size≤g) (hbl:Below w.heap.size w w') :
    Gives (val ys) w (.returned (.slice (some ⟨g,0,none⟩) (limbs (val ys)).length cap)) w':=by
  refine ⟨_,rfl,?_,hbl⟩
  have:=hb.own hg ho (limbs (val ys)).length cap (limbs_len_le ho) hc hm
  rw [← cutLen_eq ho,cut_limbs ho,cutLen_eq ho] at this
  exact this
theorem win_full {ys zs:List Nat} {n:Nat} (hl:ys.length=n) (h:Win ys zs 0 n):zs.length=n∧wv zs 0 n=val zs:=by
  have h1:zs.length=n:=by rw [h.len,hl]
  refine ⟨h1,?_⟩
  unfold wv;rw [List.drop_zero,List.take_of_length_le (by omega)]
theorem wv_full {ys:List Nat} {n:Nat} (hl:ys.length=n):wv ys 0 n=val ys:=by
  unfold wv;rw [List.drop_zero,List.take_of_length_le (by omega)]
theorem sub_tail {X Y zs:List Nat} {q n:Nat} (hn:X.length=n) (hoz:Okl zs) (hw:Win X zs 0 n) (h:wv zs 0 n+1*val Y=wv X 0 n+B32 ^ n*q) (hle:val Y≤val X):val zs=val X - val Y:=by
  obtain ⟨hl,hv⟩:=win_full hn hw
  rw [hv,wv_full hn,Nat.one_mul] at h
  have hz:=val_lt hoz
  rw [hl] at hz
  have:q=0:=by
    rcases Nat.eq_zero_or_pos q with h0 | h0
    · exact h0
    · have h1:B32 ^ n*1≤B32 ^ n*q:=Nat.mul_le_mul_left _ h0
      omega
  rw [this] at h
  omega
theorem below_drewN' {B:Nat} {a w:World} (h:Below B a w) (n:Nat):Below B a (w.drewN n):=h.trans ⟨rfl,rfl,rfl,Nat.le_refl _,fun _ _=>rfl⟩
theorem cmpN_le {a b:Nat}:(cmpN a b≤0) ↔ a≤b:=by unfold cmpN;split <;> (try split) <;> omega
theorem sub_any (ad:Option Addr) (n cap:Nat) (xs:List Nat) (ad':Option Addr) (n' cap':Nat) (ys:List Nat) (w:World) (hn:xs.length=n) (hcap:n≤cap) (hm:n≤100000000) (ho:Okl xs) (hr:Rd w ad xs)
    (hn':ys.length=n') (hcap':n'≤cap') (hm':n'≤100000000) (ho':Okl ys) (hr':Rd w ad' ys) :
    Calls Tryz.prog 84 #[.slice ad n cap,.slice ad' n' cap'] w (Gives (val xs - val ys) w):=by
  have K0:=Lib.hid (cmp_any ad n cap xs ad' n' cap' ys w hn hcap (by omega) ho hr hn' hcap' (by omega) ho' hr')
  have K1:=Lib.hid (fun q=>norm_any ad n cap xs (w.drewN q) hn hcap (by omega) ho hr)
  have hrY:=rd_limbs ho' hr'
  have hlX:=limbs_len_le ho
  have hlY:=limbs_len_le ho'
  rw [hn] at hlX
  rw [hn'] at hlY
  have K2:=Lib.hid (fun (w2:World) (h:Rd w2 ad' ys)=>cut_nat ad' n' cap' ys w2 hn' hcap' (by omega) ho' h)
  generalize val xs=a at *
  generalize val ys=b at *
  have hoX:=limbs_ok a
  have hoY:=limbs_ok b
  have hvX:=val_limbs a
  have hvY:=val_limbs b
  have HM:=Lib.hid (@limbs_length_le (limbs a).length b)
  have hpX:=limbs_lt_pow a
  generalize hX:limbs a=X at *
  generalize limbs b=Y at *
  generalize hc:X.length=c at *
  generalize hc':Y.length=c' at *
  clear hn hn' ho ho' hr
  have C1:=Lib.hid hc;clear hc
  have C2:=Lib.hid hc';clear hc'
  have V1:=Lib.hid hvX;clear hvX
  have V2:=Lib.hid hvY;clear hvY
  have PX:=Lib.hid hpX;clear hpX
  have EX:=Lib.hid hX;clear hX
  by_cases hle:a≤b
  · have h0:a - b=0:=by omega
    rw [h0]
    have hcn:=cmpN_le.2 hle
    go_enter Tryz.func84,Tryz.ntmps84
    go_wp2_with fail
    refine K0.out.mono ?_
    rintro e w' ⟨rfl,q,rfl⟩
    generalize cmpN a b=m at *
    go_wp2
    go_ret
    exact ⟨_,rfl,Own.nil _ _,below_drewN' (Below.refl _ _) _⟩
  · have hcn:¬ cmpN a b≤0:=fun h=>hle (cmpN_le.1 h)
    go_enter Tryz.func84,Tryz.ntmps84
    go_wp2_with fail
    refine K0.out.mono ?_
    rintro e w' ⟨rfl,q,rfl⟩
    generalize cmpN a b=m at *
    go_wp2_with fail
    refine (K1.out q).mono ?_
    rintro e w' ⟨v,rfl,⟨_,⟨rfl,hnil⟩ | ⟨g,cap1,r,rfl,hg,hbk,hcap1,hmx⟩⟩,hbl⟩
    · exfalso;have:=(limbs_nil_iff a).1 hnil;omega
    · rw [EX.out] at hbk hcap1 ⊢
      rw [C1.out] at hcap1 ⊢
      have hrw:=(hr'.drewN q).below hbl
      have hrY':=(hrY.drewN q).below hbl
      have hap:∀ x,ad'=some x→0<Y.length→x.block ≠ g:=fun x e hx=>hrY.apart hg x e hx
      have hyl:c'≤c:=by have:=HM.out (by rw [← C1.out] at *;rw [C1.out];exact Nat.lt_trans (by omega) PX.out);omega
      have hcap1':=Lib.hid hcap1;clear hcap1
      have hcc:c≤cap1:=by rw [hcap1'.out];omega
      go_wp2_with fail
      refine (K2.out _ hrw).mono ?_
      rintro e w' ⟨rfl,rfl⟩
      go_wp2_with fail
      refine (takeTimes_any g 0 c cap1 ad' c' cap' 1 X Y r _ C2.out hyl hcc (by omega) (by rw [C1.out];omega) hoX hoY (by decide) hbk hrY' hap).mono ?_
      rintro e w' ⟨zs,q',rfl,hwin,hoz,hval,rfl⟩
      have hv:val zs=a - b:=by rw [sub_tail C1.out hoz hwin hval (by rw [V1.out,V2.out];omega),V1.out,V2.out]
      have HZ:=Lib.hid (win_full C1.out hwin).1
      have HV:=Lib.hid hv;clear hv
      have hbz:Blk (put g zs r _) g zs r:=put_blk _ _ hbk.lt
      clear hwin hval
      go_wp2_with fail
      refine (cut_nat _ c cap1 zs _ HZ.out hcc (by omega) hoz hbz.rd_all).mono ?_
      rintro e w' ⟨rfl,rfl⟩
      go_wp2
      go_ret
      rw [← HV.out]
      exact gives_cut hbz hoz (by rw [HZ.out];exact hcap1'.out) hmx hg (put_below ((below_drewN' (Below.refl _ _) q).trans hbl) hg _ _)
end Go.Proofs.YtnacbakcalcgaaaGreatDoor
