/- Texts of the claim. -/
import Derived.Test.YtnacbakcalcgaaaGreatDoorRows
import Derived.Below
import Derived.WalkKit
import Derived.WalkSpells
import Derived.WalkLawsBesides
import Derived.Deep.QuietTactic
import Derived.BigQuiet
import Derived.Lib.Hide
import Derived.Lib.Strings
import Derived.Lib.Slices
import Derived.Lib.Small
import Derived.Lib.Walk
import Derived.Lib.BitFns
set_option linter.unusedVariables false
set_option linter.unusedSimpArgs false
set_option maxHeartbeats 4000000
set_option maxRecDepth 100000
namespace Go.Proofs.YtnacbakcalcgaaaGreatDoor
open Go.RowKit
open Go.RowKit
def B32:Nat:=4294967296
theorem B32_eq:B32=4294967296:=rfl
theorem B32_pos:0<B32:=by decide
def val:List Nat→Nat
  | []=>0
  | x::xs=>x+B32*val xs
def Okl (xs:List Nat):Prop:=∀ x∈xs,x<B32
theorem Okl.nil:Okl []:=by intro x h;cases h
theorem Okl.cons {x:Nat} {xs:List Nat} (h:x<B32) (hs:Okl xs):Okl (x::xs):=by
  intro y hy;rcases List.mem_cons.1 hy with rfl | hy
  · exact h
  · exact hs y hy
theorem Okl.head {x:Nat} {xs:List Nat} (h:Okl (x::xs)):x<B32:=h x (by simp)
theorem Okl.tail {x:Nat} {xs:List Nat} (h:Okl (x::xs)):Okl xs:=fun y hy=>h y (by simp [hy])
theorem Okl.take {xs:List Nat} (h:Okl xs) (n:Nat):Okl (xs.take n):=fun y hy=>h y (List.mem_of_mem_take hy)
theorem Okl.drop {xs:List Nat} (h:Okl xs) (n:Nat):Okl (xs.drop n):=fun y hy=>h y (List.mem_of_mem_drop hy)
theorem Okl.append {xs ys:List Nat} (h:Okl xs) (k:Okl ys):Okl (xs++ys):=by
  intro y hy;rcases List.mem_append.1 hy with hy | hy
  · exact h y hy
  · exact k y hy
theorem Okl.set {xs:List Nat} (h:Okl xs) (i v:Nat) (hv:v<B32):Okl (xs.set i v):=by
  intro y hy;rcases List.mem_or_eq_of_mem_set hy with hy | hy
  · exact h y hy
  · exact hy ▸ hv
theorem Okl.getD {xs:List Nat} (h:Okl xs) (i:Nat):xs.getD i 0<B32:=by
  by_cases hi:i<xs.length
  · simp only [List.getD,List.getElem?_eq_getElem hi,Option.getD_some];exact h _ (List.getElem_mem hi)
  · simp only [List.getD,List.getElem?_eq_none (Nat.le_of_not_lt hi),Option.getD_none];exact B32_pos
theorem Okl.replicate (n:Nat):Okl (List.replicate n 0):=by
  intro y hy;rw [(List.mem_replicate.1 hy).2];exact B32_pos
theorem val_append (xs ys:List Nat):val (xs++ys)=val xs+B32 ^ xs.length*val ys:=by
  induction xs with
  | nil=>simp [val]
  | cons x xs ih=>simp only [List.cons_append,val,ih,List.length_cons,Nat.pow_succ];grind
theorem val_replicate (n:Nat):val (List.replicate n 0)=0:=by
  induction n with
  | zero=>rfl
  | succ n ih=>simp [List.replicate_succ,val,ih]
theorem val_lt {xs:List Nat} (h:Okl xs):val xs<B32 ^ xs.length:=by
  induction xs with
  | nil=>simp [val]
  | cons x xs ih =>
    have h1:=h.head
    have h2:=ih h.tail
    simp only [val,List.length_cons,Nat.pow_succ]
    have:B32*(val xs+1)≤B32*B32 ^ xs.length:=Nat.mul_le_mul_left _ h2
    rw [Nat.mul_comm (B32 ^ xs.length)]
    rw [Nat.mul_add] at this;omega
theorem val_take_drop (xs:List Nat) (n:Nat) (h:n≤xs.length):val xs=val (xs.take n)+B32 ^ n*val (xs.drop n):=by
  conv=>lhs;rw [← List.take_append_drop n xs]
  rw [val_append,List.length_take,Nat.min_eq_left h]
theorem val_take_succ (xs:List Nat) (n:Nat) (h:n<xs.length):val (xs.take (n+1))=val (xs.take n)+B32 ^ n*xs.getD n 0:=by
  rw [List.take_succ_eq_append_getElem h,val_append,List.length_take,Nat.min_eq_left (by omega)]
  simp [val,List.getD,h]
theorem val_set_take (xs:List Nat) (n v:Nat) (h:n<xs.length):val ((xs.set n v).take (n+1))=val (xs.take n)+B32 ^ n*v:=by
  rw [val_take_succ _ _ (by simpa using h),List.take_set_of_le (Nat.le_refl _)]
  simp [List.getD,h]
theorem two_le_B32:2≤B32:=by decide
theorem pow_two_le (n:Nat):2*B32 ^ n≤B32 ^ (n+1):=by
  rw [Nat.pow_succ,Nat.mul_comm];exact Nat.mul_le_mul_left _ two_le_B32
theorem no_carry {v x y P Q c:Nat} (h:v+Q*c=x+y) (hx:x<P) (hy:y<P) (hQ:2*P≤Q):c=0∧v=x+y:=by
  rcases Nat.eq_zero_or_pos c with h0 | h0
  · subst h0;exact ⟨rfl,by omega⟩
  · have h1:Q*1≤Q*c:=Nat.mul_le_mul_left Q h0
    omega
def limbsF:Nat→Nat→List Nat
  | 0,_=>[]
  | f+1,N=>if N=0 then [] else N % B32::limbsF f (N / B32)
def limbs (N:Nat):List Nat:=limbsF N N
theorem limbsF_eq : ∀ (f g N : Nat), N ≤ f → N ≤ g → limbsF f N = limbsF g N := by
  intro f
  induction f with
  | zero => intro g N h _; obtain rfl : N = 0 := by omega
            cases g <;> simp [limbsF]
  | succ f ih =>
    intro g N h k
    cases g with
    | zero => obtain rfl : N = 0 := by omega
              simp [limbsF]
    | succ g =>
      simp only [limbsF]
      split
      · rfl
      · rename_i hN
        have : N / B32 < N := Nat.div_lt_self (by omega) (by decide)
        rw [ih g (N / B32) (by omega) (by omega)]
theorem limbs_zero:limbs 0=[]:=rfl
theorem limbs_pos {N:Nat} (h:N ≠ 0):limbs N=N % B32::limbs (N / B32):=by
  unfold limbs
  obtain ⟨f,rfl⟩:∃ f,N=f+1:=⟨N - 1,by omega⟩
  conv=>lhs;rw [limbsF,if_neg h]
  have:(f+1) / B32<f+1:=Nat.div_lt_self (by omega) (by decide)
  rw [limbsF_eq f ((f+1) / B32) _ (by omega) (Nat.le_refl _)]
theorem limbs_ind {P:Nat→Prop} (z:P 0) (s:∀ N,N ≠ 0→P (N / B32)→P N):∀ N,P N:=by
  intro N
  induction N using Nat.strongRecOn with
  | _ N ih =>
    by_cases h:N=0
    · subst h;exact z
    · exact s N h (ih _ (Nat.div_lt_self (by omega) (by decide)))
theorem limbs_ok (N:Nat):Okl (limbs N):=by
  refine limbs_ind (P:=fun N=>Okl (limbs N)) ?_ ?_ N
  · exact Okl.nil
  · intro N h ih;rw [limbs_pos h];exact Okl.cons (Nat.mod_lt _ B32_pos) ih
theorem val_limbs (N:Nat):val (limbs N)=N:=by
  refine limbs_ind (P:=fun N=>val (limbs N)=N) rfl ?_ N
  intro N h ih;rw [limbs_pos h,val,ih];exact Nat.mod_add_div N B32
theorem limbs_nil_iff (N:Nat):limbs N=[] ↔ N=0:=by
  constructor
  · intro h;rw [← val_limbs N,h];rfl
  · rintro rfl;rfl
theorem limbs_length_le {n N : Nat} (h : N < B32 ^ n) : (limbs N).length ≤ n := by
  induction n generalizing N with
  | zero => obtain rfl : N = 0 := by simp at h; exact h
            simp [limbs_zero]
  | succ n ih =>
    by_cases h0 : N = 0
    · subst h0; simp [limbs_zero]
    · rw [limbs_pos h0, List.length_cons]
      have : N / B32 < B32 ^ n := by rw [Nat.div_lt_iff_lt_mul B32_pos, ← Nat.pow_succ]; exact h
      have := ih this; omega
theorem limbs_lt_pow (N:Nat):N<B32 ^ (limbs N).length:=by
  have:=val_lt (limbs_ok N);rwa [val_limbs] at this
theorem limbs_val {xs:List Nat} (h:Okl xs) (ht:∀ n,xs.length=n+1→xs.getD n 0 ≠ 0):limbs (val xs)=xs:=by
  induction xs with
  | nil=>rfl
  | cons x xs ih =>
    have hx:limbs (val xs)=xs:=ih h.tail (fun n hn=>by have:=ht (n+1) (by simp [hn]);simpa using this)
    have hne:val (x::xs) ≠ 0:=by
      cases xs with
      | nil=>have:=ht 0 rfl;simp at this;simp [val];omega
      | cons y ys =>
        intro h0
        simp only [val] at h0
        have h1:B32*(y+B32*val ys)=0:=by omega
        have h2:val (y::ys)=0:=by
          simp only [val];rcases Nat.mul_eq_zero.1 h1 with h | h
          · exact absurd h (by decide)
          · exact h
        rw [h2] at hx;cases hx
    rw [limbs_pos hne]
    have hm:val (x::xs) % B32=x:=by simp only [val,Nat.add_mul_mod_self_left];exact Nat.mod_eq_of_lt h.head
    have hd:val (x::xs) / B32=val xs:=by simp only [val];rw [Nat.add_mul_div_left _ _ B32_pos,Nat.div_eq_of_lt h.head,Nat.zero_add]
    rw [hm,hd,hx]
def cutLen (xs:List Nat):Nat→Nat
  | 0=>0
  | n+1=>if xs.getD n 0=0 then cutLen xs n else n+1
theorem cutLen_le (xs:List Nat):∀ n,cutLen xs n≤n
  | 0=>Nat.le_refl _
  | n+1=>by unfold cutLen;split;exact Nat.le_succ_of_le (cutLen_le xs n);exact Nat.le_refl _
theorem val_cut (xs:List Nat):∀ n,n≤xs.length→val (xs.take (cutLen xs n))=val (xs.take n)
  | 0,_=>rfl
  | n+1,h=>by
    unfold cutLen;split
    · rename_i h0;rw [val_cut xs n (by omega),val_take_succ _ _ (by omega),h0];simp
    · rfl
theorem cut_top (xs:List Nat):∀ n m,cutLen xs n=m+1→xs.getD m 0 ≠ 0
  | 0,m,h=>by simp [cutLen] at h
  | n+1,m,h=>by
    unfold cutLen at h;split at h
    · exact cut_top xs n m h
    · rename_i h0;obtain rfl:n=m:=by omega
      exact h0
theorem cut_limbs {xs:List Nat} (h:Okl xs):xs.take (cutLen xs xs.length)=limbs (val xs):=by
  have hl:=cutLen_le xs xs.length
  have e:val (xs.take (cutLen xs xs.length))=val xs:=by rw [val_cut _ _ (Nat.le_refl _),List.take_length]
  rw [← e]
  refine (limbs_val (h.take _) ?_).symm
  intro n hn
  rw [List.length_take,Nat.min_eq_left hl] at hn
  have:=cut_top xs _ n hn
  simpa [List.getD,List.getElem?_take,hn] using this
theorem cutLen_eq {xs:List Nat} (h:Okl xs):cutLen xs xs.length=(limbs (val xs)).length:=by
  rw [← cut_limbs h,List.length_take,Nat.min_eq_left (cutLen_le _ _)]
theorem limbs_cutLen (N:Nat):cutLen (limbs N) (limbs N).length=(limbs N).length:=by
  rw [cutLen_eq (limbs_ok N),val_limbs]
def lv (n:Nat):Value:=.int .u32 (n:Int)
def Rd (w:World) (ad:Option Addr) (xs:List Nat):Prop :=
  ∀ i,i<xs.length→∃ b o,ad=some ⟨b,o,none⟩∧b<w.heap.size∧w.cell? ⟨b,o+i,none⟩=some (.int .u32 ((xs.getD i 0:Nat):Int))
theorem Rd.at {w:World} {b o:Nat} {xs:List Nat} (h:Rd w (some ⟨b,o,none⟩) xs) (i:Nat) (hi:i<xs.length) :
    w.cell? ⟨b,o+i,none⟩=some (.int .u32 ((xs.getD i 0:Nat):Int)):=by
  obtain ⟨b',o',e,_,hc⟩:=h i hi
  cases e;exact hc
theorem Rd.lt {w:World} {ad:Option Addr} {xs:List Nat} (h:Rd w ad xs) (a:Addr) (e:ad=some a) (hx:0<xs.length):a.block<w.heap.size:=by
  obtain ⟨b,o,e',hb,_⟩:=h 0 hx
  rw [e] at e';cases e';exact hb
theorem Rd.apart {w:World} {ad:Option Addr} {xs:List Nat} (h:Rd w ad xs) {g:Nat} (hg:w.heap.size≤g) (a:Addr) (e:ad=some a) (hx:0<xs.length):a.block ≠ g:=by
  have:=h.lt a e hx;omega
theorem Rd.nil (w:World) (ad:Option Addr):Rd w ad []:=by intro i h;simp at h
theorem Rd.take {w:World} {ad:Option Addr} {xs:List Nat} (h:Rd w ad xs) (n:Nat):Rd w ad (xs.take n):=by
  intro i hi
  rw [List.length_take] at hi
  obtain ⟨b,o,e,hb,hc⟩:=h i (by omega)
  exact ⟨b,o,e,hb,by rw [hc];simp [List.getD,show i<n by omega]⟩
theorem Rd.below {w w':World} {ad:Option Addr} {xs:List Nat} (h:Rd w ad xs) (hb:Below w.heap.size w w'):Rd w' ad xs:=by
  intro i hi
  obtain ⟨b,o,e,hlt,hc⟩:=h i hi
  exact ⟨b,o,e,Nat.lt_of_lt_of_le hlt hb.size,by rw [hb.cell (p:=⟨b,o+i,none⟩) hlt];exact hc⟩
def Blk (w:World) (g:Nat) (ys:List Nat) (r:List Value):Prop:=w.heap[g]? = some (.cells (ys.map lv++r).toArray 51 (0,0))
def put (g:Nat) (ys:List Nat) (r:List Value) (w:World):World:={ w with heap:=w.heap.setIfInBounds g (.cells (ys.map lv++r).toArray 51 (0,0)) }
theorem Blk.lt {w:World} {g:Nat} {ys:List Nat} {r:List Value} (h:Blk w g ys r):g<w.heap.size:=by
  rcases Nat.lt_or_ge g w.heap.size with h1 | h1
  · exact h1
  · rw [Blk,Array.getElem?_eq_none h1] at h;cases h
theorem Blk.cell {w:World} {g:Nat} {ys:List Nat} {r:List Value} (h:Blk w g ys r) (i:Nat) (hi:i<ys.length) :
    w.cell? ⟨g,i,none⟩=some (.int .u32 ((ys.getD i 0:Nat):Int)):=by
  unfold Blk at h
  have e:(List.map lv ys++r)[i]? = some (lv (ys.getD i 0)):=by
    rw [List.getElem?_append_left (by simpa using hi)]
    simp [List.getD,hi]
  simp only [World.cell?,h]
  simpa [lv] using e
theorem Blk.free {w:World} {g:Nat} {ys:List Nat} {r:List Value} (h:Blk w g ys r) (i:Nat):w.frozen? ⟨g,i,none⟩=false:=by
  unfold Blk at h
  simp [World.frozen?,h]
theorem Blk.rd {w:World} {g:Nat} {ys:List Nat} {r:List Value} (h:Blk w g ys r) (o n:Nat) (hn:o+n≤ys.length):Rd w (some ⟨g,o,none⟩) ((ys.drop o).take n):=by
  intro i hi
  rw [List.length_take,List.length_drop] at hi
  refine ⟨g,o,rfl,h.lt,?_⟩
  rw [h.cell (o+i) (by omega)]
  simp [List.getD,show i<n by omega]
theorem Blk.rd_all {w:World} {g:Nat} {ys:List Nat} {r:List Value} (h:Blk w g ys r):Rd w (some ⟨g,0,none⟩) ys:=by
  have:=h.rd 0 ys.length (by omega)
  simpa using this
theorem put_heap (g:Nat) (ys:List Nat) (r:List Value) (w:World):(put g ys r w).heap.size=w.heap.size:=by simp [put]
theorem put_blk {w:World} {g:Nat} (ys:List Nat) (r:List Value) (h:g<w.heap.size):Blk (put g ys r w) g ys r:=by
  simp [Blk,put,h]
theorem put_put (g:Nat) (ys zs:List Nat) (r r':List Value) (w:World):put g ys r (put g zs r' w)=put g ys r w:=by
  simp [put]
theorem put_other (g:Nat) (ys:List Nat) (r:List Value) (w:World) (k:Nat) (h:k ≠ g):(put g ys r w).heap[k]? = w.heap[k]?:=by
  simp only [put];rw [Array.getElem?_setIfInBounds_ne (by omega)]
theorem put_cell (g:Nat) (ys:List Nat) (r:List Value) (w:World) (a:Addr) (h:a.block ≠ g):(put g ys r w).cell? a=w.cell? a :=
  World.cell?_of_block (put_other g ys r w _ h)
theorem put_same {w:World} {g:Nat} {ys:List Nat} {r:List Value} (h:Blk w g ys r):put g ys r w=w:=by
  have hlt:=h.lt
  unfold Blk at h
  have e:w.heap.setIfInBounds g (.cells (ys.map lv++r).toArray 51 (0,0))=w.heap:=by
    apply Array.ext_getElem?
    intro k
    by_cases hk:k=g
    · subst hk;rw [Array.getElem?_setIfInBounds_self_of_lt hlt,h]
    · rw [Array.getElem?_setIfInBounds_ne (by omega)]
  simp only [put];rw [e]
theorem set_blk {w:World} {g:Nat} {ys:List Nat} {r:List Value} (h:Blk w g ys r) (i v:Nat) (hi:i<ys.length):w.setCell ⟨g,i,none⟩ (.int .u32 (v:Int))=put g (ys.set i v) r w:=by
  have hlt:=h.lt
  unfold Blk at h
  have e:(w.setCell ⟨g,i,none⟩ (.int .u32 (v:Int))).heap=w.heap.setIfInBounds g (.cells ((ys.set i v).map lv++r).toArray 51 (0,0)):=by
    apply Array.ext_getElem?
    intro k
    simp only [World.setCell,Array.getElem?_modify]
    by_cases hk:g=k
    · subst hk;rw [Array.getElem?_setIfInBounds_self_of_lt hlt,h];simp [lv,hi]
    · rw [if_neg hk,Array.getElem?_setIfInBounds_ne hk]
  unfold put;rw [← e];rfl
theorem put_below {B:Nat} {a w:World} (h:Below B a w) {g:Nat} (hg:B≤g) (ys:List Nat) (r:List Value):Below B a (put g ys r w) :=
  h.trans ⟨rfl,rfl,rfl,by rw [put_heap];exact Nat.le_refl _,fun k hk=>put_other g ys r w k (by omega)⟩
theorem Rd.put {w:World} {ad:Option Addr} {xs:List Nat} (h:Rd w ad xs) {g:Nat} (hne:∀ a,ad=some a→0<xs.length→a.block ≠ g) (ys:List Nat) (r:List Value):Rd (put g ys r w) ad xs:=by
  intro i hi
  obtain ⟨b,o,e,hb,hc⟩:=h i hi
  exact ⟨b,o,e,by rw [put_heap];exact hb,by rw [put_cell g ys r w ⟨b,o+i,none⟩ (hne ⟨b,o,none⟩ e (by omega))];exact hc⟩
theorem Rd.drewN {w:World} {ad:Option Addr} {xs:List Nat} (h:Rd w ad xs) (q:Nat):Rd (w.drewN q) ad xs:=h
theorem Blk.drewN {w:World} {g:Nat} {ys:List Nat} {r:List Value} (h:Blk w g ys r) (q:Nat):Blk (w.drewN q) g ys r:=h
theorem Blk.below {w w':World} {g:Nat} {ys:List Nat} {r:List Value} (h:Blk w g ys r) {B:Nat} (hb:Below B w w') (hg:g<B):Blk w' g ys r:=by
  unfold Blk;rw [hb.block g hg];exact h
def Own (B:Nat) (w:World) (v:Value) (xs:List Nat):Prop :=
  Okl xs∧((v=.slice none 0 0∧xs=[])∨∃ g cap r,v=.slice (some ⟨g,0,none⟩) xs.length cap∧B≤g∧Blk w g xs r∧cap=xs.length+r.length∧cap≤maxLen)
theorem Own.nil (B:Nat) (w:World):Own B w (.slice none 0 0) []:=⟨Okl.nil,.inl ⟨rfl,rfl⟩⟩
theorem Own.view {B:Nat} {w:World} {v:Value} {xs:List Nat} (h:Own B w v xs) :
    ∃ ad cap,v=.slice ad xs.length cap∧xs.length≤cap∧Rd w ad xs∧∀ a,ad=some a→B≤a.block∧a.block<w.heap.size:=by
  obtain ⟨_,⟨rfl,rfl⟩ | ⟨g,cap,r,rfl,hg,hb,hc,_⟩⟩:=h
  · exact ⟨none,0,rfl,Nat.le_refl _,Rd.nil _ _,fun a h=>by cases h⟩
  · exact ⟨_,cap,rfl,by omega,hb.rd_all,fun a h=>by cases h;exact ⟨hg,hb.lt⟩⟩
theorem Own.mono {B B':Nat} {w:World} {v:Value} {xs:List Nat} (h:Own B w v xs) (hB:B'≤B):Own B' w v xs:=by
  obtain ⟨ho,h | ⟨g,cap,r,e,hg,hb,hc⟩⟩:=h
  · exact ⟨ho,.inl h⟩
  · exact ⟨ho,.inr ⟨g,cap,r,e,by omega,hb,hc⟩⟩
theorem Own.below {B:Nat} {w w':World} {v:Value} {xs:List Nat} (h:Own B w v xs) (hb:Below w.heap.size w w'):Own B w' v xs:=by
  obtain ⟨ho,h | ⟨g,cap,r,e,hg,hk,hc⟩⟩:=h
  · exact ⟨ho,.inl h⟩
  · exact ⟨ho,.inr ⟨g,cap,r,e,hg,hk.below hb hk.lt,hc⟩⟩
theorem Own.drewN {B:Nat} {w:World} {v:Value} {xs:List Nat} (h:Own B w v xs) (q:Nat):Own B (w.drewN q) v xs:=h
theorem Blk.own {w:World} {g B:Nat} {ys:List Nat} {r:List Value} (h:Blk w g ys r) (hg:B≤g) (ho:Okl ys) (n cap:Nat) (hn:n≤ys.length) (hc:cap=ys.length+r.length) (hm:cap≤maxLen) :
    Own B w (.slice (some ⟨g,0,none⟩) n cap) (ys.take n):=by
  refine ⟨ho.take n,.inr ⟨g,cap,(ys.drop n).map lv++r,?_,hg,?_,?_,hm⟩⟩
  · rw [List.length_take,Nat.min_eq_left hn]
  · unfold Blk at h ⊢;rw [h,← List.append_assoc,← List.map_append,List.take_append_drop]
  · simp;omega
end Go.Proofs.YtnacbakcalcgaaaGreatDoor
namespace Go.Proofs.YtnacbakcalcgaaaGreatDoor
open Go.RowKit
open Go.RowKit
open Go.RowKit
theorem cut_any (ad:Option Addr) (n cap:Nat) (xs:List Nat) (w:World) (hn:xs.length=n) (hcap:n≤cap) (hm:n≤1000000000000) (hr:Rd w ad xs) :
    Calls Tryz.prog 120 #[.slice ad n cap] w fun e w'=>e=.returned (.slice ad (cutLen xs n) cap)∧w=w':=by
  go_enter Tryz.func120,Tryz.ntmps120
  go_wp2
  go_loop [3] (fun i=>∃ k:Nat,k≤n∧i=.int .i64 k∧cutLen xs k=cutLen xs n) (fun i=>(intOf i).toNat)
  case atStart=>exact ⟨n,Nat.le_refl _,rfl,rfl⟩
  case round =>
    obtain ⟨k,hk,rfl,he⟩:=hrel
    have HE:=Lib.hid he;clear he
    rcases k with _ | k
    · have h0:cutLen xs n=0:=by rw [← HE.out];rfl
      have H0:=Lib.hid h0;clear h0
      go_wp2
      go_ret
      rw [H0.out];exact ⟨rfl,rfl⟩
    · obtain ⟨b,o,hadd,_,hc⟩:=hr k (by omega)
      subst hadd
      generalize hx:xs.getD k 0=x at *
      have HX:=Lib.hid hx;clear hx
      by_cases hz:x=0
      · go_wp2
        go_round
        case rel=>exact ⟨k,by omega,rfl,by rw [← HE.out];simp only [cutLen];rw [if_pos (by rw [HX.out];exact hz)]⟩
        case measure=>simp [intOf]
      · have h0:cutLen xs n=k+1:=by rw [← HE.out];simp only [cutLen];rw [if_neg (by rw [HX.out];exact hz)]
        have H0:=Lib.hid h0;clear h0
        go_wp2
        go_ret
        rw [H0.out];exact ⟨rfl,rfl⟩
def sgn (b:Bool):Int:=if b then -1 else 1
theorem sign_any (b:Bool) (w:World) :
    Calls Tryz.prog 161 #[.bool b] w fun e w'=>e=.returned (.int .i64 (sgn b))∧w=w':=by
  cases b
  all_goals
    go_enter Tryz.func161,Tryz.ntmps161
    go_wp2
    go_ret
    exact ⟨rfl,rfl⟩
structure Win (ys zs:List Nat) (o m:Nat):Prop where
  len:zs.length=ys.length
  lo:zs.take o=ys.take o
  hi:zs.drop (o+m)=ys.drop (o+m)
theorem Win.refl (ys:List Nat) (o m:Nat):Win ys ys o m:=⟨rfl,rfl,rfl⟩
theorem Win.set {ys zs:List Nat} {o m:Nat} (h:Win ys zs o m) (k v:Nat) (hk:k<m):Win ys (zs.set (o+k) v) o m:=by
  refine ⟨by rw [List.length_set];exact h.len,?_,?_⟩
  · rw [List.take_set_of_le (by omega)];exact h.lo
  · rw [List.drop_set_of_lt (by omega)];exact h.hi
def wv (ys:List Nat) (o k:Nat):Nat:=val ((ys.drop o).take k)
theorem wv_succ (ys:List Nat) (o k:Nat) (h:o+k<ys.length):wv ys o (k+1)=wv ys o k+B32 ^ k*ys.getD (o+k) 0:=by
  unfold wv
  rw [val_take_succ _ _ (by rw [List.length_drop];omega)]
  simp [List.getD]
theorem wv_set (ys:List Nat) (o k v:Nat) (h:o+k<ys.length):wv (ys.set (o+k) v) o (k+1)=wv ys o k+B32 ^ k*v:=by
  rw [wv_succ _ _ _ (by rw [List.length_set];exact h)]
  have e:wv (ys.set (o+k) v) o k=wv ys o k:=by
    unfold wv;rw [List.drop_set,if_neg (by omega),List.take_set_of_le (by omega)]
  rw [e];simp [List.getD,h]
theorem mul_bd {x f:Nat} (hx:x<B32) (hf:f<B32):0≤(x:Int)*(f:Int)∧(x:Int)*(f:Int)≤18446744065119617025:=by
  rw [B32_eq] at hx hf
  have h:=Nat.mul_le_mul (Nat.le_of_lt_succ hx) (Nat.le_of_lt_succ hf)
  have e:(x:Int)*(f:Int)=((x*f:Nat):Int):=by push_cast;rfl
  rw [e];omega
def AddTimesPost (g o m:Nat) (ys xs:List Nat) (f:Nat) (r:List Value) (w:World) (e:Ending) (w':World):Prop :=
  e=.returned (.tuple #[])∧∃ zs,Win ys zs o (m+1)∧Okl zs∧wv zs o (m+1)=wv ys o m+f*val xs∧w'=put g zs r w
def ATRel (g o m : Nat) (ys xs : List Nat) (f : Nat) (r : List Value) (w : World) (c i : Value) (wr : World) : Prop :=
  ∃ (k cy : Nat) (zs : List Nat), k ≤ m ∧ i = .int .i64 k ∧ c = .int .u64 cy ∧ cy < B32 ∧ Win ys zs o (m + 1) ∧ Okl zs ∧ (∀ j, k ≤ j → zs.getD (o + j) 0 = ys.getD (o + j) 0) ∧
    wv zs o k + B32 ^ k * cy = wv ys o k + f * val (xs.take k) ∧ wr = put g zs r w
theorem win_ext {zs ys:List Nat} {o k:Nat} {v:Nat} (h:∀ j,k≤j→zs.getD (o+j) 0=ys.getD (o+j) 0):∀ j,k+1≤j→(zs.set (o+k) v).getD (o+j) 0=ys.getD (o+j) 0:=by
  intro j hj
  rw [← h j (by omega)]
  simp only [List.getD]
  rw [List.getElem?_set_ne (by omega)]
theorem at_num {x f z cy B a P W V:Nat} (h:a+P*cy=W+f*V) (_hB:0<B):a+P*((x*f+z+cy) % B)+P*B*((x*f+z+cy) / B)=W+P*z+f*(V+P*x):=by
  have h2:=Nat.mod_add_div (x*f+z+cy) B
  generalize (x*f+z+cy) % B=r at *
  generalize (x*f+z+cy) / B=q at *
  have h3:P*(r+B*q)=P*(x*f+z+cy):=by rw [h2]
  grind
theorem at_step {g o m k cy f x z:Nat} {ys xs zs:List Nat} {r:List Value} {w:World} (hxl:xs.length=m) (hyl:o+m+1≤ys.length) (hk:k<m) (hcy:cy<B32) (hf:f<B32) (hx:xs.getD k 0=x) (hz:zs.getD (o+k) 0=z) (hxb:x<B32) (hzb:z<B32)
    (hb:Blk w g ys r) (hwin:Win ys zs o (m+1)) (hoz:Okl zs) (hs:∀ j,k≤j→zs.getD (o+j) 0=ys.getD (o+j) 0) (he:wv zs o k+B32 ^ k*cy=wv ys o k+f*val (xs.take k)) :
    ATRel g o m ys xs f r w (.int .u64 (((x:Int)*(f:Int)+(z:Int)+(cy:Int)) / 4294967296)) (.int .i64 ((k:Int)+1)) ((put g zs r w).setCell ⟨g,o+k,none⟩ (.int .u32 (((x:Int)*(f:Int)+(z:Int)+(cy:Int)) % 4294967296))):=by
  have e1:((x:Int)*(f:Int)+(z:Int)+(cy:Int)) / 4294967296=(((x*f+z+cy) / B32:Nat):Int):=by rw [B32_eq];omega
  have e2:((x:Int)*(f:Int)+(z:Int)+(cy:Int)) % 4294967296=(((x*f+z+cy) % B32:Nat):Int):=by rw [B32_eq];omega
  rw [e1,e2,set_blk (put_blk _ _ hb.lt) _ _ (by rw [hwin.len];omega),put_put]
  have hbd:x*f≤18446744065119617025:=by
    rw [B32_eq] at hxb hf
    exact Nat.mul_le_mul (Nat.le_of_lt_succ hxb) (Nat.le_of_lt_succ hf)
  refine ⟨k+1,_,zs.set (o+k) ((x*f+z+cy) % B32),hk,rfl,rfl,?_,hwin.set _ _ (by omega),hoz.set _ _ (Nat.mod_lt _ B32_pos),win_ext hs,?_,rfl⟩
  · rw [Nat.div_lt_iff_lt_mul B32_pos];rw [B32_eq] at *;omega
  · rw [wv_set _ _ _ _ (by rw [hwin.len];omega),wv_succ ys o k (by omega),← hs k (Nat.le_refl _),hz,val_take_succ xs k (by omega),hx,Nat.pow_succ]
    exact at_num he B32_pos
theorem at_end {g o m cy f:Nat} {ys xs zs:List Nat} {r:List Value} {w:World} (hxl:xs.length=m) (hyl:o+m+1≤ys.length) (hcy:cy<B32)
    (hb:Blk w g ys r) (hwin:Win ys zs o (m+1)) (hoz:Okl zs) (he:wv zs o m+B32 ^ m*cy=wv ys o m+f*val (xs.take m)) :
    AddTimesPost g o m ys xs f r w (.returned (.tuple #[])) ((put g zs r w).setCell ⟨g,o+m,none⟩ (.int .u32 ((cy:Int) % 4294967296))):=by
  have e2:(cy:Int) % 4294967296=(cy:Int):=by rw [B32_eq] at hcy;omega
  rw [e2,set_blk (put_blk _ _ hb.lt) _ _ (by rw [hwin.len];omega),put_put]
  refine ⟨rfl,zs.set (o+m) cy,hwin.set _ _ (by omega),hoz.set _ _ hcy,?_,rfl⟩
  rw [wv_set _ _ _ _ (by rw [hwin.len];omega),he,List.take_of_length_le (by omega)]
theorem addTimes_any (g o m cap:Nat) (ad:Option Addr) (cap':Nat) (ys xs:List Nat) (r:List Value) (f:Nat) (w:World) (hxl:xs.length=m) (hcap:m+1≤cap) (hm:m≤1000000000000)
    (hyl:o+m+1≤ys.length) (hoy:Okl ys) (hox:Okl xs) (hf:f<B32) (hb:Blk w g ys r) (hr:Rd w ad xs) (hne:∀ a,ad=some a→0<xs.length→a.block ≠ g) :
    Calls Tryz.prog 121 #[.slice (some ⟨g,o,none⟩) (m+1) cap,.slice ad m cap',.int .u32 (f:Int)] w (AddTimesPost g o m ys xs f r w):=by
  go_enter Tryz.func121,Tryz.ntmps121
  go_wp2
  go_loopw [6,12] (fun c i wr=>ATRel g o m ys xs f r w c i wr) (fun _ i _=>m - (intOf i).toNat)
  case atStart=>exact ⟨0,0,ys,by omega,rfl,rfl,by decide,Win.refl _ _ _,hoy,fun _ _=>rfl,by simp [wv,val],(put_same hb).symm⟩
  case round =>
    obtain ⟨k,cy,zs,hk,rfl,rfl,hcy,hwin,hoz,hsame,heq,rfl⟩:=hrel
    have HS:=Lib.hid hsame;clear hsame
    have HE:=Lib.hid heq;clear heq
    have hbz:Blk (put g zs r w) g zs r:=put_blk _ _ hb.lt
    by_cases hlt:k<m
    · obtain ⟨b,ox,hadd,_,hc⟩:=hr k (by omega)
      subst hadd
      have hcx:(put g zs r w).cell? ⟨b,ox+k,none⟩=some (.int .u32 ((xs.getD k 0:Nat):Int)):=(put_cell g zs r w ⟨b,ox+k,none⟩ (hne ⟨b,ox,none⟩ rfl (by omega))).trans hc
      have hcz:=hbz.cell (o+k) (by rw [hwin.len];omega)
      have hfz:=hbz.free (o+k)
      have hxb:=hox.getD k
      have hzb:=hoz.getD (o+k)
      clear hc
      generalize hx:xs.getD k 0=x at *
      generalize hz:zs.getD (o+k) 0=z at *
      have R:=Lib.hid (at_step (f:=f) hxl hyl hlt hcy hf hx hz hxb hzb hb hwin hoz HS.out HE.out)
      clear hx hz
      have hbd:=mul_bd hxb hf
      rw [B32_eq] at hxb hzb hcy hf
      go_wp2
      go_roundw
      case rel=>exact R.out
      case measure=>simp [intOf];omega
    · obtain rfl:k=m:=by omega
      have hcz:=hbz.cell (o+k) (by rw [hwin.len];omega)
      have hfz:=hbz.free (o+k)
      generalize zs.getD (o+k) 0=z at *
      have R:=Lib.hid (at_end (f:=f) hxl hyl hcy hb hwin hoz HE.out)
      go_wp2
      go_end0
      exact R.out
def smd (x y c:Nat):Nat:=(x+y+c) % 4294967296
def cry (x y c:Nat):Nat:=(x+y+c) / 4294967296
theorem smd_lt (x y c:Nat):smd x y c<4294967296:=Nat.mod_lt _ (by decide)
theorem cry_le {x y c:Nat} (hx:x<4294967296) (hy:y<4294967296) (hc:c≤1):cry x y c≤1:=by unfold cry;omega
theorem smd_eq (x y c:Nat):smd x y c+4294967296*cry x y c=x+y+c:=by unfold smd cry;omega
theorem add32_any (x y c:Nat) (w:World) (hx:x<4294967296) (hy:y<4294967296) (hc:c≤1) :
    Calls Tryz.prog 213 #[.int .u32 (x:Int),.int .u32 (y:Int),.int .u32 (c:Int)] w fun e w' =>
      e=.returned (.tuple #[.int .u32 ((smd x y c:Nat):Int),.int .u32 ((cry x y c:Nat):Int)])∧w=w':=by
  go_enter Tryz.func213,Tryz.ntmps213
  go_wp2
  go_ret2
  exact ⟨by unfold smd cry;congr 5 <;> omega,rfl⟩
theorem ret1_eq {k1:IntKind} {a a':Int} (h1:a=a'):Ending.returned (.int k1 a)=.returned (.int k1 a'):=by rw [h1]
theorem ret2_eq {k1 k2:IntKind} {a a' b b':Int} (h1:a=a') (h2:b=b'):Ending.returned (.tuple #[.int k1 a,.int k2 b])=.returned (.tuple #[.int k1 a',.int k2 b']):=by rw [h1,h2]
def brw (x y c:Nat):Nat:=if x<y+c then 1 else 0
theorem brw_le (x y c:Nat):brw x y c≤1:=by unfold brw;split <;> omega
def dif (x y c:Nat):Nat:=(x+4294967296 - y - c) % 4294967296
theorem dif_lt (x y c:Nat):dif x y c<4294967296:=Nat.mod_lt _ (by decide)
theorem dif_eq {x y c:Nat} (hx:x<4294967296) (hy:y<4294967296) (hc:c≤1):x+4294967296*brw x y c=dif x y c+y+c:=by
  unfold brw dif;split <;> omega
theorem top_bit (n:Nat) (h:n<4294967296):n / 2147483648=(n.testBit 31).toNat:=by
  rw [Nat.testBit_eq_decide_div_mod_eq]
  have:n / 2 ^ 31=n / 2147483648:=rfl
  rw [this]
  by_cases h1:n / 2147483648 % 2=1
  iterate 2
    · simp [h1];omega
theorem tb_ge (n:Nat) (h:n<4294967296):n.testBit 31=decide (2147483648≤n):=by
  have h1:=top_bit n h
  by_cases h2:2147483648≤n
  · have:n / 2147483648=1:=by omega
    rw [this] at h1
    cases hb:n.testBit 31
    · rw [hb] at h1;simp at h1
    · simp [h2]
  · have:n / 2147483648=0:=by omega
    rw [this] at h1
    cases hb:n.testBit 31
    · simp [h2]
    · rw [hb] at h1;simp at h1
theorem borrow_nat {x y c:Nat} (hx:x<4294967296) (hy:y<4294967296) (hc:c≤1) :
    (((4294967295 ^^^ x) &&& y) ||| ((4294967295 ^^^ (x ^^^ y)) &&& dif x y c)) / 2147483648=brw x y c:=by
  have hd:=dif_lt x y c
  have hM:(4294967295:Nat)<2 ^ 32:=by decide
  have b1:(4294967295 ^^^ x) &&& y<2 ^ 32:=Nat.and_lt_two_pow _ hy
  have b2:(4294967295 ^^^ (x ^^^ y)) &&& dif x y c<2 ^ 32:=Nat.and_lt_two_pow _ hd
  rw [top_bit _ (Nat.or_lt_two_pow b1 b2)]
  simp only [Nat.testBit_or,Nat.testBit_and,Nat.testBit_xor]
  rw [tb_ge x hx,tb_ge y hy,tb_ge _ hd,show Nat.testBit 4294967295 31=true by decide]
  have he:=dif_eq hx hy hc
  have hb:=brw_le x y c
  generalize brw x y c=q at *
  generalize dif x y c=d at *
  clear b1 b2 hM
  by_cases h1:2147483648≤x <;> by_cases h2:2147483648≤y <;> by_cases h3:2147483648≤d <;> simp [h1,h2,h3] <;> omega
theorem borrow_int {x y c:Nat} (hx:x<4294967296) (hy:y<4294967296) (hc:c≤1) :
    bits BinOp.or IntKind.u32 (bits BinOp.and IntKind.u32 (bits BinOp.xor IntKind.u32 IntKind.u32.max ↑x) ↑y)
      (bits BinOp.and IntKind.u32 (bits BinOp.xor IntKind.u32 IntKind.u32.max (bits BinOp.xor IntKind.u32 ↑x ↑y)) (((x:Int) - ↑y - ↑c) % 4294967296)) / 2147483648=((brw x y c:Nat):Int):=by
  have hd:=dif_lt x y c
  have hM:(4294967295:Nat)<2 ^ 32:=by decide
  have ed:((x:Int) - ↑y - ↑c) % 4294967296=((dif x y c:Nat):Int):=by unfold dif;omega
  have em:IntKind.u32.max=((4294967295:Nat):Int):=by decide
  have x1:4294967295 ^^^ x<2 ^ 32:=Nat.xor_lt_two_pow hM hx
  have x2:x ^^^ y<2 ^ 32:=Nat.xor_lt_two_pow hx hy
  have x3:4294967295 ^^^ (x ^^^ y)<2 ^ 32:=Nat.xor_lt_two_pow hM x2
  have b1:(4294967295 ^^^ x) &&& y<2 ^ 32:=Nat.and_lt_two_pow _ hy
  have b2:(4294967295 ^^^ (x ^^^ y)) &&& dif x y c<2 ^ 32:=Nat.and_lt_two_pow _ hd
  rw [ed,em,u32_xor_nat _ _ (by decide) hx,u32_xor_nat _ _ hx hy,u32_xor_nat _ _ (by decide) x2,u32_and_nat _ _ x1 hy,u32_and_nat _ _ x3 hd,u32_or_nat _ _ b1 b2,← borrow_nat hx hy hc]
  omega
theorem sub32_any (x y c:Nat) (w:World) (hx:x<4294967296) (hy:y<4294967296) (hc:c≤1) :
    Calls Tryz.prog 162 #[.int .u32 (x:Int),.int .u32 (y:Int),.int .u32 (c:Int)] w fun e w' =>
      e=.returned (.tuple #[.int .u32 ((dif x y c:Nat):Int),.int .u32 ((brw x y c:Nat):Int)])∧w=w':=by
  have hs:IntKind.u32.signed=false:=rfl
  have HB:=Lib.hid (borrow_int hx hy hc)
  go_enter Tryz.func162,Tryz.ntmps162
  go_wp2
  go_ret2
  refine ⟨ret2_eq ?_ ?_,rfl⟩
  · unfold dif;omega
  · exact HB.out
def blen (x:Nat):Nat:=Lib.bitLen x
theorem len32_int (x:Int) (w:World) (h0:0≤x) (h1:x≤4294967295) :
    Calls Tryz.prog 124 #[.int .u32 x] w fun e w'=>e=.returned (.int .i64 (Lib.bitLen x.toNat))∧w=w':=by
  by_cases hA:x≤255
  · have q0:0≤x:=by omega
    have q1:x≤255:=by omega
    have e:(x).toNat=x.toNat:=by omega
    have l:=Lib.bitLen_le8' (x) (by omega) (by omega)
    have t:=Lib.len8_of (x) (by omega) (by omega)
    rw [e] at l t
    have v0:0≤Lib.len8 (x):=by rw [t];omega
    have v1:Lib.len8 (x)≤8:=by rw [t];omega
    have T:Hid (Lib.len8 (x)+0=Lib.bitLen x.toNat):=by unfold Hid;rw [t];omega
    clear t l e
    go_enter Tryz.func124,Tryz.ntmps124
    go_wp2
    go_ret
    exact ⟨ret1_eq (by rw [← T.out];omega),rfl⟩
  by_cases hB:x≤65535
  · have q0:0≤x / 256:=by omega
    have q1:x / 256≤255:=by omega
    have e:(x / 256).toNat=x.toNat / 256:=by omega
    have l:=Lib.bitLen_le8' (x / 256) (by omega) (by omega)
    have t:=Lib.len8_of (x / 256) (by omega) (by omega)
    rw [e] at l t
    have s:=Lib.bitLen_shift8 x.toNat (by omega) (by omega)
    have v0:0≤Lib.len8 (x / 256):=by rw [t];omega
    have v1:Lib.len8 (x / 256)≤8:=by rw [t];omega
    have T:Hid (Lib.len8 (x / 256)+8=Lib.bitLen x.toNat):=by unfold Hid;rw [t,s];omega
    clear t l e s
    go_enter Tryz.func124,Tryz.ntmps124
    go_wp2
    go_ret
    exact ⟨ret1_eq (by rw [← T.out];omega),rfl⟩
  by_cases hC:x≤16777215
  · have q0:0≤x / 65536:=by omega
    have q1:x / 65536≤255:=by omega
    have e:(x / 65536).toNat=x.toNat / 65536:=by omega
    have l:=Lib.bitLen_le8' (x / 65536) (by omega) (by omega)
    have t:=Lib.len8_of (x / 65536) (by omega) (by omega)
    rw [e] at l t
    have s:=Lib.bitLen_shift16 x.toNat (by omega) (by omega)
    have v0:0≤Lib.len8 (x / 65536):=by rw [t];omega
    have v1:Lib.len8 (x / 65536)≤8:=by rw [t];omega
    have T:Hid (Lib.len8 (x / 65536)+16=Lib.bitLen x.toNat):=by unfold Hid;rw [t,s];omega
    clear t l e s
    go_enter Tryz.func124,Tryz.ntmps124
    go_wp2
    go_ret
    exact ⟨ret1_eq (by rw [← T.out];omega),rfl⟩
  · have q0:0≤x / 65536 / 256:=by omega
    have q1:x / 65536 / 256≤255:=by omega
    have e:(x / 65536 / 256).toNat=x.toNat / 16777216:=by omega
    have l:=Lib.bitLen_le8' (x / 65536 / 256) (by omega) (by omega)
    have t:=Lib.len8_of (x / 65536 / 256) (by omega) (by omega)
    rw [e] at l t
    have s:=Lib.bitLen_shift24 x.toNat (by omega) (by omega)
    have v0:0≤Lib.len8 (x / 65536 / 256):=by rw [t];omega
    have v1:Lib.len8 (x / 65536 / 256)≤8:=by rw [t];omega
    have T:Hid (Lib.len8 (x / 65536 / 256)+24=Lib.bitLen x.toNat):=by unfold Hid;rw [t,s];omega
    clear t l e s
    go_enter Tryz.func124,Tryz.ntmps124
    go_wp2
    go_ret
    exact ⟨ret1_eq (by rw [← T.out];omega),rfl⟩
theorem len32_any (x:Nat) (w:World) (hx:x<4294967296) :
    Calls Tryz.prog 124 #[.int .u32 (x:Int)] w fun e w'=>e=.returned (.int .i64 (blen x:Int))∧w=w' :=
  (len32_int (x:Int) w (by omega) (by omega)).mono fun _ _ h=>h
theorem blen_le (x:Nat) (hx:x<4294967296):blen x≤32:=Lib.bitLen_le x 32 (by decide) hx
theorem lz32_any (x:Nat) (w:World) (hx:x<4294967296) :
    Calls Tryz.prog 214 #[.int .u32 (x:Int)] w fun e w'=>e=.returned (.int .i64 ((32 - blen x:Nat):Int))∧w=w':=by
  have hb:=blen_le x hx
  go_enter Tryz.func214,Tryz.ntmps214
  go_wp2_with (go_at_call 124;refine (len32_any _ _ hx).mono ?_;rintro e w' ⟨rfl,rfl⟩)
  go_ret
  exact ⟨ret1_eq (by omega),rfl⟩
theorem len64_small (x:Int) (w:World) (h0:0≤x) (h1:x≤65535) :
    Calls Tryz.prog 160 #[.int .u64 x] w fun e w'=>e=.returned (.int .i64 (Lib.bitLen x.toNat))∧w=w':=by
  by_cases hA:x≤255
  · have q0:0≤x:=by omega
    have q1:x≤255:=by omega
    have e:(x).toNat=x.toNat:=by omega
    have l:=Lib.bitLen_le8' (x) (by omega) (by omega)
    have t:=Lib.len8_of (x) (by omega) (by omega)
    rw [e] at l t
    have v0:0≤Lib.len8 (x):=by rw [t];omega
    have v1:Lib.len8 (x)≤8:=by rw [t];omega
    have T:Hid (Lib.len8 (x)+0=Lib.bitLen x.toNat):=by unfold Hid;rw [t];omega
    clear t l e
    go_enter Tryz.func160,Tryz.ntmps160
    go_wp2
    go_ret
    exact ⟨ret1_eq (by rw [← T.out];omega),rfl⟩
  · have q0:0≤x / 256:=by omega
    have q1:x / 256≤255:=by omega
    have e:(x / 256).toNat=x.toNat / 256:=by omega
    have l:=Lib.bitLen_le8' (x / 256) (by omega) (by omega)
    have t:=Lib.len8_of (x / 256) (by omega) (by omega)
    rw [e] at l t
    have s:=Lib.bitLen_shift8 x.toNat (by omega) (by omega)
    have v0:0≤Lib.len8 (x / 256):=by rw [t];omega
    have v1:Lib.len8 (x / 256)≤8:=by rw [t];omega
    have T:Hid (Lib.len8 (x / 256)+8=Lib.bitLen x.toNat):=by unfold Hid;rw [t,s];omega
    clear t l e s
    go_enter Tryz.func160,Tryz.ntmps160
    go_wp2
    go_ret
    exact ⟨ret1_eq (by rw [← T.out];omega),rfl⟩
theorem len_small (x:Nat) (w:World) (h1:x≤65535) :
    Calls Tryz.prog 122 #[.int .u64 (x:Int)] w fun e w'=>e=.returned (.int .i64 (blen x:Int))∧w=w':=by
  go_enter Tryz.func122,Tryz.ntmps122
  go_wp2_with (go_at_call 160;refine (len64_small (x:Int) _ (by omega) (by omega)).mono ?_;rintro e w' ⟨rfl,rfl⟩)
  go_ret
  exact ⟨rfl,rfl⟩
end Go.Proofs.YtnacbakcalcgaaaGreatDoor
