/- Texts of the claim. -/
import Derived.Test.YtijaphbccnadbaaGreatDoorUc
set_option linter.unusedVariables false
set_option linter.unusedSimpArgs false
set_option maxHeartbeats 4000000
set_option maxRecDepth 100000
namespace Go.Proofs.YtijaphbccnadbaaGreatDoor
open Go.RowKit
open Go.RowKit
open Go.RowKit
def Okb (xs:List Nat):Prop:=∀ x∈xs,x<256
theorem Okb.nil:Okb []:=by intro x h;cases h
theorem Okb.take {xs:List Nat} (h:Okb xs) (n:Nat):Okb (xs.take n):=fun y hy=>h y (List.mem_of_mem_take hy)
theorem Okb.append {xs ys:List Nat} (h:Okb xs) (k:Okb ys):Okb (xs++ys):=by
  intro y hy;rcases List.mem_append.1 hy with hy | hy
  · exact h y hy
  · exact k y hy
theorem Okb.one {x:Nat} (h:x<256):Okb [x]:=by
  intro y hy;rw [List.mem_singleton] at hy;omega
theorem Okb.set {xs:List Nat} (h:Okb xs) (i v:Nat) (hv:v<256):Okb (xs.set i v):=by
  intro y hy;rcases List.mem_or_eq_of_mem_set hy with hy | hy
  · exact h y hy
  · exact hy ▸ hv
theorem Okb.getD {xs:List Nat} (h:Okb xs) (i:Nat):xs.getD i 0<256:=by
  by_cases hi:i<xs.length
  · simp only [List.getD,List.getElem?_eq_getElem hi,Option.getD_some];exact h _ (List.getElem_mem hi)
  · simp only [List.getD,List.getElem?_eq_none (Nat.le_of_not_lt hi),Option.getD_none];decide
def bv (n:Nat):Value:=.int .u8 (n:Int)
def Rdb (w:World) (ad:Option Addr) (xs:List Nat):Prop :=
  ∀ i,i<xs.length→∃ b o,ad=some ⟨b,o,none⟩∧b<w.heap.size∧w.cell? ⟨b,o+i,none⟩=some (.int .u8 ((xs.getD i 0:Nat):Int))
theorem Rdb.at {w:World} {b o:Nat} {xs:List Nat} (h:Rdb w (some ⟨b,o,none⟩) xs) (i:Nat) (hi:i<xs.length) :
    w.cell? ⟨b,o+i,none⟩=some (.int .u8 ((xs.getD i 0:Nat):Int)):=by
  obtain ⟨b',o',e,_,hc⟩:=h i hi
  cases e;exact hc
theorem Rdb.lt {w:World} {ad:Option Addr} {xs:List Nat} (h:Rdb w ad xs) (a:Addr) (e:ad=some a) (hx:0<xs.length):a.block<w.heap.size:=by
  obtain ⟨b,o,e',hb,_⟩:=h 0 hx
  rw [e] at e';cases e';exact hb
theorem Rdb.apart {w:World} {ad:Option Addr} {xs:List Nat} (h:Rdb w ad xs) {g:Nat} (hg:w.heap.size≤g) (a:Addr) (e:ad=some a) (hx:0<xs.length):a.block ≠ g:=by
  have:=h.lt a e hx;omega
theorem Rdb.nil (w:World) (ad:Option Addr):Rdb w ad []:=by intro i h;simp at h
theorem Rdb.take {w:World} {ad:Option Addr} {xs:List Nat} (h:Rdb w ad xs) (n:Nat):Rdb w ad (xs.take n):=by
  intro i hi
  rw [List.length_take] at hi
  obtain ⟨b,o,e,hb,hc⟩:=h i (by omega)
  exact ⟨b,o,e,hb,by rw [hc];simp [List.getD,show i<n by omega]⟩
theorem Rdb.below {w w':World} {ad:Option Addr} {xs:List Nat} (h:Rdb w ad xs) (hb:Below w.heap.size w w'):Rdb w' ad xs:=by
  intro i hi
  obtain ⟨b,o,e,hlt,hc⟩:=h i hi
  exact ⟨b,o,e,Nat.lt_of_lt_of_le hlt hb.size,by rw [hb.cell (p:=⟨b,o+i,none⟩) hlt];exact hc⟩
def Bkb (w:World) (g:Nat) (ys:List Nat) (r:List Value):Prop:=w.heap[g]? = some (.cells (ys.map bv++r).toArray 5 (0,0))
def putb (g:Nat) (ys:List Nat) (r:List Value) (w:World):World:={ w with heap:=w.heap.setIfInBounds g (.cells (ys.map bv++r).toArray 5 (0,0)) }
theorem Bkb.lt {w:World} {g:Nat} {ys:List Nat} {r:List Value} (h:Bkb w g ys r):g<w.heap.size:=by
  rcases Nat.lt_or_ge g w.heap.size with h1 | h1
  · exact h1
  · rw [Bkb,Array.getElem?_eq_none h1] at h;cases h
theorem Bkb.cell {w:World} {g:Nat} {ys:List Nat} {r:List Value} (h:Bkb w g ys r) (i:Nat) (hi:i<ys.length) :
    w.cell? ⟨g,i,none⟩=some (.int .u8 ((ys.getD i 0:Nat):Int)):=by
  unfold Bkb at h
  have e:(List.map bv ys++r)[i]? = some (bv (ys.getD i 0)):=by
    rw [List.getElem?_append_left (by simpa using hi)]
    simp [List.getD,hi]
  simp only [World.cell?,h]
  simpa [bv] using e
theorem Bkb.free {w:World} {g:Nat} {ys:List Nat} {r:List Value} (h:Bkb w g ys r) (i:Nat):w.frozen? ⟨g,i,none⟩=false:=by
  unfold Bkb at h
  simp [World.frozen?,h]
theorem Bkb.rd {w:World} {g:Nat} {ys:List Nat} {r:List Value} (h:Bkb w g ys r) (o n:Nat) (hn:o+n≤ys.length):Rdb w (some ⟨g,o,none⟩) ((ys.drop o).take n):=by
  intro i hi
  rw [List.length_take,List.length_drop] at hi
  refine ⟨g,o,rfl,h.lt,?_⟩
  rw [h.cell (o+i) (by omega)]
  simp [List.getD,show i<n by omega]
theorem Bkb.rd_all {w:World} {g:Nat} {ys:List Nat} {r:List Value} (h:Bkb w g ys r):Rdb w (some ⟨g,0,none⟩) ys:=by
  have:=h.rd 0 ys.length (by omega)
  simpa using this
theorem putb_heap (g:Nat) (ys:List Nat) (r:List Value) (w:World):(putb g ys r w).heap.size=w.heap.size:=by simp [putb]
theorem putb_blk {w:World} {g:Nat} (ys:List Nat) (r:List Value) (h:g<w.heap.size):Bkb (putb g ys r w) g ys r:=by
  simp [Bkb,putb,h]
theorem putb_put (g:Nat) (ys zs:List Nat) (r r':List Value) (w:World):putb g ys r (putb g zs r' w)=putb g ys r w:=by
  simp [putb]
theorem putb_other (g:Nat) (ys:List Nat) (r:List Value) (w:World) (k:Nat) (h:k ≠ g):(putb g ys r w).heap[k]? = w.heap[k]?:=by
  simp only [putb];rw [Array.getElem?_setIfInBounds_ne (by omega)]
theorem putb_same {w:World} {g:Nat} {ys:List Nat} {r:List Value} (h:Bkb w g ys r):putb g ys r w=w:=by
  have hlt:=h.lt
  unfold Bkb at h
  have e:w.heap.setIfInBounds g (.cells (ys.map bv++r).toArray 5 (0,0))=w.heap:=by
    apply Array.ext_getElem?
    intro k
    by_cases hk:k=g
    · subst hk;rw [Array.getElem?_setIfInBounds_self_of_lt hlt,h]
    · rw [Array.getElem?_setIfInBounds_ne (by omega)]
  simp only [putb];rw [e]
theorem setb_blk {w:World} {g:Nat} {ys:List Nat} {r:List Value} (h:Bkb w g ys r) (i v:Nat) (hi:i<ys.length):w.setCell ⟨g,i,none⟩ (.int .u8 (v:Int))=putb g (ys.set i v) r w:=by
  have hlt:=h.lt
  unfold Bkb at h
  have e:(w.setCell ⟨g,i,none⟩ (.int .u8 (v:Int))).heap=w.heap.setIfInBounds g (.cells ((ys.set i v).map bv++r).toArray 5 (0,0)):=by
    apply Array.ext_getElem?
    intro k
    simp only [World.setCell,Array.getElem?_modify]
    by_cases hk:g=k
    · subst hk;rw [Array.getElem?_setIfInBounds_self_of_lt hlt,h];simp [bv,hi]
    · rw [if_neg hk,Array.getElem?_setIfInBounds_ne hk]
  unfold putb;rw [← e];rfl
theorem putb_below {B:Nat} {a w:World} (h:Below B a w) {g:Nat} (hg:B≤g) (ys:List Nat) (r:List Value):Below B a (putb g ys r w) :=
  h.trans ⟨rfl,rfl,rfl,by rw [putb_heap];exact Nat.le_refl _,fun k hk=>putb_other g ys r w k (by omega)⟩
theorem Rdb.drewN {w:World} {ad:Option Addr} {xs:List Nat} (h:Rdb w ad xs) (q:Nat):Rdb (w.drewN q) ad xs:=h
theorem Bkb.drewN {w:World} {g:Nat} {ys:List Nat} {r:List Value} (h:Bkb w g ys r) (q:Nat):Bkb (w.drewN q) g ys r:=h
theorem Bkb.below {w w':World} {g:Nat} {ys:List Nat} {r:List Value} (h:Bkb w g ys r) {B:Nat} (hb:Below B w w') (hg:g<B):Bkb w' g ys r:=by
  unfold Bkb;rw [hb.block g hg];exact h
def Ownb (B:Nat) (w:World) (v:Value) (xs:List Nat):Prop :=
  Okb xs∧((v=.slice none 0 0∧xs=[])∨∃ g cap r,v=.slice (some ⟨g,0,none⟩) xs.length cap∧B≤g∧Bkb w g xs r∧cap=xs.length+r.length∧cap≤maxLen)
theorem Ownb.nil (B:Nat) (w:World):Ownb B w (.slice none 0 0) []:=⟨Okb.nil,.inl ⟨rfl,rfl⟩⟩
theorem Ownb.view {B:Nat} {w:World} {v:Value} {xs:List Nat} (h:Ownb B w v xs) :
    ∃ ad cap,v=.slice ad xs.length cap∧xs.length≤cap∧Rdb w ad xs∧∀ a,ad=some a→B≤a.block∧a.block<w.heap.size:=by
  obtain ⟨_,⟨rfl,rfl⟩ | ⟨g,cap,r,rfl,hg,hb,hc,_⟩⟩:=h
  · exact ⟨none,0,rfl,Nat.le_refl _,Rdb.nil _ _,fun a h=>by cases h⟩
  · exact ⟨_,cap,rfl,by omega,hb.rd_all,fun a h=>by cases h;exact ⟨hg,hb.lt⟩⟩
theorem Ownb.mono {B B':Nat} {w:World} {v:Value} {xs:List Nat} (h:Ownb B w v xs) (hB:B'≤B):Ownb B' w v xs:=by
  obtain ⟨ho,h | ⟨g,cap,r,e,hg,hb,hc⟩⟩:=h
  · exact ⟨ho,.inl h⟩
  · exact ⟨ho,.inr ⟨g,cap,r,e,by omega,hb,hc⟩⟩
theorem Ownb.below {B:Nat} {w w':World} {v:Value} {xs:List Nat} (h:Ownb B w v xs) (hb:Below w.heap.size w w'):Ownb B w' v xs:=by
  obtain ⟨ho,h | ⟨g,cap,r,e,hg,hk,hc⟩⟩:=h
  · exact ⟨ho,.inl h⟩
  · exact ⟨ho,.inr ⟨g,cap,r,e,hg,hk.below hb hk.lt,hc⟩⟩
theorem Ownb.drewN {B:Nat} {w:World} {v:Value} {xs:List Nat} (h:Ownb B w v xs) (q:Nat):Ownb B (w.drewN q) v xs:=h
theorem Bkb.own {w:World} {g B:Nat} {ys:List Nat} {r:List Value} (h:Bkb w g ys r) (hg:B≤g) (ho:Okb ys) (n cap:Nat) (hn:n≤ys.length) (hc:cap=ys.length+r.length) (hm:cap≤maxLen) :
    Ownb B w (.slice (some ⟨g,0,none⟩) n cap) (ys.take n):=by
  refine ⟨ho.take n,.inr ⟨g,cap,(ys.drop n).map bv++r,?_,hg,?_,?_,hm⟩⟩
  · rw [List.length_take,Nat.min_eq_left hn]
  · unfold Bkb at h ⊢;rw [h,← List.append_assoc,← List.map_append,List.take_append_drop]
  · simp;omega
theorem info_u8:(Tryz.prog.info? 5).map (fun i=>(i.zero,i.size,i.bytes))=some (some (.int .u8 0),1,1):=by kernel_rfl
theorem Ownb.row {B:Nat} {w:World} {v:Value} {xs:List Nat} (h:Ownb B w v xs):w.ownsRow B 5 1 v xs.length (xs.map bv):=by
  obtain ⟨_,⟨rfl,rfl⟩ | ⟨g,cap,r,rfl,hg,hb,hc,hm⟩⟩:=h
  · exact ⟨by simp,.inl ⟨rfl,rfl⟩⟩
  · refine ⟨by simp,.inr ⟨g,cap,_,rfl,hg,hb,by omega,hm,by simp;omega,?_⟩⟩
    simp
theorem ownb_of_row {B:Nat} {w:World} {v:Value} {n:Nat} {xs:List Nat} (h:w.ownsRow B 5 1 v n (xs.map bv)) (ho:Okb xs):Ownb B w v xs:=by
  obtain ⟨hl,⟨rfl,rfl⟩ | ⟨g,cap,cur,rfl,hg,hb,hc,hm,hs,ht⟩⟩:=h
  · have:xs=[]:=List.eq_nil_of_length_eq_zero (by simpa using hl)
    subst this
    exact Ownb.nil _ _
  · simp only [List.length_map,Nat.mul_one] at hl
    subst hl
    refine ⟨ho,.inr ⟨g,cap,cur.toList.drop xs.length,rfl,hg,?_,?_,hm⟩⟩
    · unfold Bkb;rw [hb]
      have:cur=(xs.map bv++cur.toList.drop xs.length).toArray:=by
        rw [← ht,Nat.mul_one,List.take_append_drop]
      rw [← this]
    · have:cur.toList.length=cap:=by simpa using hs
      rw [List.length_drop,this];omega
theorem Ownb.blockGe {B:Nat} {w:World} {v:Value} {xs:List Nat} (h:Ownb B w v xs):∀ k,v.ownBlock=some k→B≤k:=by
  obtain ⟨_,⟨rfl,rfl⟩ | ⟨g,cap,r,rfl,hg,_⟩⟩:=h
  · intro k e;cases e
  · intro k e;cases e;exact hg
theorem wpl_appendb {w:World} {ops:Array Oper} {rest:List Oper} {o:Oper} {a:Act} {Q:Exit→Act→World→Prop} (hgd:o.guard=none) (s x:Operand)
    (ho:o.op=.call { callee:=.builtin .append,args:=#[s,x],argTypes:=#[60,60] }) (B:Nat) (v:Value) (xs:List Nat) (hs:a.eval s=v) (hown:Ownb B w v xs)
    (ad:Addr) (c:Nat) (y:Nat) (hx:a.eval x=.slice (some ad) 1 c) (hy:y<256) (hc:w.cell? ad=some (.int .u8 (y:Int))) (hl:xs.length≤1000000000) (hB:B≤w.heap.size)
    (h:∀ v' w',Ownb B w' v' (xs++[y])→Below B w w'→w.grownBy w' v.ownBlock→wpList Tryz.prog ops Q rest (a.put o.dst v') w'):wpList Tryz.prog ops Q (o::rest) a w:=by
  obtain ⟨i0,hi,hz0,hz1,hz2⟩:=info_parts info_u8
  refine wpList_append_own w hgd s x 60 ho B 5 i0 (.int .u8 0) 1 1 Tryz.underlying60 hi hz0 hz1 hz2 rfl (by decide) v xs.length (xs.map bv) hs hown.row ad 1 c [bv y] hx rfl ?_ ?_ (by unfold maxLen;omega) (by omega) hB ?_
  · intro j u hj
    rcases j with _ | j
    · simp only [List.getElem?_cons_zero,Option.some.injEq] at hj
      subst hj;simpa [Addr.add,bv] using hc
    · simp at hj
  · intro u hu;simp only [List.mem_singleton] at hu;subst hu;rfl
  · intro v' w' hown' hgr _
    refine h v' w' ?_ ((Below.refl _ _).grown hgr hB hown.blockGe) hgr
    have e:xs.map bv++[bv y]=(xs++[y]).map bv:=by simp
    rw [e] at hown'
    exact ownb_of_row hown' (hown.1.append (Okb.one hy))
def dval:List Nat→Nat
  | []=>0
  | x::xs=>(x - 48)+10*dval xs
def Okd (xs:List Nat):Prop:=∀ x∈xs,48≤x∧x≤57
theorem Okd.nil:Okd []:=by intro x h;cases h
theorem Okd.b {xs:List Nat} (h:Okd xs):Okb xs:=fun x hx=>by have:=h x hx;omega
theorem Okd.snoc {xs:List Nat} {x:Nat} (h:Okd xs) (h1:48≤x) (h2:x≤57):Okd (xs++[x]):=by
  intro y hy;rcases List.mem_append.1 hy with hy | hy
  · exact h y hy
  · rw [List.mem_singleton] at hy;omega
theorem Okd.take {xs:List Nat} (h:Okd xs) (n:Nat):Okd (xs.take n):=fun y hy=>h y (List.mem_of_mem_take hy)
theorem Okd.tail {x:Nat} {xs:List Nat} (h:Okd (x::xs)):Okd xs:=fun y hy=>h y (by simp [hy])
theorem Okd.rev {xs:List Nat} (h:Okd xs):Okd xs.reverse:=fun y hy=>h y (List.mem_reverse.1 hy)
theorem dval_snoc (xs:List Nat) (x:Nat):dval (xs++[x])=dval xs+tenN xs.length*(x - 48):=by
  induction xs with
  | nil=>simp [dval,tenN]
  | cons y ys ih=>simp only [List.cons_append,dval,ih,List.length_cons,tenN_succ];grind
def declF:Nat→Nat→List Nat
  | 0,_=>[]
  | f+1,N=>if N=0 then [] else (48+N % 10)::declF f (N / 10)
def decl (N:Nat):List Nat:=declF N N
theorem declF_eq : ∀ (f g N : Nat), N ≤ f → N ≤ g → declF f N = declF g N := by
  intro f
  induction f with
  | zero => intro g N h _; obtain rfl : N = 0 := by omega
            cases g <;> simp [declF]
  | succ f ih =>
    intro g N h k
    cases g with
    | zero => obtain rfl : N = 0 := by omega
              simp [declF]
    | succ g =>
      simp only [declF]
      split
      · rfl
      · rw [ih g (N / 10) (by omega) (by omega)]
theorem decl_zero:decl 0=[]:=rfl
theorem decl_pos {N:Nat} (h:N ≠ 0):decl N=(48+N % 10)::decl (N / 10):=by
  unfold decl
  obtain ⟨f,rfl⟩:∃ f,N=f+1:=⟨N - 1,by omega⟩
  conv=>lhs;rw [declF,if_neg h]
  rw [declF_eq f ((f+1) / 10) _ (by omega) (Nat.le_refl _)]
theorem decl_ind {P:Nat→Prop} (z:P 0) (s:∀ N,N ≠ 0→P (N / 10)→P N):∀ N,P N:=by
  intro N
  induction N using Nat.strongRecOn with
  | _ N ih =>
    by_cases h:N=0
    · subst h;exact z
    · exact s N h (ih _ (by omega))
theorem decl_ok (N:Nat):Okd (decl N):=by
  refine decl_ind (P:=fun N=>Okd (decl N)) Okd.nil ?_ N
  intro N h ih;rw [decl_pos h]
  intro y hy;rcases List.mem_cons.1 hy with rfl | hy
  · omega
  · exact ih y hy
theorem dval_decl (N:Nat):dval (decl N)=N:=by
  refine decl_ind (P:=fun N=>dval (decl N)=N) rfl ?_ N
  intro N h ih;rw [decl_pos h,dval,ih];omega
theorem decl_dval {xs:List Nat} (h:Okd xs) (ht:∀ n,xs.length=n+1→xs.getD n 0 ≠ 48):decl (dval xs)=xs:=by
  induction xs with
  | nil=>rfl
  | cons x xs ih =>
    have hx:decl (dval xs)=xs:=ih h.tail (fun n hn=>by have:=ht (n+1) (by simp [hn]);simpa using this)
    have h0:=h x (by simp)
    have hne:dval (x::xs) ≠ 0:=by
      cases xs with
      | nil=>have:=ht 0 rfl;simp at this;simp [dval];omega
      | cons y ys =>
        intro h1
        simp only [dval] at h1
        have h2:dval (y::ys)=0:=by simp only [dval];omega
        rw [h2] at hx;cases hx
    rw [decl_pos hne]
    have hm:dval (x::xs) % 10=x - 48:=by simp only [dval];omega
    have hd:dval (x::xs) / 10=dval xs:=by simp only [dval];omega
    rw [hm,hd,hx,show 48+(x - 48)=x by omega]
theorem dval_lt (xs:List Nat) (h:Okd xs):dval xs<tenN xs.length:=by
  induction xs with
  | nil=>simp [dval,tenN]
  | cons x xs ih =>
    have:=ih h.tail
    have h0:=h x (by simp)
    simp only [dval,List.length_cons,tenN_succ];omega
theorem decl_len_le {n N : Nat} (h : N < tenN n) : (decl N).length ≤ n := by
  induction n generalizing N with
  | zero => obtain rfl : N = 0 := by simpa [tenN] using h
            simp [decl_zero]
  | succ n ih =>
    by_cases h0 : N = 0
    · subst h0; simp [decl_zero]
    · rw [decl_pos h0, List.length_cons]
      rw [tenN_succ] at h
      have := ih (N := N / 10) (by omega)
      omega
theorem decl_ne {N:Nat} (h:N ≠ 0):decl N ≠ []:=by rw [decl_pos h];simp
def trimLen (xs:List Nat):Nat→Nat
  | 0=>0
  | n+1=>if xs.getD n 0=48 then trimLen xs n else n+1
theorem trimLen_le (xs:List Nat):∀ n,trimLen xs n≤n
  | 0=>Nat.le_refl _
  | n+1=>by unfold trimLen;split;exact Nat.le_succ_of_le (trimLen_le xs n);exact Nat.le_refl _
theorem dval_take_succ (xs:List Nat) (n:Nat) (h:n<xs.length):dval (xs.take (n+1))=dval (xs.take n)+tenN n*(xs.getD n 0 - 48):=by
  rw [List.take_succ_eq_append_getElem h,dval_snoc,List.length_take,Nat.min_eq_left (by omega)]
  simp [List.getD,h]
theorem dval_trim (xs:List Nat):∀ n,n≤xs.length→dval (xs.take (trimLen xs n))=dval (xs.take n)
  | 0,_=>rfl
  | n+1,h=>by
    unfold trimLen;split
    · rename_i h0;rw [dval_trim xs n (by omega),dval_take_succ _ _ (by omega),h0];simp
    · rfl
theorem trim_top (xs:List Nat):∀ n m,trimLen xs n=m+1→xs.getD m 0 ≠ 48
  | 0,m,h=>by simp [trimLen] at h
  | n+1,m,h=>by
    unfold trimLen at h;split at h
    · exact trim_top xs n m h
    · rename_i h0;obtain rfl:n=m:=by omega
      exact h0
theorem trim_decl {xs:List Nat} (h:Okd xs):xs.take (trimLen xs xs.length)=decl (dval xs):=by
  have hl:=trimLen_le xs xs.length
  have e:dval (xs.take (trimLen xs xs.length))=dval xs:=by rw [dval_trim _ _ (Nat.le_refl _),List.take_length]
  rw [← e]
  refine (decl_dval (h.take _) ?_).symm
  intro n hn
  rw [List.length_take,Nat.min_eq_left hl] at hn
  have:=trim_top xs _ n hn
  simpa [List.getD,List.getElem?_take,hn] using this
def dec (N:Nat):List Nat:=if N=0 then [48] else (decl N).reverse
def txt (l:List Nat):ByteArray:=⟨(l.map UInt8.ofNat).toArray⟩
theorem txt_size (l:List Nat):(txt l).size=l.length:=by simp [txt,ByteArray.size]
theorem dec_ok (N:Nat):Okd (dec N):=by
  unfold dec;split
  · intro x hx;rw [List.mem_singleton] at hx;omega
  · exact (decl_ok N).rev
theorem dval_dec (N:Nat):dval (dec N).reverse=N:=by
  unfold dec;split
  · rename_i h;subst h;rfl
  · rw [List.reverse_reverse,dval_decl]
theorem dec_len_le {n N:Nat} (hn:0<n) (h:N<tenN n):(dec N).length≤n:=by
  unfold dec;split
  · simp;omega
  · rw [List.length_reverse];exact decl_len_le h
theorem dec_pos (N:Nat):0<(dec N).length:=by
  unfold dec;split
  · simp
  · rename_i h;rw [List.length_reverse];exact List.length_pos_iff.2 (decl_ne h)
theorem trimByte_any (ad:Option Addr) (n cap:Nat) (xs:List Nat) (w:World) (hn:xs.length=n) (hcap:n≤cap) (hm:n≤1000000000000) (hr:Rdb w ad xs) :
    Calls Tryz.prog 182 #[.slice ad n cap,.int .u8 48] w fun e w'=>e=.returned (.slice ad (trimLen xs n) cap)∧w=w':=by
  go_enter Tryz.func182,Tryz.ntmps182
  go_wp2
  go_loop [0] (fun v=>∃ k:Nat,k≤n∧v=.slice ad k cap∧trimLen xs k=trimLen xs n) (fun v=>match v with | .slice _ k _=>k | _=>0)
  case atStart=>exact ⟨n,Nat.le_refl _,rfl,rfl⟩
  case round =>
    obtain ⟨k,hk,rfl,he⟩:=hrel
    have HE:=Lib.hid he;clear he
    rcases k with _ | k
    · have h0:trimLen xs n=0:=by rw [← HE.out];rfl
      have H0:=Lib.hid h0;clear h0
      go_wp2
      go_ret
      rw [H0.out];exact ⟨rfl,rfl⟩
    · obtain ⟨b,o,hadd,_,hc⟩:=hr k (by omega)
      subst hadd
      generalize hx:xs.getD k 0=x at *
      have HX:=Lib.hid hx;clear hx
      by_cases hz:x=48
      · have hT:trimLen xs k=trimLen xs n:=by rw [← HE.out];simp only [trimLen];rw [if_pos (by rw [HX.out];exact hz)]
        have HT:=Lib.hid hT;clear hT
        subst hz
        go_wp2
        go_round
        case rel=>exact ⟨k,by omega,rfl,HT.out⟩
        case measure=>simp
      · have h0:trimLen xs n=k+1:=by rw [← HE.out];simp only [trimLen];rw [if_neg (by rw [HX.out];exact hz)]
        have H0:=Lib.hid h0;clear h0
        have hxb:(((x:Int)) == 48)=false:=by rw [beq_eq_false_iff_ne];omega
        go_wp2
        go_ret
        rw [H0.out];exact ⟨rfl,rfl⟩
theorem trimRight_any (ad:Option Addr) (n cap:Nat) (xs:List Nat) (w:World) (hn:xs.length=n) (hn0:0<n) (hcap:n≤cap) (hm:n≤1000000000000) (hr:Rdb w ad xs) :
    Calls Tryz.prog 146 #[.slice ad n cap,.string ⟨#[48]⟩] w fun e w'=>e=.returned (.slice ad (trimLen xs n) cap)∧w=w':=by
  have hnb:((n:Int) == 0)=false:=by rw [beq_eq_false_iff_ne];omega
  go_enter Tryz.func146,Tryz.ntmps146
  go_wp2_with (go_at_call 182;refine (trimByte_any ad n cap xs w hn hcap hm hr).mono ?_;rintro e w' ⟨rfl,rfl⟩)
  go_ret
  exact ⟨rfl,rfl⟩
def Half (xs ys:List Nat) (k:Nat):Prop:=ys.length=xs.length∧∀ t,t<xs.length→ys.getD t 0=if t<k∨xs.length - k≤t then xs.getD (xs.length - 1 - t) 0 else xs.getD t 0
theorem Half.zero (xs:List Nat):Half xs xs 0:=⟨rfl,fun t ht=>by rw [if_neg (by omega)]⟩
theorem getD_set (l:List Nat) (i t v:Nat) (h:i<l.length):(l.set i v).getD t 0=if i=t then v else l.getD t 0:=by
  by_cases hit:i=t
  · subst hit;simp [List.getD,h]
  · simp [List.getD,hit]
theorem Half.step {xs ys:List Nat} {k:Nat} (h:Half xs ys k) (hk:k<xs.length - 1 - k) :
    Half xs ((ys.set k (ys.getD (xs.length - 1 - k) 0)).set (xs.length - 1 - k) (ys.getD k 0)) (k+1):=by
  obtain ⟨hl,h2⟩:=h
  have hk1:ys.getD k 0=xs.getD k 0:=by rw [h2 k (by omega),if_neg (by omega)]
  have hk2:ys.getD (xs.length - 1 - k) 0=xs.getD (xs.length - 1 - k) 0:=by rw [h2 _ (by omega),if_neg (by omega)]
  refine ⟨by simp [hl],fun t ht=>?_⟩
  rw [getD_set _ _ _ _ (by rw [List.length_set];omega),getD_set _ _ _ _ (by omega),hk1,hk2]
  by_cases h3:xs.length - 1 - k=t
  · subst h3
    rw [if_pos rfl,if_pos (by omega),show xs.length - 1 - (xs.length - 1 - k)=k by omega]
  · rw [if_neg h3]
    by_cases h4:k=t
    · subst h4;rw [if_pos rfl,if_pos (by omega)]
    · rw [if_neg h4,h2 t ht]
      by_cases h5:t<k∨xs.length - k≤t
      · rw [if_pos h5,if_pos (by omega)]
      · rw [if_neg h5,if_neg (by omega)]
theorem Half.done {xs ys:List Nat} {k:Nat} (h:Half xs ys k) (hk:xs.length≤2*k+1):ys=xs.reverse:=by
  obtain ⟨hl,h2⟩:=h
  apply List.ext_getElem (by simp [hl])
  intro i h1 h3
  have h4:=h2 i (by omega)
  have h5:ys[i]=ys.getD i 0:=by simp [List.getD,h1]
  rw [h5,h4,List.getElem_reverse]
  by_cases h6:i<k∨xs.length - k≤i
  · rw [if_pos h6];simp [List.getD,show xs.length - 1 - i<xs.length by omega]
  · rw [if_neg h6]
    have h7:xs.length - 1 - i=i:=by omega
    simp only [h7]
    simp [List.getD,show i<xs.length by omega]
def RevRel (g n:Nat) (xs:List Nat) (r:List Value) (w:World) (i j:Value) (wr:World):Prop :=
  ∃ k q ys,i=.int .i64 ((k:Nat):Int)∧j=.int .i64 ((n:Int) - 1 - (k:Int))∧2*k≤n∧Okb ys∧Half xs ys k∧wr=(putb g ys r w).drewN q
theorem reverse_any (g n cap:Nat) (xs:List Nat) (r:List Value) (w:World) (hn:xs.length=n) (hm:n≤1000000000000) (ho:Okb xs) (hb:Bkb w g xs r) :
    Calls Tryz.prog 147 #[.slice (some ⟨g,0,none⟩) n cap] w fun e w'=>e=.returned (.tuple #[])∧∃ q,w'=(putb g xs.reverse r w).drewN q:=by
  have HN:=Lib.hid hn;clear hn
  go_enter Tryz.func147,Tryz.ntmps147
  go_wp2
  go_loopw [2,3] (fun i j wr=>RevRel g n xs r w i j wr) (fun i _ _=>n - (intOf i).toNat)
  case atStart=>exact ⟨0,0,xs,rfl,by go_num,by omega,ho,Half.zero xs,by rw [putb_same hb];rfl⟩
  case round =>
    obtain ⟨k,q,ys,rfl,rfl,hk,hoy,hh,rfl⟩:=hrel
    have hbk:Bkb (putb g ys r w) g ys r:=putb_blk _ _ hb.lt
    have hyl:ys.length=n:=by rw [hh.1,HN.out]
    have HY:=Lib.hid hyl;clear hyl
    by_cases hlt:k<n - 1 - k
    · have hj:(n:Int) - 1 - (k:Int)=((n - 1 - k:Nat):Int):=by omega
      rw [hj]
      have hst:=hh.step (by rw [HN.out];exact hlt)
      rw [HN.out] at hst
      have hc1:=hbk.cell k (by rw [HY.out];omega)
      have hc2:=hbk.cell (n - 1 - k) (by rw [HY.out];omega)
      have hf1:=hbk.free k
      have hf2:=hbk.free (n - 1 - k)
      have hxb:=hoy.getD k
      have hyb:=hoy.getD (n - 1 - k)
      generalize hJ:n - 1 - k=j at *
      have HJ:=Lib.hid hJ;clear hJ hj
      generalize ys.getD k 0=x at *
      generalize ys.getD j 0=y at *
      have hkn:(k:Int)<(n:Int):=by have:=HJ.out;omega
      have hjn:(j:Int)<(n:Int):=by have:=HJ.out;omega
      have hkj:(k:Int)<(j:Int):=by omega
      have e1:((putb g ys r w).setCell ⟨g,k,none⟩ (.int .u8 (y:Int))).setCell ⟨g,j,none⟩ (.int .u8 (x:Int))=putb g ((ys.set k y).set j x) r w:=by
        rw [setb_blk hbk k y (by rw [HY.out];omega),putb_put,setb_blk (putb_blk _ _ hb.lt) j x (by rw [List.length_set,HY.out];omega),putb_put]
      have E1:=Lib.hid e1;clear e1
      have HST:=Lib.hid hst;clear hst
      go_wp2
      go_region
      go_wp2
      go_roundw
      case rel =>
        refine ⟨k+1,q+1,(ys.set k y).set j x,by go_num,by have:=HJ.out;go_num,by have:=HJ.out;omega,(hoy.set _ _ hyb).set _ _ hxb,HST.out,?_⟩
        rw [← E1.out];rfl
      case measure=>simp [intOf];omega
    · have hd:=hh.done (by rw [HN.out];omega)
      have HD:=Lib.hid hd;clear hd
      go_wp2
      go_end0
      exact ⟨rfl,q,by rw [HD.out]⟩
theorem Own.kept {B:Nat} {w w':World} {v:Value} {xs:List Nat} (h:Own B w v xs) (hk:∀ k,v.ownBlock=some k→w'.heap[k]? = w.heap[k]?):Own B w' v xs:=by
  obtain ⟨ho,h | ⟨g,cap,r,e,hg,hb,hc⟩⟩:=h
  · exact ⟨ho,.inl h⟩
  · exact ⟨ho,.inr ⟨g,cap,r,e,hg,by unfold Blk;rw [hk g (by rw [e];rfl)];exact hb,hc⟩⟩
theorem Ownb.kept {B:Nat} {w w':World} {v:Value} {xs:List Nat} (h:Ownb B w v xs) (hk:∀ k,v.ownBlock=some k→w'.heap[k]? = w.heap[k]?):Ownb B w' v xs:=by
  obtain ⟨ho,h | ⟨g,cap,r,e,hg,hb,hc⟩⟩:=h
  · exact ⟨ho,.inl h⟩
  · exact ⟨ho,.inr ⟨g,cap,r,e,hg,by unfold Bkb;rw [hk g (by rw [e];rfl)];exact hb,hc⟩⟩
theorem Own.blockLt {B:Nat} {w:World} {v:Value} {xs:List Nat} (h:Own B w v xs):∀ k,v.ownBlock=some k→k<w.heap.size:=by
  obtain ⟨_,⟨rfl,rfl⟩ | ⟨g,cap,r,rfl,hg,hb,_⟩⟩:=h
  · intro k e;cases e
  · intro k e;cases e;exact hb.lt
theorem Ownb.blockLt {B:Nat} {w:World} {v:Value} {xs:List Nat} (h:Ownb B w v xs):∀ k,v.ownBlock=some k→k<w.heap.size:=by
  obtain ⟨_,⟨rfl,rfl⟩ | ⟨g,cap,r,rfl,hg,hb,_⟩⟩:=h
  · intro k e;cases e
  · intro k e;cases e;exact hb.lt
theorem own_apart {B B':Nat} {w:World} {v v':Value} {xs ys:List Nat} (h:Own B w v xs) (h':Ownb B' w v' ys) (k:Nat) (e:v.ownBlock=some k):some k ≠ v'.ownBlock:=by
  intro e'
  obtain ⟨_,⟨rfl,_⟩ | ⟨g,cap,r,rfl,_,hb,_⟩⟩:=h
  · cases e
  obtain ⟨_,⟨rfl,_⟩ | ⟨g',cap',r',rfl,_,hb',_⟩⟩:=h'
  · cases e'
  cases e;cases e'
  unfold Blk at hb;unfold Bkb at hb'
  rw [hb] at hb'
  simp at hb'
def DGIn (G n Q N:Nat) (lv:Value) (w:World) (ov rm i:Value) (wr:World):Prop :=
  ∃ (j r:Nat) (o:List Nat),j≤9∧i=.int .i64 j∧rm=.int .u32 r∧r<tenN (9 - j)∧Ownb G wr ov o∧Okd o∧N=(Q*tenN (9 - j)+r)*tenN o.length+dval o∧o.length≤32*n+j∧Own G wr lv (limbs Q)∧Below G w wr
theorem dg_num {Q N r P V T:Nat} (h:N=(Q*(T*10)+r)*P+V):N=(Q*T+r / 10)*(P*10)+(V+P*(r % 10)):=by
  have:=Nat.div_add_mod r 10
  rw [h]
  conv=>lhs;rw [← this]
  grind
def DGRel (G n N:Nat) (w:World) (L:Nat) (lv ov:Value) (wr:World):Prop :=
  ∃ o:List Nat,Own G wr lv (limbs L)∧Ownb G wr ov o∧Okd o∧N=L*tenN o.length+dval o∧Below G w wr∧o.length≤32*n+9
theorem digits_any (ad:Option Addr) (n cap:Nat) (xs:List Nat) (w:World) (hn:xs.length=n) (hcap:n≤cap) (hm:n≤10000000) (ho:Okl xs) (hr:Rd w ad xs) :
    Calls Tryz.prog 99 #[.slice ad n cap] w fun e w'=>e=.returned (.string (txt (dec (val xs))))∧Below w.heap.size w w':=by
  have KN:=Lib.hid (norm_any ad n cap xs w hn hcap (by omega) ho hr)
  have hlt:=val_lt ho
  rw [hn] at hlt
  have hlen:=limbs_len_le ho
  rw [hn] at hlen
  generalize val xs=N at *
  clear ho hr hn
  have HLT:=Lib.hid hlt;clear hlt
  by_cases h0:N=0
  · subst h0
    go_enter Tryz.func99,Tryz.ntmps99
    go_wp2_with fail
    refine KN.out.mono ?_
    rintro e w' ⟨v,rfl,hv,hbl⟩
    obtain ⟨ad1,cap1,rfl,_,_,_⟩:=hv.view
    rw [limbs_zero] at hv ⊢
    go_wp2
    go_ret
    exact ⟨rfl,hbl⟩
  · have hne:(limbs N).length ≠ 0:=fun h=>h0 ((limbs_nil_iff N).1 (List.eq_nil_of_length_eq_zero h))
    have hnb:(((limbs N).length:Int) == 0)=false:=by rw [beq_eq_false_iff_ne];omega
    have HNB:=Lib.hid hnb
    clear hnb
    have hdec:dec N=(decl N).reverse:=by unfold dec;rw [if_neg h0]
    have HDEC:=Lib.hid hdec;clear hdec
    generalize hG:w.heap.size=G at *
    go_enter Tryz.func99,Tryz.ntmps99
    go_wp2_with fail
    refine KN.out.mono ?_
    rintro e w' ⟨v,rfl,hv,hbl⟩
    rw [hG] at hv hbl
    obtain ⟨ad1,cap1,hve,_,_,_⟩:=hv.view
    subst hve
    have hnb:=HNB.out
    go_wp2
    clear hnb
    go_loopg [3,4] N (fun L lv ov wr=>DGRel G n N w L lv ov wr)
    case atStart=>exact ⟨[],hv,Ownb.nil _ _,Okd.nil,by simp [tenN,dval],hbl,by simp⟩
    case round =>
      clear hv hbl
      obtain ⟨o,hown,hownb,hod,hN,hbl,hol⟩:=hrel
      obtain ⟨ad2,cap2,hve,hle,hrd,hadd⟩:=hown.view
      subst hve
      have HN:=Lib.hid hN;clear hN
      have hsG:G≤wr.heap.size:=Nat.le_trans (by rw [← hG];exact Nat.le_refl _) hbl.size
      by_cases hL0:gk=0
      · subst hL0
        have hN2:=HN.out
        rw [Nat.zero_mul,Nat.zero_add] at hN2
        obtain ⟨hob,⟨rfl,rfl⟩ | ⟨g,cap3,r3,rfl,hg3,hbk,hc3,hm3⟩⟩:=hownb
        · exact absurd hN2 h0
        · have hop:0<o.length:=by
            rcases Nat.eq_zero_or_pos o.length with h1 | h1
            · rw [List.eq_nil_of_length_eq_zero h1] at hN2;exact absurd hN2 h0
            · exact h1
          have htr:=trim_decl hod
          rw [← hN2] at htr
          have htl:=trimLen_le o o.length
          have KT:=Lib.hid (trimRight_any (some ⟨g,0,none⟩) o.length cap3 o wr rfl hop (by omega) (by omega) hbk.rd_all)
          have hbd:=hbk.own hg3 hob (trimLen o o.length) cap3 htl hc3 hm3
          rw [htr] at hbd
          have hdl:(decl N).length=trimLen o o.length:=by rw [← htr,List.length_take,Nat.min_eq_left htl]
          rw [← hdl] at KT hbd htl
          obtain ⟨_,⟨h1,_⟩ | ⟨g',cap',r',he',hg',hbk',hcc,hmm⟩⟩:=hbd
          · cases h1
          · cases he'
            have KR:=Lib.hid (reverse_any g (decl N).length cap3 (decl N) r' wr rfl (by omega) (decl_ok N).b hbk')
            have hbr:Bkb (putb g (decl N).reverse r' wr) g (decl N).reverse r':=putb_blk _ _ hbk'.lt
            have hbl3:Below G w (putb g (decl N).reverse r' wr):=putb_below hbl hg3 _ _
            have KC:∀ q,(convert 60 9 (.slice (some ⟨g,0,none⟩) (decl N).length cap3)).run Tryz.prog ((putb g (decl N).reverse r' wr).drewN q)=.ok (.string (txt (dec N))) ((putb g (decl N).reverse r' wr).drewN q):=by
              intro q
              have h2:=run_convert_bytes_arg (P:=Tryz.prog) ((putb g (decl N).reverse r' wr).drewN q) 60 5 Tryz.underlying60 Tryz.underlying5 g 0 (decl N).length cap3 ((decl N).reverse.map (fun (x:Nat)=>(x:Int))) (by simp) ?_ 9 Tryz.underlying9
              · rw [h2]
                have e:strOfNums ((decl N).reverse.map (fun (x:Nat)=>(x:Int)))=txt (dec N):=by
                  rw [HDEC.out];unfold strOfNums txt;simp
                rw [e]
              · intro i hi
                have h3:=(hbr.drewN q).cell i (by simpa using hi)
                rw [Nat.zero_add,h3]
                have hi2:i<(decl N).reverse.length:=by simpa using hi
                simp only [List.getD,List.getElem?_map,List.getElem?_eq_getElem hi2,Option.map_some,Option.getD_some]
            clear hcc hmm hN2 htr htl hdl hbk hbk' hbr hop hob hc3 hm3 hol hod HN
            go_wp2_with fail
            refine KT.out.mono ?_
            rintro e w' ⟨rfl,rfl⟩
            go_wp2_with fail
            refine KR.out.mono ?_
            rintro e w' ⟨rfl,q,rfl⟩
            have kc:=KC q
            go_wp2
            go_ret
            exact ⟨rfl,below_drewN' hbl3 q⟩
      · have hLa:gk≤N:=by rw [HN.out];exact Nat.le_trans (Nat.le_mul_of_pos_right _ (tenN_pos _)) (Nat.le_add_right _ _)
        have hcb:o.length<32*n:=ten_bound (N:=N) (by rw [HN.out];exact Nat.le_trans (Nat.le_mul_of_pos_left _ (by omega)) (Nat.le_add_right _ _)) HLT.out
        have hll:(limbs gk).length≤n:=Nat.le_trans (limbs_len_mono hLa) hlen
        have hlp:0<(limbs gk).length:=List.length_pos_iff.2 (fun h=>hL0 ((limbs_nil_iff gk).1 h))
        have K3:=shrink_chunk G _ (limbs gk) wr hown hsG (by omega)
        rw [val_limbs] at K3
        have K3H:=Lib.hid K3;clear K3
        go_wp2_with fail
        refine K3H.out.mono ?_
        rintro e w2 ⟨v2,rfl,hv2,hb2,hoth⟩
        have hownb2:Ownb G w2 u4 o:=hownb.kept (fun k hk=>hoth k (fun e=>own_apart hown hownb k e.symm hk.symm))
        have hbl2:Below G w w2:=hbl.trans hb2
        have hrl:gk % 1000000000<1000000000:=Nat.mod_lt _ (by decide)
        have hdm:=Nat.div_add_mod gk 1000000000
        have hql:gk / 1000000000<gk:=by omega
        generalize hrm:gk % 1000000000=rm at *
        generalize hQ:gk / 1000000000=Q at *
        have HDM:=Lib.hid hdm
        clear hdm hrm hQ hoth hown hownb hbl hb2
        go_wp2
        go_loopw [4,5,19] (fun ov r i wr=>DGIn G n Q N v2 w ov r i wr) (fun _ _ i _=>9 - (intOf i).toNat)
        case atStart=>exact ⟨0,rm,o,by omega,rfl,rfl,by rw [tenN_9];exact hrl,hownb2,hod,by rw [HN.out,tenN_9,← HDM.out,Nat.mul_comm 1000000000],by omega,hv2,hbl2⟩
        case round =>
          clear hv2 hownb2 hbl2 hod HN hcb hol
          obtain ⟨j,r,o2,hj,rfl,rfl,hr,hownb,hod,hN,hol,hleft,hbl⟩:=hrel
          have HN:=Lib.hid hN;clear hN
          by_cases hj9:j<9
          · have hrb:r<1000000000:=by
              have h1:tenN (9 - j)≤tenN 9:=tenN_le (by omega)
              rw [tenN_9] at h1;omega
            have hs:tenN (9 - j)=tenN (9 - (j+1))*10:=by rw [← tenN_succ];congr 1;omega
            have hN2:=HN.out
            rw [hs] at hN2 hr
            have hN3:=dg_num hN2
            rw [← tenN_succ] at hN3
            have HN3:=Lib.hid hN3
            have HR3:=Lib.hid (show r / 10<tenN (9 - (j+1)) by omega)
            clear hN2 hN3 hs hr
            have hsz:G≤wr.heap.size:=Nat.le_trans (by rw [← hG];exact Nat.le_refl _) hbl.size
            go_wp2_with (at_builtin;refine wpl_appendb rfl (.tmp 21) (.tmp 26) rfl G u4 o2 rfl (hownb.below ((Below.refl _ _).alloc (Nat.le_refl _) _)) ⟨wr.heap.size,0,none⟩ 1 (48+r % 10) rfl ?hlt ?hcell ?hlen ?hbase ?_)
            case hlt=>omega
            case hcell=>simp
            case hlen=>omega
            case hbase=>simp;omega
            intro v' w4 hown4 hbl4 hgr
            have hleft4:Own G w4 v2 (limbs Q):=(hleft.below ((Below.refl _ _).alloc (Nat.le_refl _) _)).kept (fun k hk=>hgr.block k (by have:=hleft.blockLt k hk;simp;omega) (own_apart hleft hownb k hk))
            have hbl5:Below G w w4:=(hbl.alloc hsz _).trans hbl4
            clear hgr hleft hbl hbl4 hownb
            go_wp2
            go_roundw
            case rel=>exact ⟨j+1,r / 10,o2++[48+r % 10],by omega,by go_num,by go_num,HR3.out,hown4,hod.snoc (by omega) (by omega),by rw [dval_snoc,List.length_append,List.length_singleton,Nat.add_sub_cancel_left];exact HN3.out,by rw [List.length_append,List.length_singleton];omega,hleft4,hbl5⟩
            case measure=>simp [intOf];omega
          · obtain rfl:j=9:=by omega
            have hN2:=HN.out
            have hr0:r=0:=by
              have:tenN (9 - 9)=1:=rfl
              omega
            subst hr0
            rw [show tenN (9 - 9)=1 from rfl,Nat.mul_one,Nat.add_zero] at hN2
            have HN2:=Lib.hid hN2;clear hN2
            go_wp2
            go_roundg Q
            case measure=>exact hql
            case rel=>exact ⟨o2,hleft,hownb,hod,HN2.out,hbl,by omega⟩
def nums (s:ByteArray):List Nat:=s.data.toList.map UInt8.toNat
theorem nums_len (s:ByteArray):(nums s).length=s.size:=by
  unfold nums;rw [List.length_map];rfl
theorem nums_at (s:ByteArray) (k:Nat) (h:k<s.size):(nums s).getD k 0=s[k].toNat:=by
  have h1:k<s.data.toList.length:=h
  unfold nums
  simp only [List.getD,List.getElem?_map,List.getElem?_eq_getElem h1,Option.map_some,Option.getD_some]
  rfl
def hval (l:List Nat):Nat:=dval l.reverse
theorem hval_nil:hval []=0:=rfl
theorem hval_snoc (l:List Nat) (x:Nat):hval (l++[x])=10*hval l+(x - 48):=by
  unfold hval;rw [List.reverse_append];simp only [List.reverse_cons,List.reverse_nil,List.nil_append,List.cons_append,dval];omega
theorem hval_one (x:Nat):hval [x]=x - 48:=by have:=hval_snoc [] x;simpa [hval_nil] using this
theorem hval_append (l m:List Nat):hval (l++m)=hval l*tenN m.length+hval m:=by
  induction m generalizing l with
  | nil=>simp [tenN,hval_nil]
  | cons x m ih =>
    have e1:l++x::m=(l++[x])++m:=by simp
    have e2:x::m=[x]++m:=rfl
    rw [e1,ih,e2,ih [x],hval_snoc,hval_one,List.length_append,List.length_singleton,Nat.add_comm 1,tenN_succ]
    grind
theorem hval_lt {l:List Nat} (h:Okd l):hval l<tenN l.length:=by
  have:=dval_lt l.reverse h.rev
  rwa [List.length_reverse] at this
theorem take_snoc' (l:List Nat) (k:Nat) (h:k<l.length):l.take (k+1)=l.take k++[l.getD k 0]:=by
  rw [List.take_succ_eq_append_getElem h];simp [List.getD,h]
def ShortPost (l:List Nat) (w:World) (e:Ending) (w':World):Prop :=
  ((Okd l∧e=.returned (.tuple #[.int .u32 ((hval l:Nat):Int),.bool true]))∨(¬ Okd l∧e=.returned (.tuple #[.int .u32 0,.bool false])))∧w=w'
theorem short_any (s:ByteArray) (w:World) (hs:s.size≤9) :
    Calls Tryz.prog 188 #[.string s] w (ShortPost (nums s) w):=by
  go_enter Tryz.func188,Tryz.ntmps188
  go_wp2
  go_loop [2,7] (fun v i=>∃ (k x:Nat),k≤s.size∧i=.int .i64 k∧v=.int .u32 x∧x=hval ((nums s).take k)∧Okd ((nums s).take k)) (fun _ i=>s.size - (intOf i).toNat)
  case atStart=>exact ⟨0,0,by omega,rfl,rfl,rfl,by rw [List.take_zero];exact Okd.nil⟩
  case round =>
    obtain ⟨k,x,hk,rfl,rfl,hx,hod⟩:=hrel
    have HX:=Lib.hid hx;clear hx
    by_cases hlt:k<s.size
    · have hxb:x<100000000:=by
        have h1:=hval_lt hod
        rw [← HX.out,List.length_take,nums_len,Nat.min_eq_left hk] at h1
        have h2:=tenN_le (show k≤8 by omega)
        have h3:tenN 8=100000000:=by decide
        omega
      have hat:=nums_at s k hlt
      have htk:=take_snoc' (nums s) k (by rw [nums_len];exact hlt)
      rw [hat] at htk
      have HT:=Lib.hid htk
      have hmem:s[k].toNat∈nums s:=by
        have h1:s[k].toNat∈(nums s).take (k+1):=by rw [htk];simp
        exact List.mem_of_mem_take h1
      have HM:=Lib.hid hmem
      clear hat htk hmem
      by_cases h1:s[k].toNat<48
      · have hbad:¬ Okd (nums s):=fun h=>by have:=h _ HM.out;omega
        go_wp2
        go_ret2
        exact ⟨.inr ⟨hbad,rfl⟩,rfl⟩
      · by_cases h2:57<s[k].toNat
        · have hbad:¬ Okd (nums s):=fun h=>by have:=h _ HM.out;omega
          go_wp2
          go_ret2
          exact ⟨.inr ⟨hbad,rfl⟩,rfl⟩
        · have hv:Hid (10*x+(s[k].toNat - 48)=hval ((nums s).take (k+1))):=by
            unfold Hid;rw [HT.out,hval_snoc,HX.out]
          have hok:Okd ((nums s).take (k+1)):=by rw [HT.out];exact hod.snoc (by omega) (by omega)
          go_wp2
          go_round
          case rel=>exact ⟨k+1,10*x+(s[k].toNat - 48),by omega,by go_num,by go_num,hv.out,hok⟩
          case measure=>simp [intOf];omega
    · obtain rfl:k=s.size:=by omega
      have e:(nums s).take s.size=nums s:=List.take_of_length_le (by rw [nums_len];exact Nat.le_refl _)
      rw [e] at hod
      have hx:=HX.out
      rw [e] at hx
      have HX2:=Lib.hid hx;clear hx e
      go_wp2
      go_ret2
      exact ⟨.inl ⟨hod,by rw [← HX2.out];rfl⟩,rfl⟩
theorem nums_take (t:ByteArray) (n:Nat):nums (t.extract 0 n)=(nums t).take n:=by
  unfold nums;simp [ByteArray.data_extract,List.map_take]
theorem nums_drop (t:ByteArray) (n:Nat):nums (t.extract n t.size)=(nums t).drop n:=by
  have e:(nums t).drop n=((nums t).drop n).take (t.size - n):=by
    rw [List.take_of_length_le];rw [List.length_drop,nums_len];exact Nat.le_refl _
  rw [e]
  unfold nums;simp [ByteArray.data_extract,List.map_take,List.map_drop]
def ParsePost (l : List Nat) (w : World) (e : Ending) (w' : World) : Prop :=
  ((0 < l.length ∧ l.length ≤ 2000 ∧ Okd l ∧ ∃ v, e = .returned (.tuple #[v, .bool true]) ∧ Own w.heap.size w' v (limbs (hval l))) ∨
   (¬ (0 < l.length ∧ l.length ≤ 2000 ∧ Okd l) ∧ e = .returned (.tuple #[.slice none 0 0, .bool false]))) ∧ Below w.heap.size w w'
def PRel (G:Nat) (s:ByteArray) (w:World) (k:Nat) (sv lvv:Value) (wr:World):Prop :=
  ∃ (t:ByteArray) (done:List Nat),k=t.size∧sv=.string t∧nums s=done++nums t∧Okd done∧Own G wr lvv (limbs (hval done))∧Below G w wr
theorem parse_any (s:ByteArray) (w:World) :
    Calls Tryz.prog 158 #[.string s] w (ParsePost (nums s) w):=by
  by_cases h0:s.size=0
  · have hs:s=ByteArray.empty:=by
      apply ByteArray.ext;apply Array.eq_empty_of_size_eq_zero;exact h0
    have hbad:¬ (0<(nums s).length∧(nums s).length≤2000∧Okd (nums s)):=by rw [nums_len];omega
    have HB:=Lib.hid hbad;clear hbad
    go_enter Tryz.func158,Tryz.ntmps158
    go_wp2
    go_ret2
    exact ⟨.inr ⟨HB.out,rfl⟩,Below.refl _ _⟩
  · have hne:¬ s.toList=[]:=fun h=>h0 (by
      have h1:s.data.toList=[]:=by simpa [ByteArray.toList_eq] using h
      show s.data.size=0
      rw [← Array.length_toList,h1];rfl)
    have hemp:s.toList.isEmpty=false:=by
      cases hl:s.toList with
      | nil=>exact absurd hl hne
      | cons a l=>rfl
    by_cases h2:2000<s.size
    · have hbad:¬ (0<(nums s).length∧(nums s).length≤2000∧Okd (nums s)):=by rw [nums_len];omega
      have HB:=Lib.hid hbad;clear hbad
      go_enter Tryz.func158,Tryz.ntmps158
      go_wp2
      go_ret2
      exact ⟨.inr ⟨HB.out,rfl⟩,Below.refl _ _⟩
    · generalize hG:w.heap.size=G at *
      go_enter Tryz.func158,Tryz.ntmps158
      go_wp2
      go_loopg [0,4] s.size (fun k sv lvv wr=>PRel G s w k sv lvv wr)
      case atStart=>exact ⟨s,[],rfl,rfl,rfl,Okd.nil,Own.nil _ _,Below.refl _ _⟩
      case round =>
        obtain ⟨t,done,rfl,rfl,hs,hod,hown,hbl⟩:=hrel
        have hlen:done.length+t.size=s.size:=by
          have:=congrArg List.length hs
          rw [List.length_append,nums_len,nums_len] at this;omega
        have HS:=Lib.hid hs;clear hs
        have HLN:=Lib.hid hlen;clear hlen
        have hsG:G≤wr.heap.size:=Nat.le_trans (by rw [← hG];exact Nat.le_refl _) hbl.size
        by_cases ht:t.size=0
        · have hnt:nums t=[]:=List.eq_nil_of_length_eq_zero (by rw [nums_len];exact ht)
          have hall:nums s=done:=by rw [HS.out,hnt,List.append_nil]
          have hgood:0<(nums s).length∧(nums s).length≤2000∧Okd (nums s):=⟨by rw [nums_len];omega,by rw [nums_len];omega,by rw [hall];exact hod⟩
          have HGD:=Lib.hid hgood
          have HALL:=Lib.hid hall
          clear hgood hall hnt
          go_wp2
          go_ret2
          exact ⟨.inl ⟨HGD.out.1,HGD.out.2.1,HGD.out.2.2,u4,rfl,by rw [hG,HALL.out];exact hown⟩,by rw [hG];exact hbl⟩
        · have hmin:min (t.size:Int) 9=((min t.size 9:Nat):Int):=by omega
          have hm1:min t.size 9≤t.size:=Nat.min_le_left _ _
          have hm9:min t.size 9≤9:=Nat.min_le_right _ _
          have hm0:0<min t.size 9:=by omega
          generalize min t.size 9=m at *
          have hes:(t.extract 0 m).size=m:=by rw [← nums_len,nums_take,List.length_take,nums_len];omega
          have hsp:nums t=nums (t.extract 0 m)++nums (t.extract m t.size):=by rw [nums_take,nums_drop,List.take_append_drop]
          have hrs:(t.extract m t.size).size=t.size - m:=by rw [← nums_len,nums_drop,List.length_drop,nums_len]
          have K1:=Lib.hid (short_any (t.extract 0 m) wr (by omega))
          have HES:=Lib.hid hes
          have HSP:=Lib.hid hsp
          have HRS:=Lib.hid hrs
          clear hes hsp hrs
          go_wp2_with fail
          refine K1.out.mono ?_
          rintro e w' ⟨⟨hok,rfl⟩ | ⟨hbad,rfl⟩,rfl⟩
          · have hvl:=hval_lt hok
            rw [nums_len,HES.out] at hvl
            have hvb:hval (nums (t.extract 0 m))<B32:=by
              have:=tenN_le hm9;rw [tenN_9] at this;rw [B32_eq];omega
            have hll:(limbs (hval done)).length≤2001:=by
              have h1:=hval_lt hod
              have h3:tenN done.length≤B32 ^ done.length:=Nat.pow_le_pow_left (by decide) _
              have h4:=limbs_length_le (Nat.lt_of_lt_of_le h1 h3)
              have:=HLN.out;omega
            have hap:=hval_append done (nums (t.extract 0 m))
            rw [nums_len,HES.out] at hap
            generalize hV:hval (nums (t.extract 0 m))=V at *
            have hod2:Okd (done++nums (t.extract 0 m)):=fun x hx=>by
              rcases List.mem_append.1 hx with h | h
              · exact hod x h
              · exact hok x h
            have K3:=timesPlus_any G u4 (limbs (hval done)) (tenN m) V wr hown hsG (by omega) (by have:=tenN_le hm9;rw [tenN_9] at this;rw [B32_eq];omega) hvb
            rw [val_limbs,← hap] at K3
            have K3H:=Lib.hid K3
            clear K3 hap hV hvl hvb
            go_wp2_with fail
            refine (tens_any m _ hm9).mono ?_
            rintro e w' ⟨rfl,rfl⟩
            go_wp2_with fail
            refine K3H.out.mono ?_
            rintro e w4 ⟨v4,rfl,hv4,hb4⟩
            go_wp2
            go_roundg (t.extract m t.size).size
            case measure=>rw [HRS.out];omega
            case rel=>exact ⟨t.extract m t.size,done++nums (t.extract 0 m),rfl,rfl,by rw [HS.out,HSP.out,List.append_assoc],hod2,hv4,hbl.trans hb4⟩
          · have hbad2:¬ (0<(nums s).length∧(nums s).length≤2000∧Okd (nums s)):=fun h=>hbad (fun x hx=>h.2.2 x (by rw [HS.out,HSP.out];simp [hx]))
            have HB:=Lib.hid hbad2
            clear hbad2 hbad
            go_wp2
            go_ret2
            exact ⟨.inr ⟨HB.out,rfl⟩,by rw [hG];exact hbl⟩
end Go.Proofs.YtijaphbccnadbaaGreatDoor
