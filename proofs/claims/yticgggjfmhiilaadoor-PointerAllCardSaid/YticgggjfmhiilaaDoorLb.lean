/- Texts of the claim. -/
import Derived.Test.YticgggjfmhiilaaDoorLa
set_option linter.unusedVariables false
set_option linter.unusedSimpArgs false
set_option maxHeartbeats 2000000
set_option maxRecDepth 100000
namespace Go.Proofs.YticgggjfmhiilaaDoor
open Go.RowKit
open Go.RowKit
open Go.RowKit

def Okb (xs:List Nat):Prop:=∀ x∈xs,x<256
theorem Okb.nil:Okb []:=by intro x h;cases h
theorem Okb.take {xs:List Nat} (h:Okb xs) (n:Nat):Okb (xs.take n):=fun y hy=>h y (List.mem_of_mem_take hy)
theorem Okb.append {xs ys:List Nat} (h:Okb xs) (k:Okb ys):Okb (xs++ys):=by
  intro y hy;rcases List.mem_append.1 hy with hy | hy
  · exact h y hy
  · exact k y hy
theorem Okb.set {xs:List Nat} (h:Okb xs) (i v:Nat) (hv:v<256):Okb (xs.set i v):=by
  intro y hy;rcases List.mem_or_eq_of_mem_set hy with hy | hy
  · exact h y hy
  · exact hy ▸ hv
theorem Okb.getD {xs:List Nat} (h:Okb xs) (i:Nat):xs.getD i 0<256:=by
  by_cases hi:i<xs.length
  · simp only [List.getD,List.getElem?_eq_getElem hi,Option.getD_some];exact h _ (List.getElem_mem hi)
  · simp only [List.getD,List.getElem?_eq_none (Nat.le_of_not_lt hi),Option.getD_none];decide
def bv (n:Nat):Value:=.int .u8 (n:Int)
def Rdb (w:World) (ad:Option Addr) (xs:List Nat):Prop :=
  ∀ i,i<xs.length→∃ b o,ad=some ⟨b,o,none⟩∧b<w.heap.size∧w.cell? ⟨b,o+i,none⟩=some (.int .u8 ((xs.getD i 0:Nat):Int))
theorem Rdb.at {w:World} {b o:Nat} {xs:List Nat} (h:Rdb w (some ⟨b,o,none⟩) xs) (i:Nat) (hi:i<xs.length) :
    w.cell? ⟨b,o+i,none⟩=some (.int .u8 ((xs.getD i 0:Nat):Int)):=by
  obtain ⟨b',o',e,_,hc⟩:=h i hi
  cases e;exact hc
theorem Rdb.lt {w:World} {ad:Option Addr} {xs:List Nat} (h:Rdb w ad xs) (a:Addr) (e:ad=some a) (hx:0<xs.length):a.block<w.heap.size:=by
  obtain ⟨b,o,e',hb,_⟩:=h 0 hx
  rw [e] at e';cases e';exact hb
theorem Rdb.apart {w:World} {ad:Option Addr} {xs:List Nat} (h:Rdb w ad xs) {g:Nat} (hg:w.heap.size≤g) (a:Addr) (e:ad=some a) (hx:0<xs.length):a.block ≠ g:=by
  have:=h.lt a e hx;omega
theorem Rdb.nil (w:World) (ad:Option Addr):Rdb w ad []:=by intro i h;simp at h
theorem Rdb.take {w:World} {ad:Option Addr} {xs:List Nat} (h:Rdb w ad xs) (n:Nat):Rdb w ad (xs.take n):=by
  intro i hi
  rw [List.length_take] at hi
  obtain ⟨b,o,e,hb,hc⟩:=h i (by omega)
  exact ⟨b,o,e,hb,by rw [hc];simp [List.getD,show i<n by omega]⟩
theorem Rdb.below {w w':World} {ad:Option Addr} {xs:List Nat} (h:Rdb w ad xs) (hb:Below w.heap.size w w'):Rdb w' ad xs:=by
  intro i hi
  obtain ⟨b,o,e,hlt,hc⟩:=h i hi
  exact ⟨b,o,e,Nat.lt_of_lt_of_le hlt hb.size,by rw [hb.cell (p:=⟨b,o+i,none⟩) hlt];exact hc⟩
def Bkb (w:World) (g:Nat) (ys:List Nat) (r:List Value):Prop:=w.heap[g]? = some (.cells (ys.map bv++r).toArray 5 (0,0))
theorem Bkb.lt {w:World} {g:Nat} {ys:List Nat} {r:List Value} (h:Bkb w g ys r):g<w.heap.size:=by
  rcases Nat.lt_or_ge g w.heap.size with h1 | h1
  · exact h1
  · rw [Bkb,Array.getElem?_eq_none h1] at h;cases h
theorem Bkb.cell {w:World} {g:Nat} {ys:List Nat} {r:List Value} (h:Bkb w g ys r) (i:Nat) (hi:i<ys.length) :
    w.cell? ⟨g,i,none⟩=some (.int .u8 ((ys.getD i 0:Nat):Int)):=by
  unfold Bkb at h
  have e:(List.map bv ys++r)[i]? = some (bv (ys.getD i 0)):=by
    rw [List.getElem?_append_left (by simpa using hi)]
    simp [List.getD,hi]
  simp only [World.cell?,h]
  simpa [bv] using e
theorem Bkb.free {w:World} {g:Nat} {ys:List Nat} {r:List Value} (h:Bkb w g ys r) (i:Nat):w.frozen? ⟨g,i,none⟩=false:=by
  unfold Bkb at h
  simp [World.frozen?,h]
theorem Bkb.rd {w:World} {g:Nat} {ys:List Nat} {r:List Value} (h:Bkb w g ys r) (o n:Nat) (hn:o+n≤ys.length):Rdb w (some ⟨g,o,none⟩) ((ys.drop o).take n):=by
  intro i hi
  rw [List.length_take,List.length_drop] at hi
  refine ⟨g,o,rfl,h.lt,?_⟩
  rw [h.cell (o+i) (by omega)]
  simp [List.getD,show i<n by omega]
theorem Bkb.rd_all {w:World} {g:Nat} {ys:List Nat} {r:List Value} (h:Bkb w g ys r):Rdb w (some ⟨g,0,none⟩) ys:=by
  have:=h.rd 0 ys.length (by omega)
  simpa using this
theorem Rdb.drewN {w:World} {ad:Option Addr} {xs:List Nat} (h:Rdb w ad xs) (q:Nat):Rdb (w.drewN q) ad xs:=h
theorem Bkb.drewN {w:World} {g:Nat} {ys:List Nat} {r:List Value} (h:Bkb w g ys r) (q:Nat):Bkb (w.drewN q) g ys r:=h
theorem Bkb.below {w w':World} {g:Nat} {ys:List Nat} {r:List Value} (h:Bkb w g ys r) {B:Nat} (hb:Below B w w') (hg:g<B):Bkb w' g ys r:=by
  unfold Bkb;rw [hb.block g hg];exact h
def Ownb (B:Nat) (w:World) (v:Value) (xs:List Nat):Prop :=
  Okb xs∧((v=.slice none 0 0∧xs=[])∨∃ g cap r,v=.slice (some ⟨g,0,none⟩) xs.length cap∧B≤g∧Bkb w g xs r∧cap=xs.length+r.length∧cap≤maxLen)
theorem Ownb.nil (B:Nat) (w:World):Ownb B w (.slice none 0 0) []:=⟨Okb.nil,.inl ⟨rfl,rfl⟩⟩
theorem Ownb.view {B:Nat} {w:World} {v:Value} {xs:List Nat} (h:Ownb B w v xs) :
    ∃ ad cap,v=.slice ad xs.length cap∧xs.length≤cap∧Rdb w ad xs∧∀ a,ad=some a→B≤a.block∧a.block<w.heap.size:=by
  obtain ⟨_,⟨rfl,rfl⟩ | ⟨g,cap,r,rfl,hg,hb,hc,_⟩⟩:=h
  · exact ⟨none,0,rfl,Nat.le_refl _,Rdb.nil _ _,fun a h=>by cases h⟩
  · exact ⟨_,cap,rfl,by omega,hb.rd_all,fun a h=>by cases h;exact ⟨hg,hb.lt⟩⟩
theorem Ownb.mono {B B':Nat} {w:World} {v:Value} {xs:List Nat} (h:Ownb B w v xs) (hB:B'≤B):Ownb B' w v xs:=by
  obtain ⟨ho,h | ⟨g,cap,r,e,hg,hb,hc⟩⟩:=h
  · exact ⟨ho,.inl h⟩
  · exact ⟨ho,.inr ⟨g,cap,r,e,by omega,hb,hc⟩⟩
theorem Ownb.below {B:Nat} {w w':World} {v:Value} {xs:List Nat} (h:Ownb B w v xs) (hb:Below w.heap.size w w'):Ownb B w' v xs:=by
  obtain ⟨ho,h | ⟨g,cap,r,e,hg,hk,hc⟩⟩:=h
  · exact ⟨ho,.inl h⟩
  · exact ⟨ho,.inr ⟨g,cap,r,e,hg,hk.below hb hk.lt,hc⟩⟩
theorem Ownb.drewN {B:Nat} {w:World} {v:Value} {xs:List Nat} (h:Ownb B w v xs) (q:Nat):Ownb B (w.drewN q) v xs:=h
theorem Bkb.own {w:World} {g B:Nat} {ys:List Nat} {r:List Value} (h:Bkb w g ys r) (hg:B≤g) (ho:Okb ys) (n cap:Nat) (hn:n≤ys.length) (hc:cap=ys.length+r.length) (hm:cap≤maxLen) :
    Ownb B w (.slice (some ⟨g,0,none⟩) n cap) (ys.take n):=by
  refine ⟨ho.take n,.inr ⟨g,cap,(ys.drop n).map bv++r,?_,hg,?_,?_,hm⟩⟩
  · rw [List.length_take,Nat.min_eq_left hn]
  · unfold Bkb at h ⊢;rw [h,← List.append_assoc,← List.map_append,List.take_append_drop]
  · simp;omega
theorem Ownb.row {B:Nat} {w:World} {v:Value} {xs:List Nat} (h:Ownb B w v xs):w.ownsRow B 5 1 v xs.length (xs.map bv):=by
  obtain ⟨_,⟨rfl,rfl⟩ | ⟨g,cap,r,rfl,hg,hb,hc,hm⟩⟩:=h
  · exact ⟨by simp,.inl ⟨rfl,rfl⟩⟩
  · refine ⟨by simp,.inr ⟨g,cap,_,rfl,hg,hb,by omega,hm,by simp;omega,?_⟩⟩
    simp
theorem Ownb.blockGe {B:Nat} {w:World} {v:Value} {xs:List Nat} (h:Ownb B w v xs):∀ k,v.ownBlock=some k→B≤k:=by
  obtain ⟨_,⟨rfl,rfl⟩ | ⟨g,cap,r,rfl,hg,_⟩⟩:=h
  · intro k e;cases e
  · intro k e;cases e;exact hg
def dval:List Nat→Nat
  | []=>0
  | x::xs=>(x - 48)+10*dval xs
def Okd (xs:List Nat):Prop:=∀ x∈xs,48≤x∧x≤57
theorem Okd.nil:Okd []:=by intro x h;cases h
theorem Okd.b {xs:List Nat} (h:Okd xs):Okb xs:=fun x hx=>by have:=h x hx;omega
theorem Okd.take {xs:List Nat} (h:Okd xs) (n:Nat):Okd (xs.take n):=fun y hy=>h y (List.mem_of_mem_take hy)
theorem Okd.tail {x:Nat} {xs:List Nat} (h:Okd (x::xs)):Okd xs:=fun y hy=>h y (by simp [hy])
def Half (xs ys:List Nat) (k:Nat):Prop:=ys.length=xs.length∧∀ t,t<xs.length→ys.getD t 0=if t<k∨xs.length - k≤t then xs.getD (xs.length - 1 - t) 0 else xs.getD t 0
theorem Half.zero (xs:List Nat):Half xs xs 0:=⟨rfl,fun t ht=>by rw [if_neg (by omega)]⟩
theorem getD_set (l:List Nat) (i t v:Nat) (h:i<l.length):(l.set i v).getD t 0=if i=t then v else l.getD t 0:=by
  by_cases hit:i=t
  · subst hit;simp [List.getD,h]
  · simp [List.getD,hit]
theorem Half.step {xs ys:List Nat} {k:Nat} (h:Half xs ys k) (hk:k<xs.length - 1 - k) :
    Half xs ((ys.set k (ys.getD (xs.length - 1 - k) 0)).set (xs.length - 1 - k) (ys.getD k 0)) (k+1):=by
  obtain ⟨hl,h2⟩:=h
  have hk1:ys.getD k 0=xs.getD k 0:=by rw [h2 k (by omega),if_neg (by omega)]
  have hk2:ys.getD (xs.length - 1 - k) 0=xs.getD (xs.length - 1 - k) 0:=by rw [h2 _ (by omega),if_neg (by omega)]
  refine ⟨by simp [hl],fun t ht=>?_⟩
  rw [getD_set _ _ _ _ (by rw [List.length_set];omega),getD_set _ _ _ _ (by omega),hk1,hk2]
  by_cases h3:xs.length - 1 - k=t
  · subst h3
    rw [if_pos rfl,if_pos (by omega),show xs.length - 1 - (xs.length - 1 - k)=k by omega]
  · rw [if_neg h3]
    by_cases h4:k=t
    · subst h4;rw [if_pos rfl,if_pos (by omega)]
    · rw [if_neg h4,h2 t ht]
      by_cases h5:t<k∨xs.length - k≤t
      · rw [if_pos h5,if_pos (by omega)]
      · rw [if_neg h5,if_neg (by omega)]
def nums (s:ByteArray):List Nat:=s.data.toList.map UInt8.toNat
def hval (l:List Nat):Nat:=dval l.reverse
end Go.Proofs.YticgggjfmhiilaaDoor
namespace Go.Proofs.YticgggjfmhiilaaDoor
open Go.RowKit
open Go.RowKit
theorem alloc_blk (w:World) (xs:List Nat):Blk (w.alloc (.cells (xs.map lv).toArray 132)) w.heap.size xs []:=by
  unfold Blk;rw [List.append_nil];exact heap_alloc_new w _
theorem below_on {w w1 w2:World} (h:Below w.heap.size w w1) (h2:Below w1.heap.size w1 w2):Below w.heap.size w w2:=h.trans (h2.mono h.size)
structure Ent where
  v:Value
  len:Nat
  nat:Nat
  xs:List Nat
def ListOk (w:World) (v:Value) (L N:Nat) (xs:List Nat):Prop:=∃ ad cap,v=.slice ad xs.length cap∧xs.length≤cap∧xs.length≤L∧Okl xs∧Rd w ad xs∧val xs=N
def Ent.Ok (w:World) (x:Ent):Prop:=ListOk w x.v x.len x.nat x.xs
structure Ctx (w0 w:World) (l:List Ent):Prop where
  below:Below w0.heap.size w0 w
  all:∀ x∈l,x.Ok w
theorem Ctx.step {w0 w w':World} {l:List Ent} (h:Ctx w0 w l) (hb:Below w.heap.size w w'):Ctx w0 w' l :=
  ⟨below_on h.below hb,fun x hx=>by
    obtain ⟨ad,cap,h1,h2,h3,h4,h5,h6⟩:=h.all x hx
    exact ⟨ad,cap,h1,h2,h3,h4,h5.below hb,h6⟩⟩
theorem Ctx.drewN {w0 w:World} {l:List Ent} (h:Ctx w0 w l) (q:Nat):Ctx w0 (w.drewN q) l:=h.step (below_drewN' (Below.refl _ _) q)
theorem Ctx.push {w0 w:World} {l:List Ent} (h:Ctx w0 w l) {x:Ent} (hx:x.Ok w):Ctx w0 w (x::l) :=
  ⟨h.below,fun y hy=>by rcases List.mem_cons.1 hy with rfl | h1 <;> first | exact hx | exact h.all y h1⟩
theorem ent_lit (w:World) {x:Nat} (hx:x<B32):Ent.Ok (w.alloc (.cells #[.int .u32 (x:Int)] 132)) ⟨.slice (some ⟨w.heap.size,0,none⟩) 1 1,1,x,[x]⟩ :=
  ⟨_,1,rfl,Nat.le_refl _,Nat.le_refl _,Okl.cons hx Okl.nil,(alloc_blk w [x]).rd_all,by simp [val]⟩
theorem Ctx.lit {w0 w:World} {l:List Ent} (h:Ctx w0 w l) {x:Nat} (hx:x<B32) :
    Ctx w0 (w.alloc (.cells #[.int .u32 (x:Int)] 132)) (⟨.slice (some ⟨w.heap.size,0,none⟩) 1 1,1,x,[x]⟩::l) :=
  (h.step ((Below.refl _ _).alloc (Nat.le_refl _) _)).push (ent_lit w hx)
section
variable {w0 w : World} {l : List Ent} {v1 v2 : Value} {L1 L2 N1 N2 : Nat} {xs ys : List Nat}
end
end Go.Proofs.YticgggjfmhiilaaDoor
namespace Go.Proofs.YticgggjfmhiilaaDoor
open Go.RowKit
open Go.RowKit
open Go.RowKit
theorem run_append_none {P:Program} {w:World} (base:Nat) (t ty e:TypeId) (i:TypeInfo) (size:Nat) (ht:P.underlying t=some (.slice e)) (hi:P.info? e=some i)
    (v:Value) (n c:Nat) (xs:List Value) (hown:w.ownsRow base e size v n xs) :
    (Builtin.append_ #[t,t] ty #[v,.slice none 0 c]).run P w=.ok v w:=by
  rcases hown.2 with ⟨rfl,rfl⟩ | ⟨g,cap,cur,rfl,_,_,hnc,_⟩
  · simp [Builtin.append_,run_underlying ht,sizeOf,typeInfo,hi,Builtin.lenOf,Builtin.firstCells]
  · simp [Builtin.append_,run_underlying ht,sizeOf,typeInfo,hi,Builtin.lenOf,Builtin.firstCells,hnc,storeCells]
theorem wpl_append_none {P:Program} {w:World} {ops:Array Oper} {rest:List Oper} {o:Oper} {a:Act} {Q:Exit→Act→World→Prop} (hgd:o.guard=none) (s x:Operand) (t:TypeId)
    (ho:o.op=.call { callee:=.builtin .append,args:=#[s,x],argTypes:=#[t,t] })
    (base:Nat) (e:TypeId) (i:TypeInfo) (size:Nat) (ht:P.underlying t=some (.slice e)) (hi:P.info? e=some i)
    (v:Value) (n c:Nat) (xs:List Value) (hs:a.eval s=v) (hown:w.ownsRow base e size v n xs) (hx:a.eval x=.slice none 0 c)
    (h:wpList P ops Q rest (a.put o.dst v) w):wpList P ops Q (o::rest) a w:=by
  refine wpList_plain hgd fun K hK=>?_
  have hrun:=run_append_none (P:=P) (w:=w) base t o.type e i size ht hi v n c xs hown
  unfold Oper.wp
  simp [execOp,ho,resolve,invoke,builtin,hs,hx,hrun,Result.andThen]
  exact hK _ _ h
theorem wpl_append_rd {w:World} {ops:Array Oper} {rest:List Oper} {o:Oper} {a:Act} {Q:Exit→Act→World→Prop} (hgd:o.guard=none) (s x:Operand)
    (ho:o.op=.call { callee:=.builtin .append,args:=#[s,x],argTypes:=#[23,23] }) (B:Nat) (v:Value) (xs:List Nat) (hs:a.eval s=v) (hown:Own B w v xs)
    (ad:Option Addr) (m c:Nat) (ys:List Nat) (hx:a.eval x=.slice ad m c) (hy:Okl ys) (hyl:ys.length=m) (hr:Rd w ad ys) (hl:xs.length+m≤1000000000) (hB:B≤w.heap.size)
    (h:∀ v' w',Own B w' v' (xs++ys)→Below B w w'→wpList Tryd.prog ops Q rest (a.put o.dst v') w'):wpList Tryd.prog ops Q (o::rest) a w:=by
  obtain ⟨i0,hi,hz0,hz1,hz2⟩:=info_parts info_u32
  cases ad with
  | none =>
    have hm:m=0:=by
      rcases Nat.eq_zero_or_pos m with h0 | h0
      · exact h0
      · obtain ⟨b,o',e,_⟩:=hr 0 (by omega)
        cases e
    subst hm
    obtain rfl:ys=[]:=List.eq_nil_of_length_eq_zero hyl
    refine wpl_append_none hgd s x 23 ho B 132 i0 1 Tryd.underlying23 hi v xs.length c (xs.map lv) hs hown.row hx ?_
    exact h v w (by rw [List.append_nil];exact hown) (Below.refl _ _)
  | some ad =>
    refine wpList_append_own w hgd s x 23 ho B 132 i0 (.int .u32 0) 1 4 Tryd.underlying23 hi hz0 hz1 hz2 rfl (by decide) v xs.length (xs.map lv) hs hown.row ad m c (ys.map lv) hx (by simp [hyl]) ?_ ?_ (by unfold maxLen;omega) (by omega) hB ?_
    · intro j u hj
      have hjl:j<ys.length:=by
        rcases Nat.lt_or_ge j ys.length with h1 | h1
        · exact h1
        · rw [List.getElem?_eq_none (by simpa using h1)] at hj;cases hj
      obtain ⟨b,o',e,hlt,hc⟩:=hr j hjl
      cases e
      have e2:(Addr.add ⟨b,o',none⟩ j)=⟨b,o'+j,none⟩:=by unfold Addr.add;split <;> simp_all
      rw [e2,hc]
      rw [List.getElem?_map,List.getElem?_eq_getElem hjl] at hj
      simp only [Option.map_some,Option.some.injEq] at hj
      rw [← hj];simp [lv,List.getD,hjl]
    · intro u hu
      obtain ⟨y,_,rfl⟩:=List.mem_map.1 hu
      rfl
    · intro v' w' hown' hgr _
      refine h v' w' ?_ ((Below.refl _ _).grown hgr hB hown.blockGe)
      have e:xs.map lv++ys.map lv=(xs++ys).map lv:=by simp
      rw [e] at hown'
      have hl2:xs.length+m=(xs++ys).length:=by simp [hyl]
      exact own_of_row hown' (hown.1.append hy)
theorem limbs_any (ad:Option Addr) (n cap:Nat) (xs:List Nat) (w:World) (hn:xs.length=n) (hm:n≤100000000) (ho:Okl xs) (hr:Rd w ad xs) :
    Calls Tryd.prog 79 #[.slice ad n cap] w fun e w'=>∃ v,e=.returned v∧Own w.heap.size w' v xs∧Below w.heap.size w w':=by
  go_enter Tryd.func79,Tryd.ntmps79
  go_wp2_with (at_builtin;refine wpl_append_rd rfl _ _ rfl w.heap.size _ [] rfl (Own.nil _ _) _ _ _ xs rfl ho hn hr (by simp;omega) (Nat.le_refl _) ?_;intro v' w' hv hb)
  go_ret
  exact ⟨_,rfl,by simpa using hv,hb⟩
def SameRel (n:Nat) (w:World) (i:Value) (wr:World):Prop:=∃ (k q:Nat),k≤n∧i=.int .i64 (k:Int)∧wr=w.drewN q
theorem same_any (ad:Option Addr) (n cap:Nat) (xs:List Nat) (ad':Option Addr) (cap':Nat) (w:World) (hn:xs.length=n) (hcap:n≤cap) (hcap':n≤cap') (hm:n≤1000000000) (hr:Rd w ad xs) (hr':Rd w ad' xs) :
    Calls Tryd.prog 81 #[.slice ad n cap,.slice ad' n cap'] w fun e w'=>e=.returned (.bool true)∧∃ q,w'=w.drewN q:=by
  have HN:=Lib.hid hn;clear hn
  go_enter Tryd.func81,Tryd.ntmps81
  go_wp2_with fail
  go_loopw [5] (fun i wr=>SameRel n w i wr) (fun i _=>n - (intOf i).toNat)
  case atStart=>exact ⟨0,0,Nat.zero_le _,rfl,rfl⟩
  case round =>
    obtain ⟨k,q,hk,rfl,rfl⟩:=hrel
    by_cases hkn:k<n
    · obtain ⟨g1,o1,rfl,_,hc1⟩:=hr k (by rw [HN.out];exact hkn)
      obtain ⟨g2,o2,rfl,_,hc2⟩:=hr' k (by rw [HN.out];exact hkn)
      generalize xs.getD k 0=x at *
      have hkn':(k:Int)<(n:Int):=by omega
      go_wp2
      go_quiet (fail)
      go_wp2
      go_roundw
      case rel=>exact ⟨k+1,_,hkn,by go_num,rfl⟩
      case measure=>simp [intOf];omega
    · have hkn':¬ ((k:Int)<(n:Int)):=by omega
      go_wp2
      go_ret
      exact ⟨rfl,q,rfl⟩
section
variable {w0 w : World} {l : List Ent} {v1 v2 : Value} {L1 L2 N1 N2 : Nat} {xs ys : List Nat}
end
theorem Okd.append {l m:List Nat} (h:Okd l) (k:Okd m):Okd (l++m):=by
  intro y hy;rcases List.mem_append.1 hy with hy | hy
  · exact h y hy
  · exact k y hy
end Go.Proofs.YticgggjfmhiilaaDoor
