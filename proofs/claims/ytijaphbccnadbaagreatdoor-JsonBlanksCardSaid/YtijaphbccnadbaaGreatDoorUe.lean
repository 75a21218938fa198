/- Texts of the claim. -/
import Derived.Test.YtijaphbccnadbaaGreatDoorUd
import Derived.Laws.OwnMore
set_option linter.unusedVariables false
set_option linter.unusedSimpArgs false
set_option maxHeartbeats 200000
set_option maxRecDepth 100000
namespace Go.Proofs.YtijaphbccnadbaaGreatDoor
open Go.RowKit
open Go.RowKit
theorem ten_unique {m m' k k':Nat} (h:m*tenN k=m'*tenN k') (hm:m % 10 ≠ 0) (hm':m' % 10 ≠ 0):m=m'∧k=k':=by
  have key:∀ {a b x y:Nat},a*tenN x=b*tenN y→a % 10 ≠ 0→x<y→False:=by
    intro a b x y h1 h2 h3
    obtain ⟨d,rfl⟩:∃ d,y=x+(d+1):=⟨y - x - 1,by omega⟩
    rw [tenN_add,tenN_succ] at h1
    have h4:a=b*tenN d*10:=by
      have h5:a*tenN x=(b*tenN d*10)*tenN x:=by rw [h1];grind
      exact Nat.eq_of_mul_eq_mul_right (tenN_pos x) h5
    rw [h4] at h2
    exact h2 (Nat.mul_mod_left _ _)
  rcases Nat.lt_trichotomy k k' with h1 | h1 | h1
  · exact (key h hm h1).elim
  · subst h1;exact ⟨Nat.eq_of_mul_eq_mul_right (tenN_pos k) h,rfl⟩
  · exact (key h.symm hm' h1).elim
theorem alloc_blk (w:World) (xs:List Nat):Blk (w.alloc (.cells (xs.map lv).toArray 130)) w.heap.size xs []:=by
  unfold Blk;rw [List.append_nil];exact heap_alloc_new w _
theorem retb {a b:Bool} (h:a=b):Ending.returned (.bool a)=.returned (.bool b):=by rw [h]
theorem below_on {w w1 w2:World} (h:Below w.heap.size w w1) (h2:Below w1.heap.size w1 w2):Below w.heap.size w w2:=h.trans (h2.mono h.size)
structure Ent where
  v:Value
  len:Nat
  nat:Nat
  xs:List Nat
def ListOk (w:World) (v:Value) (L N:Nat) (xs:List Nat):Prop:=∃ ad cap,v=.slice ad xs.length cap∧xs.length≤cap∧xs.length≤L∧Okl xs∧Rd w ad xs∧val xs=N
def Ent.Ok (w:World) (x:Ent):Prop:=ListOk w x.v x.len x.nat x.xs
structure Ctx (w0 w:World) (l:List Ent):Prop where
  below:Below w0.heap.size w0 w
  all:∀ x∈l,x.Ok w
theorem Ctx.step {w0 w w':World} {l:List Ent} (h:Ctx w0 w l) (hb:Below w.heap.size w w'):Ctx w0 w' l :=
  ⟨below_on h.below hb,fun x hx=>by
    obtain ⟨ad,cap,h1,h2,h3,h4,h5,h6⟩:=h.all x hx
    exact ⟨ad,cap,h1,h2,h3,h4,h5.below hb,h6⟩⟩
theorem Ctx.drewN {w0 w:World} {l:List Ent} (h:Ctx w0 w l) (q:Nat):Ctx w0 (w.drewN q) l:=h.step (below_drewN' (Below.refl _ _) q)
theorem Ctx.push {w0 w:World} {l:List Ent} (h:Ctx w0 w l) {x:Ent} (hx:x.Ok w):Ctx w0 w (x::l) :=
  ⟨h.below,fun y hy=>by rcases List.mem_cons.1 hy with rfl | h1 <;> first | exact hx | exact h.all y h1⟩
theorem Ctx.get {w0 w:World} {l:List Ent} (h:Ctx w0 w l) (i:Nat) {v:Value} {L N:Nat} {xs:List Nat} (hi:l[i]? = some ⟨v,L,N,xs⟩):ListOk w v L N xs:=h.all _ (List.mem_of_getElem? hi)
theorem Ctx.begin (w:World):Ctx w w []:=⟨Below.refl _ _,fun x hx=>by cases hx⟩
theorem ent_own {B:Nat} {w:World} {v:Value} {N L:Nat} (h:Own B w v (limbs N)) (hL:(limbs N).length≤L):Ent.Ok w ⟨v,L,N,limbs N⟩:=by
  obtain ⟨ad,cap,rfl,h1,h2,_⟩:=h.view
  exact ⟨ad,cap,rfl,h1,hL,limbs_ok _,h2,val_limbs _⟩
theorem ent_lit (w:World) {x:Nat} (hx:x<B32):Ent.Ok (w.alloc (.cells #[.int .u32 (x:Int)] 130)) ⟨.slice (some ⟨w.heap.size,0,none⟩) 1 1,1,x,[x]⟩ :=
  ⟨_,1,rfl,Nat.le_refl _,Nat.le_refl _,Okl.cons hx Okl.nil,(alloc_blk w [x]).rd_all,by simp [val]⟩
theorem Ctx.lit {w0 w:World} {l:List Ent} (h:Ctx w0 w l) {x:Nat} (hx:x<B32) :
    Ctx w0 (w.alloc (.cells #[.int .u32 (x:Int)] 130)) (⟨.slice (some ⟨w.heap.size,0,none⟩) 1 1,1,x,[x]⟩::l) :=
  (h.step ((Below.refl _ _).alloc (Nat.le_refl _) _)).push (ent_lit w hx)
theorem len_leq {xs:List Nat} (hx:Okl xs) {N L:Nat} (h:N≤val xs) (h1:xs.length≤L):(limbs N).length≤L :=
  Nat.le_trans (limbs_len_mono h) (Nat.le_trans (limbs_len_le hx) h1)
section
variable {w0 w : World} {l : List Ent} {v1 v2 : Value} {L1 L2 N1 N2 : Nat} {xs ys : List Nat}
theorem trim_c (h:Ctx w0 w l) (i:Nat) (hi:l[i]? = some ⟨v1,L1,N1,xs⟩) (h1:L1≤10000000) :
    Calls Tryz.prog 191 #[v1] w fun e w'=>∃ v m k,e=.returned (.tuple #[v,.int .i64 ((k:Nat):Int)])∧N1=m*tenN k∧(N1=0→k=0)∧(N1 ≠ 0→m % 10 ≠ 0)∧k≤400000000∧Ctx w0 w' (⟨v,L1,m,limbs m⟩::l):=by
  obtain ⟨ad,cap,rfl,a2,a3,a4,a5,rfl⟩:=h.get i hi
  refine (trim_any ad _ cap xs w rfl a2 (by omega) a4 a5).mono ?_
  rintro e w' ⟨v,m,k,rfl,ho,hb,q1,q2,q3,q4⟩
  refine ⟨v,m,k,rfl,q1,q2,q3,q4,(h.step hb).push (ent_own ho (len_leq a4 ?_ a3))⟩
  rw [q1]
  exact Nat.le_mul_of_pos_right _ (Nat.pow_pos (by decide))
end
end Go.Proofs.YtijaphbccnadbaaGreatDoor
namespace Go.Proofs.YtijaphbccnadbaaGreatDoor
open Go.RowKit
open Go.RowKit
open Go.RowKit
theorem run_append_none {P:Program} {w:World} (base:Nat) (t ty e:TypeId) (i:TypeInfo) (size:Nat) (ht:P.underlying t=some (.slice e)) (hi:P.info? e=some i)
    (v:Value) (n c:Nat) (xs:List Value) (hown:w.ownsRow base e size v n xs) :
    (Builtin.append_ #[t,t] ty #[v,.slice none 0 c]).run P w=.ok v w:=by
  rcases hown.2 with ⟨rfl,rfl⟩ | ⟨g,cap,cur,rfl,_,_,hnc,_⟩
  · simp [Builtin.append_,run_underlying ht,sizeOf,typeInfo,hi,Builtin.lenOf,Builtin.firstCells]
  · simp [Builtin.append_,run_underlying ht,sizeOf,typeInfo,hi,Builtin.lenOf,Builtin.firstCells,hnc,storeCells]
theorem wpl_append_none {P:Program} {w:World} {ops:Array Oper} {rest:List Oper} {o:Oper} {a:Act} {Q:Exit→Act→World→Prop} (hgd:o.guard=none) (s x:Operand) (t:TypeId)
    (ho:o.op=.call { callee:=.builtin .append,args:=#[s,x],argTypes:=#[t,t] })
    (base:Nat) (e:TypeId) (i:TypeInfo) (size:Nat) (ht:P.underlying t=some (.slice e)) (hi:P.info? e=some i)
    (v:Value) (n c:Nat) (xs:List Value) (hs:a.eval s=v) (hown:w.ownsRow base e size v n xs) (hx:a.eval x=.slice none 0 c)
    (h:wpList P ops Q rest (a.put o.dst v) w):wpList P ops Q (o::rest) a w:=by
  refine wpList_plain hgd fun K hK=>?_
  have hrun:=run_append_none (P:=P) (w:=w) base t o.type e i size ht hi v n c xs hown
  unfold Oper.wp
  simp [execOp,ho,resolve,invoke,builtin,hs,hx,hrun,Result.andThen]
  exact hK _ _ h
theorem wpl_append_rd {w:World} {ops:Array Oper} {rest:List Oper} {o:Oper} {a:Act} {Q:Exit→Act→World→Prop} (hgd:o.guard=none) (s x:Operand)
    (ho:o.op=.call { callee:=.builtin .append,args:=#[s,x],argTypes:=#[22,22] }) (B:Nat) (v:Value) (xs:List Nat) (hs:a.eval s=v) (hown:Own B w v xs)
    (ad:Option Addr) (m c:Nat) (ys:List Nat) (hx:a.eval x=.slice ad m c) (hy:Okl ys) (hyl:ys.length=m) (hr:Rd w ad ys) (hl:xs.length+m≤1000000000) (hB:B≤w.heap.size)
    (h:∀ v' w',Own B w' v' (xs++ys)→Below B w w'→wpList Tryz.prog ops Q rest (a.put o.dst v') w'):wpList Tryz.prog ops Q (o::rest) a w:=by
  obtain ⟨i0,hi,hz0,hz1,hz2⟩:=info_parts info_u32
  cases ad with
  | none =>
    have hm:m=0:=by
      rcases Nat.eq_zero_or_pos m with h0 | h0
      · exact h0
      · obtain ⟨b,o',e,_⟩:=hr 0 (by omega)
        cases e
    subst hm
    obtain rfl:ys=[]:=List.eq_nil_of_length_eq_zero hyl
    refine wpl_append_none hgd s x 22 ho B 130 i0 1 Tryz.underlying22 hi v xs.length c (xs.map lv) hs hown.row hx ?_
    exact h v w (by rw [List.append_nil];exact hown) (Below.refl _ _)
  | some ad =>
    refine wpList_append_own w hgd s x 22 ho B 130 i0 (.int .u32 0) 1 4 Tryz.underlying22 hi hz0 hz1 hz2 rfl (by decide) v xs.length (xs.map lv) hs hown.row ad m c (ys.map lv) hx (by simp [hyl]) ?_ ?_ (by unfold maxLen;omega) (by omega) hB ?_
    · intro j u hj
      have hjl:j<ys.length:=by
        rcases Nat.lt_or_ge j ys.length with h1 | h1
        · exact h1
        · rw [List.getElem?_eq_none (by simpa using h1)] at hj;cases hj
      obtain ⟨b,o',e,hlt,hc⟩:=hr j hjl
      cases e
      have e2:(Addr.add ⟨b,o',none⟩ j)=⟨b,o'+j,none⟩:=by unfold Addr.add;split <;> simp_all
      rw [e2,hc]
      rw [List.getElem?_map,List.getElem?_eq_getElem hjl] at hj
      simp only [Option.map_some,Option.some.injEq] at hj
      rw [← hj];simp [lv,List.getD,hjl]
    · intro u hu
      obtain ⟨y,_,rfl⟩:=List.mem_map.1 hu
      rfl
    · intro v' w' hown' hgr _
      refine h v' w' ?_ ((Below.refl _ _).grown hgr hB hown.blockGe)
      have e:xs.map lv++ys.map lv=(xs++ys).map lv:=by simp
      rw [e] at hown'
      have hl2:xs.length+m=(xs++ys).length:=by simp [hyl]
      exact own_of_row hown' (hown.1.append hy)
theorem val_zeros (k:Nat):val (List.replicate k 0)=0:=by
  induction k with
  | zero=>rfl
  | succ k ih=>rw [List.replicate_succ];simp [val,ih]
theorem val_behind (xs:List Nat) (k:Nat):val (xs++List.replicate k 0)=val xs:=by rw [val_append,val_zeros];simp
section
variable {w0 w : World} {l : List Ent} {v1 v2 : Value} {L1 L2 N1 N2 : Nat} {xs ys : List Nat}
end
theorem nums_txt {l:List Nat} (h:Okd l):nums (txt l)=l:=by
  unfold nums txt
  simp only [List.map_map]
  apply List.ext_getElem
  · simp
  · intro i h1 h2
    have hx:=h l[i] (List.getElem_mem h2)
    simp only [List.getElem_map,Function.comp_apply,UInt8.toNat_ofNat']
    omega
theorem txt_append (l m:List Nat):txt l++txt m=txt (l++m):=by
  apply ByteArray.ext
  simp [txt,ByteArray.data_append]
theorem zeros_ok (k:Nat):Okd (List.replicate k 48):=by
  intro x hx;rw [List.mem_replicate] at hx;omega
theorem Okd.append {l m:List Nat} (h:Okd l) (k:Okd m):Okd (l++m):=by
  intro y hy;rcases List.mem_append.1 hy with hy | hy
  · exact h y hy
  · exact k y hy
theorem hval_zeros (k:Nat):hval (List.replicate k 48)=0:=by
  induction k with
  | zero=>rfl
  | succ k ih=>rw [List.replicate_succ',hval_snoc,ih]
theorem hval_dec (N:Nat):hval (dec N)=N:=dval_dec N
theorem ten_le (n:Nat):tenN n≤B32 ^ n:=Nat.pow_le_pow_left (by decide) n
theorem parse_c {w0 w:World} {l:List Ent} (h:Ctx w0 w l) {d:List Nat} (hd:Okd d) (h1:0<d.length) (M:Nat) (h2:d.length≤M) (hM:M≤2000) (N:Nat) (hN:hval d=N) :
    Calls Tryz.prog 158 #[.string (txt d)] w fun e w'=>∃ v,e=.returned (.tuple #[v,.bool true])∧Ctx w0 w' (⟨v,M,N,limbs N⟩::l):=by
  refine (parse_any (txt d) w).mono ?_
  rw [nums_txt hd]
  rintro e w' ⟨⟨_,_,_,v,rfl,ho⟩ | ⟨hno,_⟩,hb⟩
  · subst hN
    exact ⟨v,rfl,(h.step hb).push (ent_own ho (limbs_length_le (Nat.lt_of_lt_of_le (hval_lt hd) (Nat.le_trans (ten_le _) (Nat.pow_le_pow_right (by decide) h2)))))⟩
  · exact absurd ⟨h1,Nat.le_trans h2 hM,hd⟩ hno
theorem tenN_ne (n:Nat):tenN n ≠ 0:=Nat.pos_iff_ne_zero.1 (Nat.pow_pos (by decide))
end Go.Proofs.YtijaphbccnadbaaGreatDoor
