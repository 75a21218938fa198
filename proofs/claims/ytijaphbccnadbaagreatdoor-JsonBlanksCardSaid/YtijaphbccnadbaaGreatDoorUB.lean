/- Texts of the claim. -/
import Derived.Test.YtijaphbccnadbaaGreatDoorUA
set_option linter.unusedVariables false
set_option linter.unusedSimpArgs false
set_option maxHeartbeats 8000000
set_option maxRecDepth 100000
namespace Go.Proofs.YtijaphbccnadbaaGreatDoor
open Go.RowKit Go.Shelf Go.Lib
theorem wp_appT {w:World} {o:Oper} {a:Act} {K:Act→World→Prop} {Q:Exit→Act→World→Prop} (hgd:o.guard=none) (s x:Operand)
    (ho:o.op=.call { callee:=.builtin .append,args:=#[s,x],argTypes:=#[26,26] }) (B:Nat) (v:Value) (n:Nat) (xs:List Value) (hs:a.eval s=v) (hown:w.ownsRow B 28 8 v n xs)
    (ad:Addr) (c:Nat) (y:Cel) (hx:a.eval x=.slice (some ad) 1 c) (hr:RdV w (some ad) y.cells) (hn:n≤1000000000) (hB:B≤w.heap.size)
    (h:∀ g cap w',w'.ownsRow B 28 8 (.slice (some ⟨g,0,none⟩) (n+1) cap) (n+1) (xs++y.cells)→w.grownBy w' v.ownBlock→(v.ownBlock=some g∨g=w.heap.size)→K (a.put o.dst (.slice (some ⟨g,0,none⟩) (n+1) cap)) w') :
    o.wp Tryz.prog a w K Q:=by
  have:=step_appT (ops:=#[]) (E:=True) (Q:=Q) hgd s x ho B v n xs hs hown ad c y hx hr hn hB h
  rwa [if_pos (by simp [Region.wanted,hgd])] at this
theorem ownJ {w:World} {B:Nat} {e:TypeId} {size:Nat} {v:Value} {n:Nat} {xs:List Value} (h:w.ownsRow B e size v n xs) {k:Nat} (hk:v.ownBlock=some k):B≤k∧k<w.heap.size:=by
  rcases h.2 with ⟨rfl,_⟩ | ⟨g,cap,cur,rfl,hB,hg,_⟩
  · cases hk
  · simp only [Value.ownBlock,Option.some.injEq] at hk
    subst hk
    exact ⟨hB,(Array.getElem?_eq_some_iff.1 hg).1⟩
def AJ (B:Nat) (nv v:Value) (k:Nat):Prop:=k<B∨nv.ownBlock=some k∨v.ownBlock=some k
theorem setCells_block {e:TypeId} {fz:Nat × Nat} {g:Nat}:∀ (cs:List Value) (W:World) (o:Nat) (cur:Array Value),W.heap[g]? = some (.cells cur e fz)→o+cs.length≤cur.size →
    ∃ cur',(W.setCells g o cs).heap[g]? = some (.cells cur' e fz)∧cur'.size=cur.size∧cur'.toList=cur.toList.take o++cs++cur.toList.drop (o+cs.length)
  | [],W,o,cur,h,_=>⟨cur,h,rfl,by simp⟩
  | c::cs,W,o,cur,h,hl=>by
    have h1:(W.setCell ⟨g,o,none⟩ c).heap[g]? = some (.cells (cur.setIfInBounds o c) e fz):=by
      simp [World.setCell,Array.getElem?_modify,h]
    obtain ⟨cur',h2,h3,h4⟩:=setCells_block cs (W.setCell ⟨g,o,none⟩ c) (o+1) _ h1 (by simp at hl ⊢;omega)
    refine ⟨cur',h2,by rw [h3];simp,?_⟩
    rw [h4]
    simp only [List.length_cons] at hl
    have ho:o<cur.toList.length:=by simp;omega
    have e1:(cur.setIfInBounds o c).toList=cur.toList.set o c:=by simp
    rw [e1]
    rw [List.set_eq_take_append_cons_drop,if_pos ho]
    have e2:(cur.toList.take o).length=o:=by rw [List.length_take];omega
    rw [List.take_append,e2,List.take_of_length_le (l:=cur.toList.take o) (by omega),show o+1 - o=1 by omega]
    rw [List.drop_append,e2,List.drop_of_length_le (l:=cur.toList.take o) (by omega)]
    have e3:o+1+cs.length - o=cs.length+1:=by omega
    rw [e3]
    simp only [List.take_succ_cons,List.take_zero,List.drop_succ_cons,List.drop_drop,List.nil_append,List.append_assoc,List.cons_append,List.length_cons]
    rw [show o+1+cs.length=o+(cs.length+1) by omega]
theorem setCells_other {g k:Nat} (h:k ≠ g):∀ (cs:List Value) (W:World) (o:Nat),(W.setCells g o cs).heap[k]? = W.heap[k]?
  | [],W,o=>rfl
  | c::cs,W,o=>(setCells_other h cs _ _).trans (set_other h)
theorem setCells_facts {g:Nat}:∀ (cs:List Value) (W:World) (o:Nat),(W.setCells g o cs).heap.size=W.heap.size∧(W.setCells g o cs).os=W.os∧(W.setCells g o cs).tape=W.tape∧(W.setCells g o cs).output=W.output
  | [],W,o=>⟨rfl,rfl,rfl,rfl⟩
  | c::cs,W,o=>by
    obtain ⟨h1,h2,h3,h4⟩:=setCells_facts cs (W.setCell ⟨g,o,none⟩ c) (o+1)
    exact ⟨h1.trans (by simp [World.setCell]),h2,h3,h4⟩
theorem own_fill {W:World} {B:Nat} {e:TypeId} {size n cap gg:Nat} {F z cs:List Value} (h:W.ownsRow B e size (.slice (some ⟨gg,0,none⟩) (n+1) cap) (n+1) (F++z)) (hF:F.length=n*size) (hz:z.length=size) (hc:cs.length=size) :
    (W.setCells gg (n*size) cs).ownsRow B e size (.slice (some ⟨gg,0,none⟩) (n+1) cap) (n+1) (F++cs):=by
  refine ⟨by rw [List.length_append,hF,hc,Nat.add_mul,Nat.one_mul],?_⟩
  rcases h.2 with ⟨e0,_⟩ | ⟨g,cap',cur,e0,hB,hg,hcap,hm,hs,ht⟩
  · cases e0
  · cases e0
    have hle:n*size+cs.length≤cur.size:=by
      have:(n+1)*size≤cap*size:=Nat.mul_le_mul_right _ hcap
      rw [Nat.add_mul,Nat.one_mul] at this
      omega
    obtain ⟨cur',h1,h2,h3⟩:=setCells_block cs W (n*size) cur hg hle
    refine .inr ⟨gg,cap,cur',rfl,hB,h1,hcap,hm,by rw [h2,hs],?_⟩
    have ht2:cur.toList.take (n*size)=F:=by
      have e:=congrArg (List.take (n*size)) ht
      rw [List.take_take,Nat.min_eq_left (Nat.mul_le_mul_right _ (Nat.le_succ n))] at e
      rw [e]
      exact List.take_left' hF
    rw [h3,ht2]
    exact List.take_left' (by rw [List.length_append,hF,hc,Nat.add_mul,Nat.one_mul])
structure ItK (w:World) (g bi br B:Nat) (nv:Value) (us:List MT) (va:Option Addr) (vc:Nat) (W:World):Prop where
  oth:Oth g w W
  rb:W.heap[br]? = some (.cells #[.pointer (some ⟨g,0,none⟩)] 72)
  bx:W.heap[bi]? = some (.cells #[.slice va us.length vc] 26)
  ow:W.ownsRow B 28 8 (.slice va us.length vc) us.length (flat (us.map MT.c))
  ind:Ind (AJ B nv (.slice va us.length vc)) W (fun W=>∀ x∈us,Rep W x)
  hB:B≤W.heap.size
structure StaJ (w:World) (g bi br B:Nat):Prop where
  hg:g<w.heap.size
  hi:w.heap.size≤bi
  hi2:bi<B
  hr:br ≠ g
  hr2:br<B
  hne:bi ≠ br
theorem ItK.on {w:World} {g bi br B:Nat} {nv:Value} {us:List MT} {va:Option Addr} {vc:Nat} {W W':World} (h:ItK w g bi br B nv us va vc W) (hs:StaJ w g bi br B) (ho:Oth g W W'):ItK w g bi br B nv us va vc W':=by
  have h1:=hs.hg;have h2:=hs.hi;have h3:=hs.hi2;have h4:=hs.hr;have h5:=hs.hr2;have h6:=h.hB
  refine ⟨h.oth.trans ho,(ho.block br (by omega) (by omega)).trans h.rb,(ho.block bi (by omega) (by omega)).trans h.bx,own_other h.ow (fun k hk=>?_),?_,Nat.le_trans h.hB ho.size⟩
  · have:=ownJ h.ow hk
    exact ho.block k this.2 (by omega)
  · exact h.ind.to ho.size (fun k hk hx=>ho.block k hk (fun e=>hx (.inl (by omega)))) (fun _ _ h=>h) (fun _ h=>h)
theorem ItK.cr {w:World} {g bi br B:Nat} {nv:Value} {us:List MT} {va:Option Addr} {vc:Nat} {W:World} (h:ItK w g bi br B nv us va vc W):W.cell? ⟨br,0,none⟩=some (.pointer (some ⟨g,0,none⟩)):=by
  simp [World.cell?,h.rb]
theorem ItK.ci {w:World} {g bi br B:Nat} {nv:Value} {us:List MT} {va:Option Addr} {vc:Nat} {W:World} (h:ItK w g bi br B nv us va vc W):W.cell? ⟨bi,0,none⟩=some (.slice va us.length vc):=by
  simp [World.cell?,h.bx]
structure FinJ (W5 W7:World) (B bi gg cap:Nat) (us:List MT) (cs:List Value):Prop where
  os:W7.os=W5.os
  tape:W7.tape=W5.tape
  output:W7.output=W5.output
  size:W7.heap.size=W5.heap.size
  block:∀ k,k ≠ bi→k ≠ gg→W7.heap[k]? = W5.heap[k]?
  bx:W7.heap[bi]? = some (.cells #[.slice (some ⟨gg,0,none⟩) (us.length+1) cap] 26)
  ow:W7.ownsRow B 28 8 (.slice (some ⟨gg,0,none⟩) (us.length+1) cap) (us.length+1) (flat (us.map MT.c)++cs)
theorem set_in {W:World} {b:Nat} {t:TypeId} {v u:Value} (h:W.heap[b]? = some (.cells #[v] t)):(W.setCell ⟨b,0,none⟩ u).heap[b]? = some (.cells #[u] t):=by
  simp [World.setCell,Array.getElem?_modify,h]
theorem flat_lenJ (us:List MT):(flat (us.map MT.c)).length=us.length*8:=by rw [flat_len,List.length_map]
theorem FinJ.a {W5:World} {B bi gg cap:Nat} {us:List MT} {cs:List Value} {v0:Value} (hc:cs.length=8) (ho:W5.ownsRow B 28 8 (.slice (some ⟨gg,0,none⟩) (us.length+1) cap) (us.length+1) (flat (us.map MT.c)++zeroC.cells)) (hb:W5.heap[bi]? = some (.cells #[v0] 26)) (hne:bi ≠ gg) :
    FinJ W5 ((W5.setCells gg (us.length*8) cs).setCell ⟨bi,0,none⟩ (.slice (some ⟨gg,0,none⟩) (us.length+1) cap)) B bi gg cap us cs:=by
  obtain ⟨f1,f2,f3,f4⟩:=setCells_facts (g:=gg) cs W5 (us.length*8)
  have g1:((W5.setCells gg (us.length*8) cs).setCell ⟨bi,0,none⟩ (.slice (some ⟨gg,0,none⟩) (us.length+1) cap)).heap.size=(W5.setCells gg (us.length*8) cs).heap.size:=by simp [World.setCell]
  refine ⟨(show World.os (World.setCell _ _ _)=World.os _ from rfl).trans f2,(show World.tape (World.setCell _ _ _)=World.tape _ from rfl).trans f3,(show World.output (World.setCell _ _ _)=World.output _ from rfl).trans f4,g1.trans f1,fun k h1 h2=>(set_other h1).trans (setCells_other h2 _ _ _),set_in ((setCells_other hne _ _ _).trans hb),?_⟩
  exact own_other (own_fill ho (flat_lenJ us) (cells_len zeroC) hc) (fun k hk=>set_other (fun e=>hne ((show gg=k from Option.some.inj hk).trans e).symm))
theorem FinJ.b {W5:World} {B bi gg cap:Nat} {us:List MT} {cs:List Value} {v0:Value} (hc:cs.length=8) (ho:W5.ownsRow B 28 8 (.slice (some ⟨gg,0,none⟩) (us.length+1) cap) (us.length+1) (flat (us.map MT.c)++zeroC.cells)) (hb:W5.heap[bi]? = some (.cells #[v0] 26)) (hne:bi ≠ gg) :
    FinJ W5 ((W5.setCell ⟨bi,0,none⟩ (.slice (some ⟨gg,0,none⟩) (us.length+1) cap)).setCells gg (us.length*8) cs) B bi gg cap us cs:=by
  obtain ⟨f1,f2,f3,f4⟩:=setCells_facts (g:=gg) cs (W5.setCell ⟨bi,0,none⟩ (.slice (some ⟨gg,0,none⟩) (us.length+1) cap)) (us.length*8)
  have g1:(W5.setCell ⟨bi,0,none⟩ (.slice (some ⟨gg,0,none⟩) (us.length+1) cap)).heap.size=W5.heap.size:=by simp [World.setCell]
  refine ⟨f2.trans (show World.os (World.setCell W5 _ _)=World.os W5 from rfl),f3.trans (show World.tape (World.setCell W5 _ _)=World.tape W5 from rfl),f4.trans (show World.output (World.setCell W5 _ _)=World.output W5 from rfl),f1.trans g1,fun k h1 h2=>(setCells_other h2 _ _ _).trans (set_other h1),(setCells_other hne _ _ _).trans (set_in hb),?_⟩
  exact own_fill (own_other ho (fun k hk=>set_other (fun e=>hne ((show gg=k from Option.some.inj hk).trans e).symm))) (flat_lenJ us) (cells_len zeroC) hc
theorem ItK.step {w:World} {g bi br B s0 gg cap:Nat} {nv:Value} {us:List MT} {x:MT} {va:Option Addr} {vc:Nat} {W W5 W7:World} (h:ItK w g bi br B nv us va vc W) (hs:StaJ w g bi br B)
    (hs0:B≤s0) (hso:∀ k,(Value.slice va us.length vc).ownBlock=some k→k<s0) (hsn:∀ k,nv.ownBlock=some k→B≤k∧k<s0∧(Value.slice va us.length vc).ownBlock ≠ some k) (hsw:s0≤W.heap.size) (hx:Ind (fun k=>k<s0) W (fun W=>Rep W x))
    (hg5:W.grownBy W5 (Value.slice va us.length vc).ownBlock) (hor:(Value.slice va us.length vc).ownBlock=some gg∨gg=W.heap.size) (hf:FinJ W5 W7 B bi gg cap us x.c.cells) :
    ItK w g bi br B nv (us++[x]) (some ⟨gg,0,none⟩) cap W7:=by
  have h1:=hs.hg;have h2:=hs.hi;have h3:=hs.hi2;have h4:=hs.hr;have h5:=hs.hr2;have h6:=h.hB;have h7:=hs.hne
  have hown:∀ k,(Value.slice va us.length vc).ownBlock=some k→B≤k∧k<W.heap.size:=fun k hk=>ownJ h.ow hk
  have hgB:B≤gg:=(ownJ hf.ow rfl).1
  have hkeep:∀ k,k<W.heap.size→k ≠ bi→k ≠ gg→(Value.slice va us.length vc).ownBlock ≠ some k→W7.heap[k]? = W.heap[k]?:=fun k q1 q2 q3 q4=>by
    rw [hf.block k q2 q3,hg5.block k q1 (fun e=>q4 e.symm)]
  have hz:W.heap.size≤W7.heap.size:=by rw [hf.size];exact hg5.size
  have e1:(us++[x]).length=us.length+1:=by simp
  have e2:flat ((us++[x]).map MT.c)=flat (us.map MT.c)++x.c.cells:=by simp [flat]
  refine ⟨⟨hf.os.trans (hg5.os.trans h.oth.os),hf.tape.trans (hg5.tape.trans h.oth.tape),hf.output.trans (hg5.output.trans h.oth.output),Nat.le_trans h.oth.size hz,fun k hk hkg=>?_⟩,?_,by rw [e1];exact hf.bx,by rw [e1,e2];exact hf.ow,?_,Nat.le_trans h.hB hz⟩
  · exact (hkeep k (by have:=h.oth.size;omega) (by omega) (by omega) (fun e=>by have:=hown _ e;omega)).trans (h.oth.block k hk hkg)
  · rw [hkeep br (by omega) (fun e=>h7 e.symm) (by omega) (fun e=>by have:=hown _ e;omega)];exact h.rb
  · rw [e1]
    intro W' q1 q2 y hy
    have hW:∀ k,k<W.heap.size→B≤k→nv.ownBlock ≠ some k→(Value.slice va us.length vc).ownBlock ≠ some k→k ≠ gg→W'.heap[k]? = W.heap[k]?:=fun k r1 r2 r0 r3 r4=>by
      rw [q2 k (by omega) (fun hx=>by
        rcases hx with hx | hx | hx
        · omega
        · exact r0 hx
        · simp only [Value.ownBlock,Option.some.injEq] at hx;omega),hkeep k r1 (by omega) r4 r3]
    rcases List.mem_append.1 hy with hy | hy
    · refine h.ind W' (by omega) (fun k r1 r2=>hW k r1 (Nat.le_of_not_lt (fun h=>r2 (.inl h))) (fun e=>r2 (.inr (.inl e))) (fun e=>r2 (.inr (.inr e))) (fun e=>?_)) y hy
      rcases hor with ho | ho
      · exact r2 (.inr (.inr (by rw [e];exact ho)))
      · omega
    · rw [List.mem_singleton.1 hy]
      refine hx W' (by omega) (fun k r1 r2=>hW k r1 (by omega) (fun e=>r2 (hsn k e).2.1) (fun e=>r2 (hso k e)) (fun e=>?_))
      rcases hor with ho | ho
      · exact r2 (hso k (by rw [e];exact ho))
      · omega
theorem siJ {A:Prop} {L:Array Bool} (i a:Nat) (ha:(i == a)=false) (M:Prop):(M∧((L.setIfInBounds i true).getD a false=false→A)) ↔ (M∧(L.getD a false=false→A)):=by
  rw [getD_set_ne false (by simpa using ha)]
theorem rl_idx0 {P:Program} (w:World) (ev:Operand→Value) (o:Oper) (t:TypeId) (x ix:Operand) (e:TypeId) (b n c j m size:Nat) (ho:o.op=.indexAddr t x ix) (hx:ev x=.slice (some ⟨b,0,none⟩) n c) (hi:ev ix=.int .i64 (j:Int))
    (hu:P.underlying t=some (.slice e)) (hz:(P.info? e).map (·.size)=some size) (hj:j<n) (hm:j*size=m):(execOp ev o).run P w=.ok (.value (.pointer (some ⟨b,m,none⟩))) w:=by
  have:=rl_idx w ev o t x ix e b 0 n c j m size ho hx hi hu hz hj hm
  rwa [Nat.zero_add] at this
theorem ItK.keep {w:World} {g bi br B:Nat} {nv:Value} {us:List MT} {va:Option Addr} {vc:Nat} {W W5:World} (h:ItK w g bi br B nv us va vc W) (hs:StaJ w g bi br B) (hg5:W.grownBy W5 (Value.slice va us.length vc).ownBlock) :
    W5.heap[bi]? = some (.cells #[.slice va us.length vc] 26)∧W5.heap[br]? = some (.cells #[.pointer (some ⟨g,0,none⟩)] 72):=by
  have h3:=hs.hi2;have h5:=hs.hr2;have h6:=h.hB
  constructor
  · rw [hg5.block bi (by omega) (fun e=>by have:=(ownJ h.ow e.symm).1;omega)];exact h.bx
  · rw [hg5.block br (by omega) (fun e=>by have:=(ownJ h.ow e.symm).1;omega)];exact h.rb
theorem setCells_cell {W:World} {gg b o j:Nat} {cs:List Value} (h:b ≠ gg):(W.setCells gg o cs).cell? ⟨b,j,none⟩=W.cell? ⟨b,j,none⟩:=World.cell?_of_block (a:=⟨b,j,none⟩) (setCells_other h cs W o)
theorem setCells_frozen {W:World} {gg b o j:Nat} {cs:List Value} (h:b ≠ gg):(W.setCells gg o cs).frozen? ⟨b,j,none⟩=W.frozen? ⟨b,j,none⟩:=World.frozen?_of_block (a:=⟨b,j,none⟩) (setCells_other h cs W o)
theorem below_twoJ (w:World) (o o2:Obj):Below w.heap.size w ((w.alloc o).alloc o2):=((Below.refl _ _).alloc (Nat.le_refl _) _).alloc (by simp) _
theorem own_there {W:World} {B:Nat} {e:TypeId} {n cap gg:Nat} {xs:List Value} (h:W.ownsRow B e 8 (.slice (some ⟨gg,0,none⟩) (n+1) cap) (n+1) xs):W.there gg (n*8) 8:=by
  rcases h.2 with ⟨e0,_⟩ | ⟨g,cap',cur,e0,hB,hg,hcap,hm,hs,ht⟩
  · cases e0
  · cases e0
    intro j hj
    have hlt:n*8+j<cur.size:=by rw [hs];omega
    constructor
    · simp [World.cell?,hg,hlt]
    · simp [World.frozen?,hg]
theorem rp_storeC {P:Program} {ops:Array Oper} {Q:Exit→Act→World→Prop} {a:Act} {w:World} {K:Act→World→Prop} (i:Nat) (o:Oper) (ty:TypeId) (x y:Operand) (b k:Nat) (c:Cel) (hi:ops[i]? = some o) (hdd:o.dst=none) (hw:Region.wanted o (yielded ops a.tmps)=true)
    (ho:o.op=.store ty x y) (hx:a.eval x=.pointer (some ⟨b,k,none⟩)) (hy:a.eval y=c.val) (h1:(P.info? ty).map (·.size)=some 8) (hb:w.there b k 8)
    (h:K a (w.setCells b k c.cells)):wpOp P ops Q i K a w:=by
  unfold wpOp
  simp only [hi]
  rw [if_pos hw]
  refine .inl ?_
  have h8:c.cells.length=8:=by simp [Cel.cells]
  refine wp_store_mid ty x y ho b k c.cells.toArray hx hy (by simpa [h8] using hb) (by simpa [h8] using h1) (all_oneCell_toArray (cel_one c)) ?_
  rw [hdd]
  simp only [List.toList_toArray]
  exact h
theorem rdv_oth {g gz:Nat} {W W':World} {vs:List Value} (h:RdV W (some ⟨gz,0,none⟩) vs) (hne:gz ≠ g) (ho:Oth g W W'):RdV W' (some ⟨gz,0,none⟩) vs:=by
  intro i hi
  obtain ⟨b,o,e,hlt,hc⟩:=h i hi
  cases e
  exact ⟨_,_,rfl,Nat.lt_of_lt_of_le hlt ho.size,by rw [World.cell?_of_block (w:=W) (ho.block _ hlt hne)];exact hc⟩
def ArJ (w:World) (g bi br B:Nat) (L:List MT) (W:World):Prop:=∃ us va vc,us.map MT.bare=L∧ItK w g bi br B (.bool false) us va vc W
def ThrJ (w:World) (g:Nat) (W:World):Prop:=∃ l d n,StJ g l d n w W
theorem itemL_yes {V:List UInt8→Nat→PRJ} {L:List MT} {l:List UInt8} {n:Nat} {q:MT × List UInt8 × Nat} (h:V l n=.inl q):itemL V L l n=.inl (L++[q.1],q.2.1,q.2.2):=by unfold itemL;rw [h]
theorem itemL_no {V:List UInt8→Nat→PRJ} {L:List MT} {l:List UInt8} {n:Nat} {x:Int} (h:V l n=.inr x):itemL V L l n=.inr x:=by unfold itemL;rw [h]
theorem item_anyj (w:World) (g bi br B:Nat) (nv:Value) (hnv:nv=.bool false) (hs:StaJ w g bi br B) (d:Nat) (V:List UInt8→Nat→PRJ) (us:List MT) (va:Option Addr) (vc:Nat) (l:List UInt8) (n:Nat) (w1:World) (hK:ItK w g bi br B nv us va vc w1) (hn:us.length<300) (hrd:RdJ g l d n w1)
    (KV:∀ W,RdJ g l d n W→Oth g w W→Calls Tryz.prog 25 #[.pointer (some ⟨g,0,none⟩)] W (ValJ g d (V l n) W)) :
    Calls Tryz.prog 77 #[.pointer (some ⟨bi,0,none⟩),.pointer (some ⟨br,0,none⟩)] w1 (PartJ g d (ArJ w g bi br B) (ThrJ w g) (itemL V (us.map MT.bare) l n)):=by
  have hg1:g<w1.heap.size:=hrd.lt
  have HS:=Lib.hid hs
  have HK:=Lib.hid hK
  have HRD:=Lib.hid hrd
  have HN:=Lib.hid (show us.length≤1000000000 by omega)
  have HSN:=Lib.hid (show ∀ k,nv.ownBlock=some k→B≤k∧k<w1.heap.size∧(Value.slice va us.length vc).ownBlock ≠ some k from fun k hk=>by rw [hnv] at hk;cases hk)
  have HSO:=Lib.hid (fun k (hk:(Value.slice va us.length vc).ownBlock=some k)=>(ownJ hK.ow hk).2)
  have HB1:=Lib.hid hK.hB
  have HKV:=Lib.hid KV
  have HBAD:=Lib.hid (fun (y:Int) (W:World) (h:V l n=.inr y) (hj:ThrJ w g W)=>(PartJ.no (I:=ArJ w g bi br B) (J:=ThrJ w g) (g:=g) (d:=d) (itemL_no (L:=us.map MT.bare) h) rfl hj))
  have HOK:=Lib.hid (fun (q:MT × List UInt8 × Nat) (W:World) (x:MT) (gg cap:Nat) (h:V l n=.inl q) (hx:x.bare=q.1) (hF:ItK w g bi br B nv (us++[x]) (some ⟨gg,0,none⟩) cap W) (hr:RdJ g q.2.1 d q.2.2 W)=>(PartJ.yes (I:=ArJ w g bi br B) (J:=ThrJ w g) (itemL_yes (L:=us.map MT.bare) h) rfl ⟨us++[x],_,_,by rw [List.map_append,List.map_cons,List.map_nil,hx],by rw [← hnv];exact hF⟩ hr))
  clear hs hK hrd KV hn
  go_enter Tryz.func77,Tryz.ntmps77
  go_upto_region 0 with fail
  refine rp_norm (fun J T hJ hT=>?_)
  have HJ:=Lib.hid hJ
  have HT:=Lib.hid hT
  clear hJ hT
  have hK:=HK.out.on HS.out (Oth.refl g w1).drew
  have hrd:RdJ g l d n w1.drew:=HRD.out
  refine rl_start (S:=fun L W=>W.cell? ⟨br,0,none⟩=some (.pointer (some ⟨g,0,none⟩))∧(L.getD 8 false=false→W.cell? ⟨bi,0,none⟩=some (.slice va us.length vc))) (by kernel_rfl) ⟨hK.cr,fun _=>hK.ci⟩ (fun hC hS=>?_)
  refine rl_load1 0 _ 26 (.tmp 0) ⟨bi,0,none⟩ (.slice va us.length vc) _ (some 2) rfl (by kernel_rfl) (by kernel_rfl) (by kernel_rfl) (by kernel_rfl) (fun _ _ _ h=>h) (fun L W=>siJ 0 8 rfl _) (by kernel_rfl) rfl (by kernel_rfl) Tryz.underlying26 rfl (fun L W hC h1 hS=>hS.2 (cl_no hC 0 8 _ rfl (by kernel_rfl) h1)) hC hS (fun hC hS=>?_)
  refine rl_load1 1 _ 72 (.tmp 1) ⟨br,0,none⟩ (.pointer (some ⟨g,0,none⟩)) _ (some 3) rfl (by kernel_rfl) (by kernel_rfl) (by kernel_rfl) (by kernel_rfl) (fun _ _ _ h=>h) (fun L W=>siJ 1 8 rfl _) (by kernel_rfl) rfl (by kernel_rfl) Tryz.underlying72 rfl (fun L W hC h1 hS=>hS.1) hC hS (fun hC hS=>?_)
  refine rl_pure 3 _ (.int .i64 ((us.length:Nat):Int)) (some 5) rfl (by kernel_rfl) (by kernel_rfl) (by kernel_rfl) (by kernel_rfl) (fun _ _ _ h=>h) (fun L W=>siJ 3 8 rfl _) (by kernel_rfl) (fun w=>by kernel_rfl) hC hS (fun hC hS=>?_)
  refine rl_all [2,4] (by kernel_rfl) (by simp) hC (rl_two _ _ ?_ ?_)
  · skip
    refine rp_call 2 _ 25 _ _ _ _ #[.pointer (some ⟨g,0,none⟩)] (some 4) rfl (by kernel_rfl) (by kernel_rfl) rfl (by kernel_rfl) Tryz.func25 (by kernel_rfl) (by kernel_rfl) (by kernel_rfl) (HKV.out w1.drew hrd hK.oth) ?_
    intro r' W1 hp
    cases hv:V l n with
    | inr y =>
      rw [hv] at hp
      refine .inr ?_
      obtain ⟨rfl,la,da,na,hj⟩:=hp
      have HX:=Lib.hid (HBAD.out y W1 hv ⟨_,_,_,⟨hK.oth.trans hj.oth,hj.rd⟩⟩)
      refine ⟨_,rfl,rfl,HT.out _ _ (fun a' ha'=>?_)⟩
      exact ⟨ha',HX.out⟩
    | inl q =>
      rw [hv] at hp
      refine .inl ?_
      obtain ⟨x,rfl,hxb,hx,hj⟩:=hp
      replace hK:=hK.on HS.out hj.oth
      replace hrd:=hj.rd
      have hsw:w1.heap.size≤W1.heap.size:=hj.oth.size
      replace hx:Ind (fun k=>k<w1.heap.size) W1 (fun W=>Rep W x):=hx
      clear hj
      refine ⟨_,rfl,?_⟩
      refine rl_and ⟨hK.cr,fun _=>hK.ci⟩ (fun hS hC=>?_)
      refine rl_all [4] (by kernel_rfl) (by simp) hC (rl_one _ ?_)
      refine rl_val 4 _ (.slice (some ⟨W1.heap.size,0,none⟩) 1 1) (W1.alloc (.cells #[.int .i64 0,.bool false,.bool false,.slice none 0 0,.int .i64 0,.string ⟨#[]⟩,.slice none 0 0,.slice none 0 0] 28)) (some 6) rfl (by kernel_rfl) (by kernel_rfl) (by kernel_rfl) ?_
      have hz:RdV (W1.alloc (.cells #[.int .i64 0,.bool false,.bool false,.slice none 0 0,.int .i64 0,.string ⟨#[]⟩,.slice none 0 0,.slice none 0 0] 28)) (some ⟨W1.heap.size,0,none⟩) zeroC.cells:=rdv_new W1 zeroC.cells _
      have hba:Below W1.heap.size W1 (W1.alloc (.cells #[.int .i64 0,.bool false,.bool false,.slice none 0 0,.int .i64 0,.string ⟨#[]⟩,.slice none 0 0,.slice none 0 0] 28)):=(Below.refl _ _).alloc (Nat.le_refl _) _
      replace hK:=hK.on HS.out (Oth.of_below hba)
      replace hrd:=hrd.on hba
      replace hx:=hx.below hba
      replace hsw:=Nat.le_trans hsw hba.size
      clear hba
      generalize W1.heap.size=gz at *
      generalize W1.alloc (.cells #[.int .i64 0,.bool false,.bool false,.slice none 0 0,.int .i64 0,.string ⟨#[]⟩,.slice none 0 0,.slice none 0 0] 28)=W4 at *
      refine rl_and ⟨hK.cr,fun _=>hK.ci⟩ (fun hS hC=>?_)
      refine rl_all [5] (by kernel_rfl) (by simp) hC (rl_one _ ?_)
      refine rl_law 5 _ (some 7) rfl (by kernel_rfl) (by kernel_rfl) (R:=fun v' w'=>∃ gg cap,v'=.slice (some ⟨gg,0,none⟩) (us.length+1) cap∧w'.ownsRow B 28 8 (.slice (some ⟨gg,0,none⟩) (us.length+1) cap) (us.length+1) (flat (us.map MT.c)++zeroC.cells)∧W4.grownBy w' (Value.slice va us.length vc).ownBlock∧((Value.slice va us.length vc).ownBlock=some gg∨gg=W4.heap.size)) (fun KK hKK=>wp_appT rfl (.tmp 2) (.tmp 6) rfl B (.slice va us.length vc) us.length (flat (us.map MT.c)) (by kernel_rfl) hK.ow ⟨gz,0,none⟩ 1 zeroC (by kernel_rfl) hz HN.out hK.hB (fun gg cap w' h1 h2 h3=>hKK _ w' ⟨gg,cap,rfl,h1,h2,h3⟩)) ?_
      rintro _ W5 ⟨gg,cap,rfl,ho5,hg5,hor⟩
      have hb5:=ItK.keep hK HS.out hg5
      refine rl_and ⟨by simp [World.cell?,hb5.2],fun _=>by simp [World.cell?,hb5.1]⟩ (fun hS hC=>?_)
      refine rl_pure 6 _ (.pointer (some ⟨gg,us.length*8,none⟩)) (some 8) rfl (by kernel_rfl) (by kernel_rfl) (by kernel_rfl) (by kernel_rfl) (fun _ _ _ h=>h) (fun L W=>siJ 6 8 rfl _) (by kernel_rfl) (fun w=>rl_idx0 w _ _ 26 _ _ 28 gg (us.length+1) cap us.length (us.length*8) 8 rfl (by kernel_rfl) (by kernel_rfl) Tryz.underlying26 (by kernel_rfl) (Nat.lt_succ_self _) rfl) hC hS (fun hC hS=>?_)
      have hgg:bi ≠ gg:=by have h1:B≤gg:=(ownJ ho5 rfl).1;have h2:=HS.out.hi2;intro e;omega
      have hgr:br ≠ gg:=by have h1:B≤gg:=(ownJ ho5 rfl).1;have h2:=HS.out.hr2;intro e;omega
      have hgr2:br ≠ bi:=fun e=>HS.out.hne e.symm
      have hggg:g ≠ gg:=by have h1:B≤gg:=(ownJ ho5 rfl).1;have h2:=HS.out.hg;have h3:=HS.out.hi;have h4:=HS.out.hi2;intro e;omega
      have hgbi:g ≠ bi:=by have h2:=HS.out.hg;have h3:=HS.out.hi;intro e;omega
      have hrd5:RdJ g q.2.1 d q.2.2 W5:=by unfold RdJ at hrd ⊢;rw [hg5.block g (Array.getElem?_eq_some_iff.1 hrd).1 (fun e=>by have h1:=(ownJ hK.ow e.symm).1;have h2:=HS.out.hg;have h3:=HS.out.hi;have h4:=HS.out.hi2;omega)];exact hrd
      have hfa:=FinJ.a (cells_len x.c) ho5 hb5.1 hgg
      have hfb:=FinJ.b (cells_len x.c) ho5 hb5.1 hgg
      have HFA:=Lib.hid (hK.step HS.out HB1.out HSO.out HSN.out hsw hx hg5 hor hfa)
      have HFB:=Lib.hid (hK.step HS.out HB1.out HSO.out HSN.out hsw hx hg5 hor hfb)
      have HRA:=Lib.hid (show RdJ g q.2.1 d q.2.2 _ from (hfa.block g hgbi hggg).trans hrd5)
      have HRB:=Lib.hid (show RdJ g q.2.1 d q.2.2 _ from (hfb.block g hgbi hggg).trans hrd5)
      have hth:=own_there ho5
      have hth2:=own_there (own_other (w':=W5.setCell ⟨bi,0,none⟩ (.slice (some ⟨gg,0,none⟩) (us.length+1) cap)) ho5 (fun k hk=>set_other (fun e=>hgg ((show gg=k from Option.some.inj hk).trans e).symm)))
      clear hfa hfb ho5 hg5 hor hz hx hK hrd hrd5
      refine rl_all [7,8] (by kernel_rfl) (by simp) hC (rl_two _ _ ?_ ?_)
      · skip
        refine rp_storeC 7 _ 28 (.tmp 8) (.tmp 4) gg (us.length*8) x.c rfl (by kernel_rfl) (by kernel_rfl) rfl (by kernel_rfl) (by kernel_rfl) (by kernel_rfl) hth ?_
        refine rl_and ⟨by rw [setCells_cell hgr];simp [World.cell?,hb5.2],fun _=>by rw [setCells_cell hgg];simp [World.cell?,hb5.1]⟩ (fun hS hC=>?_)
        refine rl_all [8] (by kernel_rfl) (by simp) hC (rl_one _ ?_)
        refine rl_store 8 _ 26 (.tmp 0) (.tmp 7) ⟨bi,0,none⟩ (.slice (some ⟨gg,0,none⟩) (us.length+1) cap) rfl (by kernel_rfl) (by kernel_rfl) rfl (by kernel_rfl) (by kernel_rfl) (by kernel_rfl) rfl (by rw [setCells_cell hgg];simp [World.cell?,hb5.1]) (by rw [setCells_frozen hgg];simp [World.frozen?,hb5.1]) ?_
        refine rl_and ⟨by rw [World.cell?_setCell_other (h:=by simp [hgr2]),setCells_cell hgr];simp [World.cell?,hb5.2],fun h=>Bool.noConfusion (show true=false from h)⟩ (fun hS hC=>?_)
        refine rl_done (by kernel_rfl) ?_ _
        clear hS hC
        refine HJ.out _ _ ?_
        clear HJ
        simp only [Act.put,List.setIfInBounds_toArray,List.set_cons_zero,List.set_cons_succ]
        have HZ:=Lib.hid (HOK.out q _ x gg cap hv hxb HFA.out  HRA.out)
        clear HFA HFB HRA HRB hth hth2 hb5
        go_wp2_with fail
        exact bodyPost_ret (v:=.tuple #[]) (by simp [results,Tryz.results77,go_sem]) rfl HZ.out
      · skip
        refine rl_store 8 _ 26 (.tmp 0) (.tmp 7) ⟨bi,0,none⟩ (.slice (some ⟨gg,0,none⟩) (us.length+1) cap) rfl (by kernel_rfl) (by kernel_rfl) rfl (by kernel_rfl) (by kernel_rfl) (by kernel_rfl) rfl (by simp [World.cell?,hb5.1]) (by simp [World.frozen?,hb5.1]) ?_
        refine rl_and ⟨by rw [World.cell?_setCell_other (h:=by simp [hgr2])];simp [World.cell?,hb5.2],fun h=>Bool.noConfusion (show true=false from h)⟩ (fun hS hC=>?_)
        refine rl_all [7] (by kernel_rfl) (by simp) hC (rl_one _ ?_)
        refine rp_storeC 7 _ 28 (.tmp 8) (.tmp 4) gg (us.length*8) x.c rfl (by kernel_rfl) (by kernel_rfl) rfl (by kernel_rfl) (by kernel_rfl) (by kernel_rfl) hth2 ?_
        refine rl_and ⟨by rw [setCells_cell hgr,World.cell?_setCell_other (h:=by simp [hgr2])];simp [World.cell?,hb5.2],fun h=>Bool.noConfusion (show true=false from h)⟩ (fun hS hC=>?_)
        refine rl_done (by kernel_rfl) ?_ _
        clear hS hC
        refine HJ.out _ _ ?_
        clear HJ
        simp only [Act.put,List.setIfInBounds_toArray,List.set_cons_zero,List.set_cons_succ]
        have HZ:=Lib.hid (HOK.out q _ x gg cap hv hxb HFB.out  HRB.out)
        clear HFA HFB HRA HRB hth hth2 hb5
        go_wp2_with fail
        exact bodyPost_ret (v:=.tuple #[]) (by simp [results,Tryz.results77,go_sem]) rfl HZ.out
  · skip
    refine rl_val 4 _ (.slice (some ⟨w1.drew.heap.size,0,none⟩) 1 1) (w1.drew.alloc (.cells #[.int .i64 0,.bool false,.bool false,.slice none 0 0,.int .i64 0,.string ⟨#[]⟩,.slice none 0 0,.slice none 0 0] 28)) (some 6) rfl (by kernel_rfl) (by kernel_rfl) (by kernel_rfl) ?_
    have hz:RdV (w1.drew.alloc (.cells #[.int .i64 0,.bool false,.bool false,.slice none 0 0,.int .i64 0,.string ⟨#[]⟩,.slice none 0 0,.slice none 0 0] 28)) (some ⟨w1.drew.heap.size,0,none⟩) zeroC.cells:=rdv_new w1.drew zeroC.cells _
    have hba:Below w1.drew.heap.size w1.drew (w1.drew.alloc (.cells #[.int .i64 0,.bool false,.bool false,.slice none 0 0,.int .i64 0,.string ⟨#[]⟩,.slice none 0 0,.slice none 0 0] 28)):=(Below.refl _ _).alloc (Nat.le_refl _) _
    replace hK:=hK.on HS.out (Oth.of_below hba)
    replace hrd:=hrd.on hba
    have hsw:w1.heap.size≤(w1.drew.alloc (.cells #[.int .i64 0,.bool false,.bool false,.slice none 0 0,.int .i64 0,.string ⟨#[]⟩,.slice none 0 0,.slice none 0 0] 28)).heap.size:=hba.size
    clear hba
    have hgz:w1.drew.heap.size ≠ g:=Nat.ne_of_gt hg1
    generalize w1.drew.heap.size=gz at *
    generalize w1.drew.alloc (.cells #[.int .i64 0,.bool false,.bool false,.slice none 0 0,.int .i64 0,.string ⟨#[]⟩,.slice none 0 0,.slice none 0 0] 28)=W3 at *
    refine rl_and ⟨hK.cr,fun _=>hK.ci⟩ (fun hS hC=>?_)
    refine rl_all [2] (by kernel_rfl) (by simp) hC (rl_one _ ?_)
    refine rp_call 2 _ 25 _ _ _ _ #[.pointer (some ⟨g,0,none⟩)] (some 4) rfl (by kernel_rfl) (by kernel_rfl) rfl (by kernel_rfl) Tryz.func25 (by kernel_rfl) (by kernel_rfl) (by kernel_rfl) (HKV.out W3 hrd hK.oth) ?_
    intro r' W1 hp
    cases hv:V l n with
    | inr y =>
      rw [hv] at hp
      refine .inr ?_
      obtain ⟨rfl,la,da,na,hj⟩:=hp
      have HX:=Lib.hid (HBAD.out y W1 hv ⟨_,_,_,⟨hK.oth.trans hj.oth,hj.rd⟩⟩)
      refine ⟨_,rfl,rfl,HT.out _ _ (fun a' ha'=>?_)⟩
      exact ⟨ha',HX.out⟩
    | inl q =>
      rw [hv] at hp
      refine .inl ?_
      obtain ⟨x,rfl,hxb,hx,hj⟩:=hp
      replace hK:=hK.on HS.out hj.oth
      replace hrd:=hj.rd
      replace hx:Ind (fun k=>k<w1.heap.size) W1 (fun W=>Rep W x):=hx.to (Nat.le_refl _) (fun _ _ _=>rfl) (fun k _ h=>Nat.lt_of_lt_of_le h hsw) (fun _ h=>h)
      replace hz:=rdv_oth hz hgz hj.oth
      replace hsw:w1.heap.size≤W1.heap.size:=Nat.le_trans hsw hj.oth.size
      clear hj
      refine ⟨_,rfl,?_⟩
      refine rl_and ⟨hK.cr,fun _=>hK.ci⟩ (fun hS hC=>?_)
      refine rl_all [5] (by kernel_rfl) (by simp) hC (rl_one _ ?_)
      refine rl_law 5 _ (some 7) rfl (by kernel_rfl) (by kernel_rfl) (R:=fun v' w'=>∃ gg cap,v'=.slice (some ⟨gg,0,none⟩) (us.length+1) cap∧w'.ownsRow B 28 8 (.slice (some ⟨gg,0,none⟩) (us.length+1) cap) (us.length+1) (flat (us.map MT.c)++zeroC.cells)∧W1.grownBy w' (Value.slice va us.length vc).ownBlock∧((Value.slice va us.length vc).ownBlock=some gg∨gg=W1.heap.size)) (fun KK hKK=>wp_appT rfl (.tmp 2) (.tmp 6) rfl B (.slice va us.length vc) us.length (flat (us.map MT.c)) (by kernel_rfl) hK.ow ⟨gz,0,none⟩ 1 zeroC (by kernel_rfl) hz HN.out hK.hB (fun gg cap w' h1 h2 h3=>hKK _ w' ⟨gg,cap,rfl,h1,h2,h3⟩)) ?_
      rintro _ W5 ⟨gg,cap,rfl,ho5,hg5,hor⟩
      have hb5:=ItK.keep hK HS.out hg5
      refine rl_and ⟨by simp [World.cell?,hb5.2],fun _=>by simp [World.cell?,hb5.1]⟩ (fun hS hC=>?_)
      refine rl_pure 6 _ (.pointer (some ⟨gg,us.length*8,none⟩)) (some 8) rfl (by kernel_rfl) (by kernel_rfl) (by kernel_rfl) (by kernel_rfl) (fun _ _ _ h=>h) (fun L W=>siJ 6 8 rfl _) (by kernel_rfl) (fun w=>rl_idx0 w _ _ 26 _ _ 28 gg (us.length+1) cap us.length (us.length*8) 8 rfl (by kernel_rfl) (by kernel_rfl) Tryz.underlying26 (by kernel_rfl) (Nat.lt_succ_self _) rfl) hC hS (fun hC hS=>?_)
      have hgg:bi ≠ gg:=by have h1:B≤gg:=(ownJ ho5 rfl).1;have h2:=HS.out.hi2;intro e;omega
      have hgr:br ≠ gg:=by have h1:B≤gg:=(ownJ ho5 rfl).1;have h2:=HS.out.hr2;intro e;omega
      have hgr2:br ≠ bi:=fun e=>HS.out.hne e.symm
      have hggg:g ≠ gg:=by have h1:B≤gg:=(ownJ ho5 rfl).1;have h2:=HS.out.hg;have h3:=HS.out.hi;have h4:=HS.out.hi2;intro e;omega
      have hgbi:g ≠ bi:=by have h2:=HS.out.hg;have h3:=HS.out.hi;intro e;omega
      have hrd5:RdJ g q.2.1 d q.2.2 W5:=by unfold RdJ at hrd ⊢;rw [hg5.block g (Array.getElem?_eq_some_iff.1 hrd).1 (fun e=>by have h1:=(ownJ hK.ow e.symm).1;have h2:=HS.out.hg;have h3:=HS.out.hi;have h4:=HS.out.hi2;omega)];exact hrd
      have hfa:=FinJ.a (cells_len x.c) ho5 hb5.1 hgg
      have hfb:=FinJ.b (cells_len x.c) ho5 hb5.1 hgg
      have HFA:=Lib.hid (hK.step HS.out HB1.out HSO.out HSN.out hsw hx hg5 hor hfa)
      have HFB:=Lib.hid (hK.step HS.out HB1.out HSO.out HSN.out hsw hx hg5 hor hfb)
      have HRA:=Lib.hid (show RdJ g q.2.1 d q.2.2 _ from (hfa.block g hgbi hggg).trans hrd5)
      have HRB:=Lib.hid (show RdJ g q.2.1 d q.2.2 _ from (hfb.block g hgbi hggg).trans hrd5)
      have hth:=own_there ho5
      have hth2:=own_there (own_other (w':=W5.setCell ⟨bi,0,none⟩ (.slice (some ⟨gg,0,none⟩) (us.length+1) cap)) ho5 (fun k hk=>set_other (fun e=>hgg ((show gg=k from Option.some.inj hk).trans e).symm)))
      clear hfa hfb ho5 hg5 hor hz hx hK hrd hrd5
      refine rl_all [7,8] (by kernel_rfl) (by simp) hC (rl_two _ _ ?_ ?_)
      · skip
        refine rp_storeC 7 _ 28 (.tmp 8) (.tmp 4) gg (us.length*8) x.c rfl (by kernel_rfl) (by kernel_rfl) rfl (by kernel_rfl) (by kernel_rfl) (by kernel_rfl) hth ?_
        refine rl_and ⟨by rw [setCells_cell hgr];simp [World.cell?,hb5.2],fun _=>by rw [setCells_cell hgg];simp [World.cell?,hb5.1]⟩ (fun hS hC=>?_)
        refine rl_all [8] (by kernel_rfl) (by simp) hC (rl_one _ ?_)
        refine rl_store 8 _ 26 (.tmp 0) (.tmp 7) ⟨bi,0,none⟩ (.slice (some ⟨gg,0,none⟩) (us.length+1) cap) rfl (by kernel_rfl) (by kernel_rfl) rfl (by kernel_rfl) (by kernel_rfl) (by kernel_rfl) rfl (by rw [setCells_cell hgg];simp [World.cell?,hb5.1]) (by rw [setCells_frozen hgg];simp [World.frozen?,hb5.1]) ?_
        refine rl_and ⟨by rw [World.cell?_setCell_other (h:=by simp [hgr2]),setCells_cell hgr];simp [World.cell?,hb5.2],fun h=>Bool.noConfusion (show true=false from h)⟩ (fun hS hC=>?_)
        refine rl_done (by kernel_rfl) ?_ _
        clear hS hC
        refine HJ.out _ _ ?_
        clear HJ
        simp only [Act.put,List.setIfInBounds_toArray,List.set_cons_zero,List.set_cons_succ]
        have HZ:=Lib.hid (HOK.out q _ x gg cap hv hxb HFA.out  HRA.out)
        clear HFA HFB HRA HRB hth hth2 hb5
        go_wp2_with fail
        exact bodyPost_ret (v:=.tuple #[]) (by simp [results,Tryz.results77,go_sem]) rfl HZ.out
      · skip
        refine rl_store 8 _ 26 (.tmp 0) (.tmp 7) ⟨bi,0,none⟩ (.slice (some ⟨gg,0,none⟩) (us.length+1) cap) rfl (by kernel_rfl) (by kernel_rfl) rfl (by kernel_rfl) (by kernel_rfl) (by kernel_rfl) rfl (by simp [World.cell?,hb5.1]) (by simp [World.frozen?,hb5.1]) ?_
        refine rl_and ⟨by rw [World.cell?_setCell_other (h:=by simp [hgr2])];simp [World.cell?,hb5.2],fun h=>Bool.noConfusion (show true=false from h)⟩ (fun hS hC=>?_)
        refine rl_all [7] (by kernel_rfl) (by simp) hC (rl_one _ ?_)
        refine rp_storeC 7 _ 28 (.tmp 8) (.tmp 4) gg (us.length*8) x.c rfl (by kernel_rfl) (by kernel_rfl) rfl (by kernel_rfl) (by kernel_rfl) (by kernel_rfl) hth2 ?_
        refine rl_and ⟨by rw [setCells_cell hgr,World.cell?_setCell_other (h:=by simp [hgr2])];simp [World.cell?,hb5.2],fun h=>Bool.noConfusion (show true=false from h)⟩ (fun hS hC=>?_)
        refine rl_done (by kernel_rfl) ?_ _
        clear hS hC
        refine HJ.out _ _ ?_
        clear HJ
        simp only [Act.put,List.setIfInBounds_toArray,List.set_cons_zero,List.set_cons_succ]
        have HZ:=Lib.hid (HOK.out q _ x gg cap hv hxb HFB.out  HRB.out)
        clear HFA HFB HRA HRB hth hth2 hb5
        go_wp2_with fail
        exact bodyPost_ret (v:=.tuple #[]) (by simp [results,Tryz.results77,go_sem]) rfl HZ.out
def ArI (w:World) (g bi br B:Nat) (L:List MT) (W:World):Prop:=ArJ w g bi br B L W∧∃ l d n,RdJ g l d n W
theorem PartJ.arI {w:World} {g bi br B d:Nat} {r:(List MT × List UInt8 × Nat) ⊕ Int} {e:Ending} {W:World} (h:PartJ g d (ArJ w g bi br B) (ThrJ w g) r e W):PartJ g d (ArI w g bi br B) (ThrJ w g) r e W:=by
  unfold PartJ at *
  cases r with
  | inr x=>exact h
  | inl q=>exact ⟨h.1,⟨h.2.1,_,_,_,h.2.2⟩,h.2.2⟩
def ValC (w0:World) (g d:Nat) (V:List UInt8→Nat→PRJ):Prop:=∀ W l n,l.length≤1000000→n≤2000→RdJ g l d n W→Below w0.heap.size w0 W→Calls Tryz.prog 25 #[.pointer (some ⟨g,0,none⟩)] W (ValJ g d (V l n) W)
theorem arrT_bare (va:Option Addr) (n c:Nat) (us:List MT):(arrT va n c us).bare=arrT none n 0 (us.map MT.bare):=by rw [MT.bare_eq];rfl
theorem arrL_yes {V:List UInt8→Nat→PRJ} {d n:Nat} {s:List UInt8} {q:List MT × List UInt8 × Nat} (h:loopL (itemL V) 93 (d+1) (s.length+1) 0 [] (skipL s).tail n=.inl q):arrL V d n s=.inl (barr q.1,q.2.1,q.2.2):=by unfold arrL;rw [h]
theorem arrL_no {V:List UInt8→Nat→PRJ} {d n:Nat} {s:List UInt8} {x:Int} (h:loopL (itemL V) 93 (d+1) (s.length+1) 0 [] (skipL s).tail n=.inr x):arrL V d n s=.inr x:=by unfold arrL;rw [h]
theorem itemL_len {V:List UInt8→Nat→PRJ} (hV:∀ s n,Eats s n (V s n)) (s:List MT) (l:List UInt8) (n:Nat) (r:List MT × List UInt8 × Nat) (hn:n≤2000) (h:itemL V s l n=.inl r):r.2.1.length<l.length∧r.2.2≤2000∧r.1.length=s.length+1:=by
  unfold itemL at h
  split at h
  · cases h
  · rename_i p hp
    simp only [Sum.inl.injEq] at h
    subst h
    have:=hV _ _ _ hp
    exact ⟨this.1,this.2 hn,by simp⟩
theorem arr_fin {g d n B b:Nat} {l:List UInt8} {w W:World} {t:MT} (h:StJ g l d n w W) (hb:w.heap.size≤b) (hg:b ≠ g) (hwB:w.heap.size≤B) (hbB:b<B) (hi:Ind (fun k=>k<B) W (fun W=>Rep W t)) (v0 v1 v2 v3 v4 v5 v6 v7:Value) :
    Ind (fun k=>k<w.heap.size) ((((((((W.setCell ⟨b,0,none⟩ v0).setCell ⟨b,1,none⟩ v1).setCell ⟨b,2,none⟩ v2).setCell ⟨b,3,none⟩ v3).setCell ⟨b,4,none⟩ v4).setCell ⟨b,5,none⟩ v5).setCell ⟨b,6,none⟩ v6).setCell ⟨b,7,none⟩ v7) (fun W=>Rep W t)∧StJ g l d n w ((((((((W.setCell ⟨b,0,none⟩ v0).setCell ⟨b,1,none⟩ v1).setCell ⟨b,2,none⟩ v2).setCell ⟨b,3,none⟩ v3).setCell ⟨b,4,none⟩ v4).setCell ⟨b,5,none⟩ v5).setCell ⟨b,6,none⟩ v6).setCell ⟨b,7,none⟩ v7):=by
  refine ⟨hi.to (by simp [World.setCell]) (fun k hk hx=>?_) (fun k _ h=>Nat.lt_of_lt_of_le h hwB) (fun _ h=>h),?_⟩
  · have hne:k ≠ b:=fun e=>hx (by rw [e];exact hbB)
    rw [set_other hne,set_other hne,set_other hne,set_other hne,set_other hne,set_other hne,set_other hne,set_other hne]
  · exact (((((((h.fresh hb hg _ _).fresh hb hg _ _).fresh hb hg _ _).fresh hb hg _ _).fresh hb hg _ _).fresh hb hg _ _).fresh hb hg _ _).fresh hb hg _ _
theorem loopL_len {{σ:Type}} (ln:σ→Nat) {{P:σ→List UInt8→Nat→(σ × List UInt8 × Nat) ⊕ Int}} {{c:UInt8}} {{d:Nat}} (hP:∀ s l n r,P s l n=.inl r→ln r.1=ln s+1) :
    ∀ (f many:Nat) (s:σ) (l:List UInt8) (n:Nat) (r:σ × List UInt8 × Nat),loopL P c d f many s l n=.inl r→ln s=many→many≤300→ln r.1≤300:=by
  intro f
  induction f with
  | zero=>intro many s l n r h;cases h
  | succ f ih =>
    intro many s l n r h h1 h2
    unfold loopL at h
    split at h
    · simp only [Sum.inl.injEq] at h
      subst h
      simp only;omega
    · split at h
      · cases h
      · split at h
        · rename_i hlim
          split at h
          · cases h
          · rename_i q hq
            exact ih _ _ _ _ _ h ((hP _ _ _ _ hq).trans (by rw [h1])) (by omega)
        · cases h
theorem itemL_one {{V:List UInt8→Nat→PRJ}} (s:List MT) (l:List UInt8) (n:Nat) (r:List MT × List UInt8 × Nat) (h:itemL V s l n=.inl r):r.1.length=s.length+1:=by
  unfold itemL at h
  split at h
  · cases h
  · simp only [Sum.inl.injEq] at h
    subst h
    simp
theorem ItK.rep {w:World} {g bi br B:Nat} {nv:Value} {us:List MT} {va:Option Addr} {vc:Nat} {W:World} (h:ItK w g bi br B nv us va vc W) (hm:us.length≤1000000000000000):Ind (fun k=>k<B) W (fun W=>Rep W (arrT va us.length vc us)):=by
  obtain ⟨_,_,e1,hvc,hvr,_,hva,_⟩:=own_viewN h.ow
  cases e1
  intro W' h1 h2
  refine arrT_rep rfl hvc hm (ind_rdv (X:=fun k=>k<B) hvr (fun a e hx=>by have:=(hva a e).1;omega) W' h1 h2) (h.ind W' h1 (fun k hk hx=>h2 k hk (fun h=>hx (.inl h))))
theorem array_anyj (w0:World) (g d:Nat) (hg0:w0.heap.size≤g) (hd:d≤900) (V:List UInt8→Nat→PRJ) (hE:∀ s n,Eats s n (V s n)) (hV:d+1≤64→ValC w0 g (d+1) V) (l:List UInt8) (n:Nat) (w:World) (hl:l.length≤1000000) (hn:n≤2000) (hx:nextL l=91) (hr:RdJ g l d n w) (hb:Below w0.heap.size w0 w) :
    Calls Tryz.prog 49 #[.pointer (some ⟨g,0,none⟩)] w (ValJ g d (arrL V d n l) w):=by
  have hmf:∀ (fn:Fn) (first cap:Array Value) (w:World),(Instr.makeFunc fn first cap).run Tryz.prog w=.ok (.func fn first cap) w:=fun _ _ _ _=>rfl
  have hg:=hr.lt
  obtain ⟨wA,hwA⟩:∃ x,(w.alloc (.cells #[.pointer (some ⟨g,0,none⟩)] 72)).alloc (.cells #[.int .i64 0,.bool false,.bool false,.slice none 0 0,.int .i64 0,.string ⟨#[]⟩,.slice none 0 0,.slice none 0 0] 28)=x:=⟨_,rfl⟩
  obtain ⟨wB,hwB⟩:∃ x,wA.alloc (.cells #[.slice none 0 0] 26)=x:=⟨_,rfl⟩
  have hbA:Below w.heap.size w wA:=by rw [← hwA];exact below_twoJ _ _ _
  have hbB:Below wA.heap.size wA wB:=by rw [← hwB];exact (Below.refl _ _).alloc (Nat.le_refl _) _
  have hsA:wA.heap.size=w.heap.size+1+1:=by rw [← hwA];simp
  have hsB:wB.heap.size=w.heap.size+1+1+1:=by rw [← hwB];simp [hsA]
  have q0:wA.heap[w.heap.size]? = some (.cells #[.pointer (some ⟨g,0,none⟩)] 72):=by rw [← hwA];exact (Below.heap_alloc _ _ _ (by simp)).trans (heap_alloc_new w _)
  have q1:wA.heap[w.heap.size+1]? = some (.cells #[.int .i64 0,.bool false,.bool false,.slice none 0 0,.int .i64 0,.string ⟨#[]⟩,.slice none 0 0,.slice none 0 0] 28):=by
    rw [← hwA];have:=heap_alloc_new (w.alloc (.cells #[.pointer (some ⟨g,0,none⟩)] 72)) (.cells #[.int .i64 0,.bool false,.bool false,.slice none 0 0,.int .i64 0,.string ⟨#[]⟩,.slice none 0 0,.slice none 0 0] 28);simpa using this
  have q2:wB.heap[w.heap.size+1+1]? = some (.cells #[.slice none 0 0] 26):=by
    rw [← hwB,← hsA];exact heap_alloc_new wA _
  have hs:StaJ wA g (w.heap.size+1+1) w.heap.size (w.heap.size+1+1+1):=⟨by omega,by omega,by omega,by omega,by omega,by omega⟩
  have HQ1:=Lib.hid q1
  have HS:=Lib.hid hs
  have hK0:ItK wA g (w.heap.size+1+1) w.heap.size (w.heap.size+1+1+1) (.bool false) [] none 0 wB:=⟨Oth.of_below hbB,(hbB.block _ (by omega)).trans q0,q2,World.ownsRow_nil _ _ _ _,fun W _ _=>nofun,by omega⟩
  have hrB:RdJ g l d n wB:=(hr.on hbA).on hbB
  have HAB:=Lib.hid hbA
  have KP:=Lib.hid (parts_anyj (σ:=List MT) List.length g (d+1) 77 #[.pointer (some ⟨w.heap.size+1+1,0,none⟩),.pointer (some ⟨w.heap.size,0,none⟩)] 91 93 (by decide) (by decide)
    (ArI wA g (w.heap.size+1+1) w.heap.size (w.heap.size+1+1+1)) (ThrJ wA g) (itemL V)
    (fun s W W' l' d' n' h1 h2=>by
      obtain ⟨⟨us,va,vc,e,hK⟩,_⟩:=h1
      exact ⟨⟨us,va,vc,e,hK.on hs h2.oth⟩,_,_,_,h2.rd⟩)
    (fun s W h1=>by
      obtain ⟨⟨us,va,vc,e,hK⟩,l',d',n',hr'⟩:=h1
      exact ⟨l',d',n',hK.oth,hr'⟩)
    (fun s W l' n' h1 hlen hl' hn' hd' hr'=>by
      obtain ⟨⟨us,va,vc,rfl,hK⟩,_⟩:=h1
      rw [List.length_map] at hlen
      refine (item_anyj wA g _ _ _ _ rfl hs (d+1) V us va vc l' n' W hK hlen hr' (fun W' hr2 ho2=>hV hd' W' l' n' hl' hn' hr2 ?_)).mono fun _ _ h=>h.arI
      exact hb.trans (((Oth.of_below hbA).trans ho2).below hg0 hb.size))
    (fun s l' n' r hn' h=>itemL_len hE s l' n' r hn' h)
    [] rfl l n wB (fun args w=>by kernel_rfl) (by omega) (by omega) hn hl hx ⟨⟨[],none,0,rfl,hK0⟩,_,_,_,hrB⟩ hrB)
  have HYES:=Lib.hid (fun (q:List MT × List UInt8 × Nat) (h:loopL (itemL V) 93 (d+1) (l.length+1) 0 [] (skipL l).tail n=.inl q)=>arrL_yes h)
  have HNO:=Lib.hid (fun (x:Int) (h:loopL (itemL V) 93 (d+1) (l.length+1) 0 [] (skipL l).tail n=.inr x)=>arrL_no h)
  have HBB:=Lib.hid hbB
  have HLEN:=Lib.hid (fun (q:List MT × List UInt8 × Nat) (h:loopL (itemL V) 93 (d+1) (l.length+1) 0 [] (skipL l).tail n=.inl q)=>loopL_len (σ:=List MT) List.length (itemL_one (V:=V)) _ _ _ _ _ _ h rfl (Nat.zero_le _))
  have n0:¬ w.heap.size=w.heap.size+1:=by omega
  have c0:wB.cell? ⟨w.heap.size,0,none⟩=some (.pointer (some ⟨g,0,none⟩)):=hK0.cr
  have HW:=Lib.hid (hwB:wA.alloc _=wB)
  rw [← hwA] at HW
  have HSA:=Lib.hid hsA
  clear hwA hwB hbA hbB hsA hsB q0 q1 q2 hs hK0 hrB hE hV hb hr hx hl hn hg0 hd
  generalize hR:loopL (itemL V) 93 (d+1) (l.length+1) 0 [] (skipL l).tail n=R at *
  generalize arrL V d n l=RR at *
  clear hR
  go_enter Tryz.func49,Tryz.ntmps49
  go_wp2_with fail
  rw [HW.out]
  go_wp2_with fail
  refine KP.out.mono ?_
  intro r W hp
  unfold PartJ at hp
  cases R with
  | inr x =>
    obtain ⟨rfl,l',d',n',hj⟩:=hp
    have HX:=Lib.hid ((StJ.mk (Oth.of_below HAB.out |>.trans hj.oth) hj.rd:StJ g l' d' n' w W))
    clear hj KP
    go_wp2
    exact ⟨rfl,ValJ.no (HNO.out x rfl) ⟨rfl,_,_,_,HX.out⟩⟩
  | inl q =>
    obtain ⟨L,l',n'⟩:=q
    obtain ⟨rfl,⟨⟨us,va,vc,rfl,hK⟩,_⟩,hr'⟩:=hp
    have hb1:=(hK.oth.block (w.heap.size+1) (by have:=HSA.out;omega) (by omega)).trans HQ1.out
    have hci:=hK.ci
    have hst:StJ g l' d n' w W:=⟨(Oth.of_below HAB.out).trans hK.oth,hr'⟩
    have HFIN:=Lib.hid (arr_fin hst (b:=w.heap.size+1) (B:=w.heap.size+1+1+1) (by omega) (by omega) (by omega) (by omega) (hK.rep (by have:=HLEN.out _ rfl;simp only [List.length_map] at this;omega)) (.int .i64 6) (.bool false) (.bool false) (.slice none 0 0) (.int .i64 0) (.string ⟨#[]⟩) (.slice none 0 0) (.slice va us.length vc))
    have HOK:=Lib.hid (HYES.out _ rfl)
    have hne:¬ w.heap.size+1+1=w.heap.size+1:=by omega
    have hne2:¬ w.heap.size+1=w.heap.size+1+1:=by omega
    have y0:W.cell? ⟨w.heap.size+1,0,none⟩=some (.int .i64 0):=(box_cellsJ hb1 0 _ rfl).1
    have z0:=(box_cellsJ hb1 0 _ rfl).2
    have y1:W.cell? ⟨w.heap.size+1,1,none⟩=some (.bool false):=(box_cellsJ hb1 1 _ rfl).1
    have z1:=(box_cellsJ hb1 1 _ rfl).2
    have y2:W.cell? ⟨w.heap.size+1,2,none⟩=some (.bool false):=(box_cellsJ hb1 2 _ rfl).1
    have z2:=(box_cellsJ hb1 2 _ rfl).2
    have y3:W.cell? ⟨w.heap.size+1,3,none⟩=some (.slice none 0 0):=(box_cellsJ hb1 3 _ rfl).1
    have z3:=(box_cellsJ hb1 3 _ rfl).2
    have y4:W.cell? ⟨w.heap.size+1,4,none⟩=some (.int .i64 0):=(box_cellsJ hb1 4 _ rfl).1
    have z4:=(box_cellsJ hb1 4 _ rfl).2
    have y5:W.cell? ⟨w.heap.size+1,5,none⟩=some (.string ⟨#[]⟩):=(box_cellsJ hb1 5 _ rfl).1
    have z5:=(box_cellsJ hb1 5 _ rfl).2
    have y6:W.cell? ⟨w.heap.size+1,6,none⟩=some (.slice none 0 0):=(box_cellsJ hb1 6 _ rfl).1
    have z6:=(box_cellsJ hb1 6 _ rfl).2
    have y7:W.cell? ⟨w.heap.size+1,7,none⟩=some (.slice none 0 0):=(box_cellsJ hb1 7 _ rfl).1
    have z7:=(box_cellsJ hb1 7 _ rfl).2
    clear hb1 hK hr' hst KP c0
    generalize hnn:us.length=k at *
    have HNN:=Lib.hid hnn
    clear hnn
    go_wp2_with fail
    refine bodyPost_ret (v:=.agg #[.int .i64 6,.bool false,.bool false,.slice none 0 0,.int .i64 0,.string ⟨#[]⟩,.slice none 0 0,.slice va k vc]) (by simp [results,Tryz.results49,go_sem,y0,y1,y2,y3,y4,y5,y6,y7,hne,hne2]) rfl ?_
    exact ValJ.yes (arrT va k vc us) HOK.out rfl (by rw [arrT_bare];unfold barr;rw [List.length_map,HNN.out]) HFIN.out.1 HFIN.out.2
end Go.Proofs.YtijaphbccnadbaaGreatDoor
