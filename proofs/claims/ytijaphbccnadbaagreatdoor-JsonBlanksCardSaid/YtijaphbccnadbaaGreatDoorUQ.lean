/- Texts of the claim. -/
import Derived.Test.YtijaphbccnadbaaGreatDoorUP
import Derived.Test.YtijaphbccnadbaaGreatDoorUr
set_option linter.unusedVariables false
set_option linter.unusedSimpArgs false
set_option maxHeartbeats 200000
set_option maxRecDepth 100000
namespace Go.Proofs.YtijaphbccnadbaaGreatDoor
open Go.RowKit Go.Shelf
def iz (x:Int):Value:=.int .i64 x
def IntsV (w:World) (v:Value):Prop:=∃ (a:Option Addr) (n c:Nat) (xs:List Int),v=.slice a n c∧RdV w a (xs.map iz)∧xs.length=n∧n≤c∧n≤1000000∧∀ x∈xs,-9223372036854775808≤x∧x≤9223372036854775807
theorem IntsV.on {w w':World} {v:Value} (h:IntsV w v) (hb:Below w.heap.size w w'):IntsV w' v:=by
  obtain ⟨a,n,c,xs,h1,h2,h3⟩:=h
  exact ⟨a,n,c,xs,h1,h2.on hb,h3⟩
theorem intsV_nil (w:World):IntsV w (.slice none 0 0):=⟨none,0,0,[],rfl,RdV.nil _ _,rfl,Nat.le_refl _,by decide,nofun⟩
def smB (t:MT):Bool:=decide (t.m.length≤6) && (decide (t.c.s.size≤12) && t.k.all fun k=>decide (k.size≤3))
def fitB (t:MT):Bool:=soundB t && smB t
theorem fitB_sound {t:MT} (h:fitB t=true):soundB t=true:=by unfold fitB at h;rw [Bool.and_eq_true] at h;exact h.1
theorem fitB_small {t:MT} (h:fitB t=true):t.m.length≤6∧t.c.s.size≤12∧∀ k∈t.k,k.size≤3:=by
  unfold fitB smB at h
  simp only [Bool.and_eq_true,decide_eq_true_eq,List.all_eq_true] at h
  exact h.2
def Fit:Nat→MT→Prop
  | 0,t=>fitB t=true∧t.v=[]
  | d+1,t=>fitB t=true∧t.v.length≤3∧∀ s∈t.v,Fit d s
theorem Fit.own {d:Nat} {t:MT} (h:Fit d t):fitB t=true:=by cases d <;> exact h.1
theorem fit_leaf {d:Nat} {t:MT} (h:fitB t=true) (hv:t.v=[]):Fit d t:=by
  cases d
  · exact ⟨h,hv⟩
  · exact ⟨h,by rw [hv];exact Nat.zero_le _,by rw [hv];nofun⟩
theorem fit_nodes {d:Nat}:∀ {t:MT},Fit d t→t.nodes≤4 ^ d:=by
  induction d with
  | zero=>intro t h;rw [MT.nodes_eq,h.2,MT.nodesL_nil];decide
  | succ d ih =>
    intro t h
    rw [MT.nodes_eq]
    have key:∀ l:List MT,(∀ s∈l,Fit d s)→MT.nodesL l≤l.length*4 ^ d:=by
      intro l
      induction l with
      | nil=>intro _;rw [MT.nodesL_nil];exact Nat.zero_le _
      | cons t l ih2 =>
        intro hl
        have h1:=ih (hl t (by simp))
        have h2:=ih2 (fun s hs=>hl s (by simp [hs]))
        rw [MT.nodesL_cons,List.length_cons,Nat.add_mul]
        omega
    have h1:=key t.v h.2.2
    have h2:t.v.length*4 ^ d≤3*4 ^ d:=Nat.mul_le_mul_right _ h.2.1
    have h3:1≤4 ^ d:=Nat.pow_pos (by decide)
    rw [Nat.pow_succ]
    omega
theorem fit_pre {d:Nat}:∀ {t:MT} {k:Nat},Fit d t→∀ x∈t.pre k,x.1≤k+d∧soundB x.2=true:=by
  induction d with
  | zero =>
    intro t k h x hx
    rw [MT.pre_eq,h.2,MT.preL_nil,List.mem_singleton] at hx
    subst hx
    exact ⟨Nat.le_refl _,fitB_sound h.1⟩
  | succ d ih =>
    intro t k h x hx
    rw [MT.pre_eq,List.mem_cons] at hx
    rcases hx with rfl | hx
    · exact ⟨by simp,fitB_sound h.1⟩
    · obtain ⟨s,hs,hx⟩:=MT.mem_preL.1 hx
      have:=ih (h.2.2 s hs) x hx
      exact ⟨by omega,this.2⟩
theorem fit_check {d:Nat} {t:MT} (h:Fit d t) (hd:d≤5):checkB t=true:=by
  have h1:=fit_nodes h
  have h2:4 ^ d≤4 ^ 5:=Nat.pow_le_pow_right (by decide) hd
  unfold checkB
  rw [Bool.and_eq_true,decide_eq_true_eq,List.all_eq_true]
  refine ⟨by omega,fun x hx=>?_⟩
  have:=fit_pre h x hx
  rw [Bool.and_eq_true,decide_eq_true_eq]
  exact ⟨by omega,this.2⟩
def MadeP (d:Nat) (v:Value) (w:World) (e:Ending) (w':World):Prop :=
  ∃ t v',e=.returned (.tuple #[t.c.val,v'])∧Ind (fun k=>k<w.heap.size) w' (fun W=>Rep W t)∧Fit d t∧(∀ W,IntsV W v→IntsV W v')∧Below w.heap.size w w'
theorem intsV_tail {W:World} {b o n c:Nat} (hn:1≤n) (h:IntsV W (.slice (some ⟨b,o,none⟩) n c)) (hc:c ≠ 1):IntsV W (.slice (some ⟨b,o+1,none⟩) (n - 1) (c - 1)):=by
  obtain ⟨a,n',c',xs,e,h2,h3,h4,h5,h6⟩:=h
  cases e
  refine ⟨_,_,_,xs.drop 1,rfl,?_,by simp;omega,by omega,by omega,fun y hy=>h6 y (List.mem_of_mem_drop hy)⟩
  have:=h2.drop 1
  rwa [← List.map_drop] at this
theorem intsV_last {W:World} {b o n c:Nat} (h:IntsV W (.slice (some ⟨b,o,none⟩) n c)):IntsV W (.slice (some ⟨b,o,none⟩) 0 0) :=
  ⟨_,_,_,[],rfl,fun i hi=>by simp at hi,rfl,Nat.le_refl _,by decide,nofun⟩
theorem place_big (v n:Int) (w:World) (hv:-9223372036854775808≤v∧v≤9223372036854775807) (hn:0<n∧n≤100000000000) :
    Calls Tryz.prog 20 #[.int .i64 v,.int .i64 n] w fun e w'=>e=.returned (.int .i64 (v % n))∧w'=w:=by
  have h1:=Int.emod_nonneg v (show n ≠ 0 by omega)
  have h2:=Int.emod_lt_of_pos v hn.1
  have ht:v.tmod n=if 0≤v∨v % n=0 then v % n else v % n - n:=by
    rw [Int.tmod_eq_emod]
    by_cases h0:0≤v∨n ∣ v
    · rw [if_pos h0,if_pos (h0.imp id Int.emod_eq_zero_of_dvd)];omega
    · rw [if_neg h0,if_neg (fun h=>h0 (h.imp id Int.dvd_of_emod_eq_zero))];omega
  have hne:n ≠ 0:=by omega
  have hnb:(n == 0)=false:=by rw [beq_eq_false_iff_ne];exact hne
  generalize v % n=r at *
  by_cases hv0:0≤v∨r=0
  · rw [if_pos hv0] at ht
    have hlt:¬ (r<0):=by omega
    clear hv0
    go_enter Tryz.func20,Tryz.ntmps20
    go_wp2_with fail
    go_ret
    exact ⟨rfl,rfl⟩
  · rw [if_neg hv0] at ht
    clear hv0
    go_enter Tryz.func20,Tryz.ntmps20
    go_wp2_with fail
    go_ret
    exact ⟨rfl,rfl⟩
theorem made_end {d:Nat} {v0 u0:Value} {w W:World} {t:MT} {c:Cel} (hc:t.c=c) (hb:Below w.heap.size w W) (h1:∀ W,IntsV W v0→IntsV W u0) (hi:Ind (fun k=>k<w.heap.size∨k=w.heap.size) W (fun W=>Rep W t)) (hf:Fit d t) :
    MadeP d v0 w (.returned (.tuple #[c.val,u0])) (put0 W w.heap.size c):=by
  have hput:=put0_but W w.heap.size c
  refine ⟨t,u0,by rw [hc],?_,hf,h1,hb.trans (hput.below (Nat.le_refl _) hb.size)⟩
  exact hi.to hput.size (fun k hk hx=>hput.block k hk (fun e=>hx (.inr e))) (fun k hk hy=>.inl hy) (fun _ h=>h)
theorem made_leaf {d:Nat} {v0 u0:Value} {w W:World} (k:Int) (b:Bool) (s:ByteArray) (hb:Below w.heap.size w W) (h1:∀ W,IntsV W v0→IntsV W u0) (hk:-9223372036854775808≤k∧k≤9223372036854775807) (hs:s.size≤maxLen) (hf:fitB (leafT k b s)=true) :
    MadeP d v0 w (.returned (.tuple #[(leafC k b s).val,u0])) (put0 W w.heap.size (leafC k b s)) :=
  made_end (t:=leafT k b s) rfl hb h1 (fun W' _ _=>leafT_rep W' k b s hk hs) (fit_leaf hf rfl)
theorem made_num {d:Nat} {v0 u0:Value} {w W:World} {ng:Bool} {a:Option Addr} {n c:Nat} {xs:List Nat} {x:Int} (hb:Below w.heap.size w W) (h1:∀ W,IntsV W v0→IntsV W u0) (h:NewNum (w.heap.size+1) W ng a n c xs x) :
    MadeP d v0 w (.returned (.tuple #[(numC ng a n c x).val,u0])) (put0 W w.heap.size (numC ng a n c x)):=by
  have hbd:=chkB_bounds h.chk
  have hl:=h.len
  refine made_end (t:=numT ng a n c x xs) rfl hb h1 (fun W' h2 h3=>?_) (fit_leaf ?_ rfl)
  · exact numT_rep h.len h.cap (by omega) h.ok (ind_rd (X:=fun k=>k<w.heap.size∨k=w.heap.size) h.rd (fun a e hx=>by have:=(h.loc a e).1;omega) W' h2 h3) ⟨by omega,by omega⟩
  · have:soundB (numT ng a n c x xs)=(chkB ng xs x && blankB { numC ng a n c x with neg:=false,ma:=none,mn:=0,mc:=0,e:=0 }):=by
      unfold soundB numT;rfl
    unfold fitB smB
    rw [this,h.chk,show decide ((numT ng a n c x xs).m.length≤6)=true from decide_eq_true h.sm];rfl
theorem wpl_appT {w:World} {ops:Array Oper} {rest:List Oper} {o:Oper} {a:Act} {Q:Exit→Act→World→Prop} (hgd:o.guard=none) (s x:Operand)
    (ho:o.op=.call { callee:=.builtin .append,args:=#[s,x],argTypes:=#[26,26] }) (B:Nat) (v:Value) (n:Nat) (xs:List Value) (hs:a.eval s=v) (hown:w.ownsRow B 28 8 v n xs)
    (ad:Addr) (c:Nat) (y:Cel) (hx:a.eval x=.slice (some ad) 1 c) (hr:RdV w (some ad) y.cells) (hn:n≤1000000000) (hB:B≤w.heap.size)
    (h:∀ g cap w',w'.ownsRow B 28 8 (.slice (some ⟨g,0,none⟩) (n+1) cap) (n+1) (xs++y.cells)→w.grownBy w' v.ownBlock→(v.ownBlock=some g∨g=w.heap.size)→wpList Tryz.prog ops Q rest (a.put o.dst (.slice (some ⟨g,0,none⟩) (n+1) cap)) w') :
    wpList Tryz.prog ops Q (o::rest) a w:=by
  obtain ⟨i0,hi,hz0,hz1,hz2⟩:=info_parts info_tree
  refine wpList_append_lies w hgd s x 26 ho B 28 i0 zeroC.val 8 120 Tryz.underlying26 hi hz0 hz1 hz2 rfl (by decide) v n xs hs hown ad 1 c y.cells hx rfl ?_ (cel_one y) (by decide) (by unfold maxLen;omega) (by omega) hB _ rfl (fun g cap w' h1 h2 h3 _=>h g cap w' h1 h2 h3)
  intro j u hj
  have hjl:j<y.cells.length:=(List.getElem?_eq_some_iff.1 hj).1
  obtain ⟨b,o',e,_,hc⟩:=hr j hjl
  cases e
  have hadd:(⟨b,o',none⟩:Addr).add j=⟨b,o'+j,none⟩:=by unfold Addr.add;split <;> simp_all
  rw [hadd,hc,hj]
def AX (B:Nat) (v:Value) (k:Nat):Prop:=k<B∨v.ownBlock=some k
structure ArS (W8:World) (b8:Nat) (us:List MT) (va:Option Addr) (vc:Nat) (wr:World):Prop where
  but:But b8 W8 wr
  lt:b8<W8.heap.size
  box:BoxT wr b8 (arrC va us.length vc)
  ow:wr.ownsRow W8.heap.size 28 8 (.slice va us.length vc) us.length (flat (us.map MT.c))
  ind:Ind (AX W8.heap.size (.slice va us.length vc)) wr (fun W=>∀ x∈us,Rep W x)
theorem own_lt {w:World} {B:Nat} {e:TypeId} {size:Nat} {v:Value} {n:Nat} {xs:List Value} (h:w.ownsRow B e size v n xs) {k:Nat} (hk:v.ownBlock=some k):k<w.heap.size:=by
  obtain ⟨_,cs,h2⟩:=own_block h hk
  exact (Array.getElem?_eq_some_iff.1 h2).1
theorem ArS.step {W8 wr w1 w3 w5:World} {b8:Nat} {us:List MT} {x:MT} {va:Option Addr} {vc g cap:Nat} (h:ArS W8 b8 us va vc wr) (h1:Below wr.heap.size wr w1) (hx:Ind (fun k=>k<wr.heap.size) w1 (fun W=>Rep W x)) (h3:Below w1.heap.size w1 w3)
    (ho5:w5.ownsRow W8.heap.size 28 8 (.slice (some ⟨g,0,none⟩) (us.length+1) cap) (us.length+1) (flat (us.map MT.c)++x.c.cells)) (hg5:w3.grownBy w5 (Value.slice va us.length vc).ownBlock) (hor:(Value.slice va us.length vc).ownBlock=some g∨g=w3.heap.size) :
    ArS W8 b8 (us++[x]) (some ⟨g,0,none⟩) cap (w5.setCell ⟨b8,7,none⟩ (.slice (some ⟨g,0,none⟩) (us.length+1) cap)):=by
  have hown:∀ k,(Value.slice va us.length vc).ownBlock=some k→W8.heap.size≤k∧k<wr.heap.size:=fun k hk=>⟨(own_block h.ow hk).1,own_lt h.ow hk⟩
  have hs1:=h1.size;have hs3:=h3.size;have hs5:=hg5.size;have hlt:=h.lt;have hsw:=h.but.size
  have hgB:W8.heap.size≤g:=(own_block ho5 rfl).1
  have hset:∀ k,k ≠ b8→(w5.setCell ⟨b8,7,none⟩ (.slice (some ⟨g,0,none⟩) (us.length+1) cap)).heap[k]? = w5.heap[k]?:=fun k hk=>set_heap _ _ _ _ _ hk
  have hszs:(w5.setCell ⟨b8,7,none⟩ (.slice (some ⟨g,0,none⟩) (us.length+1) cap)).heap.size=w5.heap.size:=by simp [World.setCell]
  have hkeep:∀ k,k<w1.heap.size→(Value.slice va us.length vc).ownBlock ≠ some k→w5.heap[k]? = w1.heap[k]?:=fun k hk hne=>by
    rw [hg5.block k (by omega) (fun e=>hne e.symm),h3.block k hk]
  have hb3:Below wr.heap.size wr w3:=h1.trans (h3.mono hs1)
  have hbut5:But b8 W8 w5:=grow_but (B:=0) (h.but.trans (But.of_below hb3)) (own_onN h.ow hb3) hg5
  have hbox5:BoxT w5 b8 (arrC va us.length vc):=h.box.on (by
    rw [hkeep b8 (by have:=h.box.lt;omega) (fun e=>by have:=(hown _ e).1;omega),h1.block b8 h.box.lt])
  have hbox6:=box_set (w:=w5) hbox5 (some ⟨g,0,none⟩) (us.length+1) cap
  have e1:(us++[x]).length=us.length+1:=by simp
  have e2:flat ((us++[x]).map MT.c)=flat (us.map MT.c)++x.c.cells:=by simp [flat]
  refine ⟨hbut5.trans ((But.refl _ _).setCell _ _),hlt,by rw [e1];exact hbox6,?_,?_⟩
  · rw [e1,e2]
    exact own_heap ho5 (fun k hk=>hset k (by have:=(own_block ho5 hk).1;omega))
  · intro W hs hk y hy
    rw [hszs] at hs hk
    have hW:∀ k,k<w1.heap.size→W8.heap.size≤k→(Value.slice va us.length vc).ownBlock ≠ some k→W.heap[k]? = w1.heap[k]?:=fun k h1' h2' h3'=>by
      rw [hk k (by omega) (fun hx=>by
        rcases hx with hx | hx
        · omega
        · rw [e1] at hx
          simp only [Value.ownBlock,Option.some.injEq] at hx
          rcases hor with ho | ho
          · rw [hx] at ho;exact h3' ho
          · omega),hset k (by omega),hkeep k h1' h3']
    rcases List.mem_append.1 hy with hy | hy
    · exact h.ind W (by omega) (fun k hk1 hk2=>by
        rw [hW k (by omega) (Nat.le_of_not_lt (fun h=>hk2 (.inl h))) (fun e=>hk2 (.inr e)),h1.block k hk1]) y hy
    · rw [List.mem_singleton.1 hy]
      exact hx W (by omega) (fun k hk1 hk2=>hW k hk1 (by omega) (fun e=>by have:=(hown k e).2;omega))
theorem ArS.mid {W8 wr w1 w3 w5:World} {b8:Nat} {us:List MT} {va:Option Addr} {vc:Nat} (h:ArS W8 b8 us va vc wr) (h1:Below wr.heap.size wr w1) (h3:Below w1.heap.size w1 w3) (hg5:w3.grownBy w5 (Value.slice va us.length vc).ownBlock):BoxT w5 b8 (arrC va us.length vc):=by
  have hs1:=h1.size;have hs3:=h3.size;have hlt:=h.box.lt;have hl8:=h.lt
  refine h.box.on ?_
  rw [hg5.block b8 (by omega) (fun e=>by have:=(own_block h.ow e.symm).1;omega),h3.block b8 (by omega),h1.block b8 hlt]
theorem rdv_two (w:World) (o:Obj) (cs:List Value) (e:TypeId):RdV ((w.alloc o).alloc (.cells cs.toArray e)) (some ⟨w.heap.size+1,0,none⟩) cs:=by
  have:=rdv_new (w.alloc o) cs e
  rwa [World.size_alloc] at this
theorem below_two (w:World) (o o2:Obj):Below w.heap.size w ((w.alloc o).alloc o2):=((Below.refl _ _).alloc (Nat.le_refl _) _).alloc (by simp) _
def ARL (W8:World) (b8:Nat) (v0:Value) (d m g:Nat) (u iv:Value) (wr:World):Prop :=
  ∃ us va vc,us.length≤m∧m - us.length≤g∧iv=.int .i64 (us.length:Int)∧(∀ W,IntsV W v0→IntsV W u)∧ArS W8 b8 us va vc wr∧∀ x∈us,Fit d x
theorem arr_end {d d':Nat} {v0 u0:Value} {w W8 W:World} {b8:Nat} {us:List MT} {va:Option Addr} {vc:Nat} (hd:d=d'+1) (hb:Below w.heap.size w W8) (hb8:w.heap.size<b8) (h1:∀ W,IntsV W v0→IntsV W u0) (h:ArS W8 b8 us va vc W) (hl:us.length≤3) (hf:∀ x∈us,Fit d' x) :
    MadeP d v0 w (.returned (.tuple #[(arrC va us.length vc).val,u0])) (put0 W w.heap.size (arrC va us.length vc)):=by
  subst hd
  obtain ⟨_,_,e,hvc,hvr,_,hva,_⟩:=own_viewN h.ow
  cases e
  have hs:=h.but.size;have hlt:=h.lt;have hsb:=hb.size
  refine made_end (t:=arrT va us.length vc us) rfl (hb.trans (h.but.below (by omega) hb.size)) h1 ?_ ⟨?_,hl,hf⟩
  · intro W' q1 q2
    refine arrT_rep rfl hvc (by omega) (ind_rdv (X:=fun k=>k<w.heap.size∨k=w.heap.size) hvr (fun a e hx=>by have:=(hva a e).1;omega) W' q1 q2) ?_
    exact h.ind W' q1 (fun k hk1 hk2=>q2 k hk1 (fun hx=>hk2 (.inl (by omega))))
  · have:soundB (arrT va us.length vc us)=(decide (us.length≤300) && blankB { arrC va us.length vc with va:=none,vn:=0,vc:=0 }):=by
      unfold soundB arrT;rfl
    unfold fitB smB
    rw [this,decide_eq_true (by omega)];rfl
end Go.Proofs.YtijaphbccnadbaaGreatDoor
