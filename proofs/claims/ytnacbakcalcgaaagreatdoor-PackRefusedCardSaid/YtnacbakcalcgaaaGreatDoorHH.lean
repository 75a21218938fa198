/- Texts of the claim. -/
import Derived.Test.YtnacbakcalcgaaaGreatDoorHG
set_option linter.unusedVariables false
set_option linter.unusedSimpArgs false
set_option maxHeartbeats 200000
set_option maxRecDepth 100000
namespace Go.Proofs.YtnacbakcalcgaaaGreatDoor
open Go.RowKit Go.Shelf
def iz (x:Int):Value:=.int .i64 x
def IntsV (w:World) (v:Value):Prop:=∃ (a:Option Addr) (n c:Nat) (xs:List Int),v=.slice a n c∧RdV w a (xs.map iz)∧xs.length=n∧n≤c∧n≤1000000∧∀ x∈xs,-9223372036854775808≤x∧x≤9223372036854775807
theorem IntsV.on {w w':World} {v:Value} (h:IntsV w v) (hb:Below w.heap.size w w'):IntsV w' v:=by
  obtain ⟨a,n,c,xs,h1,h2,h3⟩:=h
  exact ⟨a,n,c,xs,h1,h2.on hb,h3⟩
theorem intsV_nil (w:World):IntsV w (.slice none 0 0):=⟨none,0,0,[],rfl,RdV.nil _ _,rfl,Nat.le_refl _,by decide,nofun⟩
def smB (t:MT):Bool:=decide (t.m.length≤6) && (decide (t.c.s.size≤12) && t.k.all fun k=>decide (k.size≤3))
def fitB (t:MT):Bool:=soundB t && smB t
theorem fitB_sound {t:MT} (h:fitB t=true):soundB t=true:=by unfold fitB at h;rw [Bool.and_eq_true] at h;exact h.1
theorem fitB_small {t:MT} (h:fitB t=true):t.m.length≤6∧t.c.s.size≤12∧∀ k∈t.k,k.size≤3:=by
  unfold fitB smB at h
  simp only [Bool.and_eq_true,decide_eq_true_eq,List.all_eq_true] at h
  exact h.2
def Fit:Nat→MT→Prop
  | 0,t=>fitB t=true∧t.v=[]
  | d+1,t=>fitB t=true∧t.v.length≤3∧∀ s∈t.v,Fit d s
theorem Fit.sound {d:Nat} {t:MT} (h:Fit d t):soundB t=true:=by cases d <;> exact fitB_sound h.1
theorem Fit.own {d:Nat} {t:MT} (h:Fit d t):fitB t=true:=by cases d <;> exact h.1
theorem fit_leaf {d:Nat} {t:MT} (h:fitB t=true) (hv:t.v=[]):Fit d t:=by
  cases d
  · exact ⟨h,hv⟩
  · exact ⟨h,by rw [hv];exact Nat.zero_le _,by rw [hv];nofun⟩
theorem fit_nodes {d:Nat}:∀ {t:MT},Fit d t→t.nodes≤4 ^ d:=by
  induction d with
  | zero=>intro t h;rw [MT.nodes_eq,h.2,MT.nodesL_nil];decide
  | succ d ih =>
    intro t h
    rw [MT.nodes_eq]
    have key:∀ l:List MT,(∀ s∈l,Fit d s)→MT.nodesL l≤l.length*4 ^ d:=by
      intro l
      induction l with
      | nil=>intro _;rw [MT.nodesL_nil];exact Nat.zero_le _
      | cons t l ih2 =>
        intro hl
        have h1:=ih (hl t (by simp))
        have h2:=ih2 (fun s hs=>hl s (by simp [hs]))
        rw [MT.nodesL_cons,List.length_cons,Nat.add_mul]
        omega
    have h1:=key t.v h.2.2
    have h2:t.v.length*4 ^ d≤3*4 ^ d:=Nat.mul_le_mul_right _ h.2.1
    have h3:1≤4 ^ d:=Nat.pow_pos (by decide)
    rw [Nat.pow_succ]
    omega
theorem fit_pre {d:Nat}:∀ {t:MT} {k:Nat},Fit d t→∀ x∈t.pre k,x.1≤k+d∧soundB x.2=true:=by
  induction d with
  | zero =>
    intro t k h x hx
    rw [MT.pre_eq,h.2,MT.preL_nil,List.mem_singleton] at hx
    subst hx
    exact ⟨Nat.le_refl _,fitB_sound h.1⟩
  | succ d ih =>
    intro t k h x hx
    rw [MT.pre_eq,List.mem_cons] at hx
    rcases hx with rfl | hx
    · exact ⟨by simp,fitB_sound h.1⟩
    · obtain ⟨s,hs,hx⟩:=MT.mem_preL.1 hx
      have:=ih (h.2.2 s hs) x hx
      exact ⟨by omega,this.2⟩
theorem fit_check {d:Nat} {t:MT} (h:Fit d t) (hd:d≤5):checkB t=true:=by
  have h1:=fit_nodes h
  have h2:4 ^ d≤4 ^ 5:=Nat.pow_le_pow_right (by decide) hd
  unfold checkB
  rw [Bool.and_eq_true,decide_eq_true_eq,List.all_eq_true]
  refine ⟨by omega,fun x hx=>?_⟩
  have:=fit_pre h x hx
  rw [Bool.and_eq_true,decide_eq_true_eq]
  exact ⟨by omega,this.2⟩
def MadeP (d:Nat) (v:Value) (w:World) (e:Ending) (w':World):Prop :=
  ∃ t v',e=.returned (.tuple #[t.c.val,v'])∧Ind (fun k=>k<w.heap.size) w' (fun W=>Rep W t)∧Fit d t∧(∀ W,IntsV W v→IntsV W v')∧Below w.heap.size w w'
theorem intsV_tail {W:World} {b o n c:Nat} (hn:1≤n) (h:IntsV W (.slice (some ⟨b,o,none⟩) n c)) (hc:c ≠ 1):IntsV W (.slice (some ⟨b,o+1,none⟩) (n - 1) (c - 1)):=by
  obtain ⟨a,n',c',xs,e,h2,h3,h4,h5,h6⟩:=h
  cases e
  refine ⟨_,_,_,xs.drop 1,rfl,?_,by simp;omega,by omega,by omega,fun y hy=>h6 y (List.mem_of_mem_drop hy)⟩
  have:=h2.drop 1
  rwa [← List.map_drop] at this
theorem intsV_last {W:World} {b o n c:Nat} (h:IntsV W (.slice (some ⟨b,o,none⟩) n c)):IntsV W (.slice (some ⟨b,o,none⟩) 0 0) :=
  ⟨_,_,_,[],rfl,fun i hi=>by simp at hi,rfl,Nat.le_refl _,by decide,nofun⟩
theorem place_big (v n:Int) (w:World) (hv:-9223372036854775808≤v∧v≤9223372036854775807) (hn:0<n∧n≤100000000000) :
    Calls Tryz.prog 21 #[.int .i64 v,.int .i64 n] w fun e w'=>e=.returned (.int .i64 (v % n))∧w'=w:=by
  have h1:=Int.emod_nonneg v (show n ≠ 0 by omega)
  have h2:=Int.emod_lt_of_pos v hn.1
  have ht:v.tmod n=if 0≤v∨v % n=0 then v % n else v % n - n:=by
    rw [Int.tmod_eq_emod]
    by_cases h0:0≤v∨n ∣ v
    · rw [if_pos h0,if_pos (h0.imp id Int.emod_eq_zero_of_dvd)];omega
    · rw [if_neg h0,if_neg (fun h=>h0 (h.imp id Int.dvd_of_emod_eq_zero))];omega
  have hne:n ≠ 0:=by omega
  have hnb:(n == 0)=false:=by rw [beq_eq_false_iff_ne];exact hne
  generalize v % n=r at *
  by_cases hv0:0≤v∨r=0
  · rw [if_pos hv0] at ht
    have hlt:¬ (r<0):=by omega
    clear hv0
    go_enter Tryz.func21,Tryz.ntmps21
    go_wp2_with fail
    go_ret
    exact ⟨rfl,rfl⟩
  · rw [if_neg hv0] at ht
    clear hv0
    go_enter Tryz.func21,Tryz.ntmps21
    go_wp2_with fail
    go_ret
    exact ⟨rfl,rfl⟩
theorem made_end {d:Nat} {v0 u0:Value} {w W:World} {t:MT} {c:Cel} (hc:t.c=c) (hb:Below w.heap.size w W) (h1:∀ W,IntsV W v0→IntsV W u0) (hi:Ind (fun k=>k<w.heap.size∨k=w.heap.size) W (fun W=>Rep W t)) (hf:Fit d t) :
    MadeP d v0 w (.returned (.tuple #[c.val,u0])) (put0 W w.heap.size c):=by
  have hput:=put0_but W w.heap.size c
  refine ⟨t,u0,by rw [hc],?_,hf,h1,hb.trans (hput.below (Nat.le_refl _) hb.size)⟩
  exact hi.to hput.size (fun k hk hx=>hput.block k hk (fun e=>hx (.inr e))) (fun k hk hy=>.inl hy) (fun _ h=>h)
theorem made_leaf {d:Nat} {v0 u0:Value} {w W:World} (k:Int) (b:Bool) (s:ByteArray) (hb:Below w.heap.size w W) (h1:∀ W,IntsV W v0→IntsV W u0) (hk:-9223372036854775808≤k∧k≤9223372036854775807) (hs:s.size≤maxLen) (hf:fitB (leafT k b s)=true) :
    MadeP d v0 w (.returned (.tuple #[(leafC k b s).val,u0])) (put0 W w.heap.size (leafC k b s)) :=
  made_end (t:=leafT k b s) rfl hb h1 (fun W' _ _=>leafT_rep W' k b s hk hs) (fit_leaf hf rfl)
theorem made_num {d:Nat} {v0 u0:Value} {w W:World} {ng:Bool} {a:Option Addr} {n c:Nat} {xs:List Nat} {x:Int} (hb:Below w.heap.size w W) (h1:∀ W,IntsV W v0→IntsV W u0) (h:NewNum (w.heap.size+1) W ng a n c xs x) :
    MadeP d v0 w (.returned (.tuple #[(numC ng a n c x).val,u0])) (put0 W w.heap.size (numC ng a n c x)):=by
  have hbd:=chkB_bounds h.chk
  have hl:=h.len
  refine made_end (t:=numT ng a n c x xs) rfl hb h1 (fun W' h2 h3=>?_) (fit_leaf ?_ rfl)
  · exact numT_rep h.len h.cap (by omega) h.ok (ind_rd (X:=fun k=>k<w.heap.size∨k=w.heap.size) h.rd (fun a e hx=>by have:=(h.loc a e).1;omega) W' h2 h3) ⟨by omega,by omega⟩
  · have:soundB (numT ng a n c x xs)=(chkB ng xs x && blankB { numC ng a n c x with neg:=false,ma:=none,mn:=0,mc:=0,e:=0 }):=by
      unfold soundB numT;rfl
    unfold fitB smB
    rw [this,h.chk,show decide ((numT ng a n c x xs).m.length≤6)=true from decide_eq_true h.sm];rfl
theorem wpl_appT {w:World} {ops:Array Oper} {rest:List Oper} {o:Oper} {a:Act} {Q:Exit→Act→World→Prop} (hgd:o.guard=none) (s x:Operand)
    (ho:o.op=.call { callee:=.builtin .append,args:=#[s,x],argTypes:=#[27,27] }) (B:Nat) (v:Value) (n:Nat) (xs:List Value) (hs:a.eval s=v) (hown:w.ownsRow B 29 8 v n xs)
    (ad:Addr) (c:Nat) (y:Cel) (hx:a.eval x=.slice (some ad) 1 c) (hr:RdV w (some ad) y.cells) (hn:n≤1000000000) (hB:B≤w.heap.size)
    (h:∀ g cap w',w'.ownsRow B 29 8 (.slice (some ⟨g,0,none⟩) (n+1) cap) (n+1) (xs++y.cells)→w.grownBy w' v.ownBlock→(v.ownBlock=some g∨g=w.heap.size)→wpList Tryz.prog ops Q rest (a.put o.dst (.slice (some ⟨g,0,none⟩) (n+1) cap)) w') :
    wpList Tryz.prog ops Q (o::rest) a w:=by
  obtain ⟨i0,hi,hz0,hz1,hz2⟩:=info_parts info_tree
  refine wpList_append_lies w hgd s x 27 ho B 29 i0 zeroC.val 8 120 Tryz.underlying27 hi hz0 hz1 hz2 rfl (by decide) v n xs hs hown ad 1 c y.cells hx rfl ?_ (cel_one y) (by decide) (by unfold maxLen;omega) (by omega) hB _ rfl (fun g cap w' h1 h2 h3 _=>h g cap w' h1 h2 h3)
  intro j u hj
  have hjl:j<y.cells.length:=(List.getElem?_eq_some_iff.1 hj).1
  obtain ⟨b,o',e,_,hc⟩:=hr j hjl
  cases e
  have hadd:(⟨b,o',none⟩:Addr).add j=⟨b,o'+j,none⟩:=by unfold Addr.add;split <;> simp_all
  rw [hadd,hc,hj]
def AX (B:Nat) (v:Value) (k:Nat):Prop:=k<B∨v.ownBlock=some k
structure ArS (W8:World) (b8:Nat) (us:List MT) (va:Option Addr) (vc:Nat) (wr:World):Prop where
  but:But b8 W8 wr
  lt:b8<W8.heap.size
  box:BoxT wr b8 (arrC va us.length vc)
  ow:wr.ownsRow W8.heap.size 29 8 (.slice va us.length vc) us.length (flat (us.map MT.c))
  ind:Ind (AX W8.heap.size (.slice va us.length vc)) wr (fun W=>∀ x∈us,Rep W x)
theorem own_lt {w:World} {B:Nat} {e:TypeId} {size:Nat} {v:Value} {n:Nat} {xs:List Value} (h:w.ownsRow B e size v n xs) {k:Nat} (hk:v.ownBlock=some k):k<w.heap.size:=by
  obtain ⟨_,cs,h2⟩:=own_block h hk
  exact (Array.getElem?_eq_some_iff.1 h2).1
theorem ArS.step {W8 wr w1 w3 w5:World} {b8:Nat} {us:List MT} {x:MT} {va:Option Addr} {vc g cap:Nat} (h:ArS W8 b8 us va vc wr) (h1:Below wr.heap.size wr w1) (hx:Ind (fun k=>k<wr.heap.size) w1 (fun W=>Rep W x)) (h3:Below w1.heap.size w1 w3)
    (ho5:w5.ownsRow W8.heap.size 29 8 (.slice (some ⟨g,0,none⟩) (us.length+1) cap) (us.length+1) (flat (us.map MT.c)++x.c.cells)) (hg5:w3.grownBy w5 (Value.slice va us.length vc).ownBlock) (hor:(Value.slice va us.length vc).ownBlock=some g∨g=w3.heap.size) :
    ArS W8 b8 (us++[x]) (some ⟨g,0,none⟩) cap (w5.setCell ⟨b8,7,none⟩ (.slice (some ⟨g,0,none⟩) (us.length+1) cap)):=by
  have hown:∀ k,(Value.slice va us.length vc).ownBlock=some k→W8.heap.size≤k∧k<wr.heap.size:=fun k hk=>⟨(own_block h.ow hk).1,own_lt h.ow hk⟩
  have hs1:=h1.size;have hs3:=h3.size;have hs5:=hg5.size;have hlt:=h.lt;have hsw:=h.but.size
  have hgB:W8.heap.size≤g:=(own_block ho5 rfl).1
  have hset:∀ k,k ≠ b8→(w5.setCell ⟨b8,7,none⟩ (.slice (some ⟨g,0,none⟩) (us.length+1) cap)).heap[k]? = w5.heap[k]?:=fun k hk=>set_heap _ _ _ _ _ hk
  have hszs:(w5.setCell ⟨b8,7,none⟩ (.slice (some ⟨g,0,none⟩) (us.length+1) cap)).heap.size=w5.heap.size:=by simp [World.setCell]
  have hkeep:∀ k,k<w1.heap.size→(Value.slice va us.length vc).ownBlock ≠ some k→w5.heap[k]? = w1.heap[k]?:=fun k hk hne=>by
    rw [hg5.block k (by omega) (fun e=>hne e.symm),h3.block k hk]
  have hb3:Below wr.heap.size wr w3:=h1.trans (h3.mono hs1)
  have hbut5:But b8 W8 w5:=grow_but (B:=0) (h.but.trans (But.of_below hb3)) (own_onN h.ow hb3) hg5
  have hbox5:BoxT w5 b8 (arrC va us.length vc):=h.box.on (by
    rw [hkeep b8 (by have:=h.box.lt;omega) (fun e=>by have:=(hown _ e).1;omega),h1.block b8 h.box.lt])
  have hbox6:=box_set (w:=w5) hbox5 (some ⟨g,0,none⟩) (us.length+1) cap
  have e1:(us++[x]).length=us.length+1:=by simp
  have e2:flat ((us++[x]).map MT.c)=flat (us.map MT.c)++x.c.cells:=by simp [flat]
  refine ⟨hbut5.trans ((But.refl _ _).setCell _ _),hlt,by rw [e1];exact hbox6,?_,?_⟩
  · rw [e1,e2]
    exact own_heap ho5 (fun k hk=>hset k (by have:=(own_block ho5 hk).1;omega))
  · intro W hs hk y hy
    rw [hszs] at hs hk
    have hW:∀ k,k<w1.heap.size→W8.heap.size≤k→(Value.slice va us.length vc).ownBlock ≠ some k→W.heap[k]? = w1.heap[k]?:=fun k h1' h2' h3'=>by
      rw [hk k (by omega) (fun hx=>by
        rcases hx with hx | hx
        · omega
        · rw [e1] at hx
          simp only [Value.ownBlock,Option.some.injEq] at hx
          rcases hor with ho | ho
          · rw [hx] at ho;exact h3' ho
          · omega),hset k (by omega),hkeep k h1' h3']
    rcases List.mem_append.1 hy with hy | hy
    · exact h.ind W (by omega) (fun k hk1 hk2=>by
        rw [hW k (by omega) (Nat.le_of_not_lt (fun h=>hk2 (.inl h))) (fun e=>hk2 (.inr e)),h1.block k hk1]) y hy
    · rw [List.mem_singleton.1 hy]
      exact hx W (by omega) (fun k hk1 hk2=>hW k hk1 (by omega) (fun e=>by have:=(hown k e).2;omega))
theorem ArS.mid {W8 wr w1 w3 w5:World} {b8:Nat} {us:List MT} {va:Option Addr} {vc:Nat} (h:ArS W8 b8 us va vc wr) (h1:Below wr.heap.size wr w1) (h3:Below w1.heap.size w1 w3) (hg5:w3.grownBy w5 (Value.slice va us.length vc).ownBlock):BoxT w5 b8 (arrC va us.length vc):=by
  have hs1:=h1.size;have hs3:=h3.size;have hlt:=h.box.lt;have hl8:=h.lt
  refine h.box.on ?_
  rw [hg5.block b8 (by omega) (fun e=>by have:=(own_block h.ow e.symm).1;omega),h3.block b8 (by omega),h1.block b8 hlt]
theorem rdv_two (w:World) (o:Obj) (cs:List Value) (e:TypeId):RdV ((w.alloc o).alloc (.cells cs.toArray e)) (some ⟨w.heap.size+1,0,none⟩) cs:=by
  have:=rdv_new (w.alloc o) cs e
  rwa [World.size_alloc] at this
theorem below_two (w:World) (o o2:Obj):Below w.heap.size w ((w.alloc o).alloc o2):=((Below.refl _ _).alloc (Nat.le_refl _) _).alloc (by simp) _
def ARL (W8:World) (b8:Nat) (v0:Value) (d m g:Nat) (u iv:Value) (wr:World):Prop :=
  ∃ us va vc,us.length≤m∧m - us.length≤g∧iv=.int .i64 (us.length:Int)∧(∀ W,IntsV W v0→IntsV W u)∧ArS W8 b8 us va vc wr∧∀ x∈us,Fit d x
theorem arr_end {d d':Nat} {v0 u0:Value} {w W8 W:World} {b8:Nat} {us:List MT} {va:Option Addr} {vc:Nat} (hd:d=d'+1) (hb:Below w.heap.size w W8) (hb8:w.heap.size<b8) (h1:∀ W,IntsV W v0→IntsV W u0) (h:ArS W8 b8 us va vc W) (hl:us.length≤3) (hf:∀ x∈us,Fit d' x) :
    MadeP d v0 w (.returned (.tuple #[(arrC va us.length vc).val,u0])) (put0 W w.heap.size (arrC va us.length vc)):=by
  subst hd
  obtain ⟨_,_,e,hvc,hvr,_,hva,_⟩:=own_viewN h.ow
  cases e
  have hs:=h.but.size;have hlt:=h.lt;have hsb:=hb.size
  refine made_end (t:=arrT va us.length vc us) rfl (hb.trans (h.but.below (by omega) hb.size)) h1 ?_ ⟨?_,hl,hf⟩
  · intro W' q1 q2
    refine arrT_rep rfl hvc (by omega) (ind_rdv (X:=fun k=>k<w.heap.size∨k=w.heap.size) hvr (fun a e hx=>by have:=(hva a e).1;omega) W' q1 q2) ?_
    exact h.ind W' q1 (fun k hk1 hk2=>q2 k hk1 (fun hx=>hk2 (.inl (by omega))))
  · have:soundB (arrT va us.length vc us)=(decide (us.length≤300) && blankB { arrC va us.length vc with va:=none,vn:=0,vc:=0 }):=by
      unfold soundB arrT;rfl
    unfold fitB smB
    rw [this,decide_eq_true (by omega)];rfl
end Go.Proofs.YtnacbakcalcgaaaGreatDoor
namespace Go.Proofs.YtnacbakcalcgaaaGreatDoor
open Go.RowKit Go.Lib Go.Sort
theorem fit_kids {d:Nat} {t:MT} (h:Fit d t):t.v.length≤3∧∀ s∈t.v,∃ d',d=d'+1∧Fit d' s:=by
  cases d with
  | zero=>rw [h.2];exact ⟨by decide,nofun⟩
  | succ d=>exact ⟨h.2.1,fun s hs=>⟨d,rfl,h.2.2 s hs⟩⟩
theorem head_146 (r:List Nat):pkHead (146::r)=.inl ((9,2),r):=by
  have:=head_mput (k:=9) (x:=2) (by omega) (okX_small (by omega) (by omega)) r
  rw [show mput ((9:Nat):Int) 2=[146] from by decide] at this
  exact this
theorem pairP_bad {t:MT} {p x:List Nat} {y:Int} (hs:SndC t 2) (hc:CohC t) (hp:encP t=some p) (hn:t.nodes≤1000) (hl:(p++x).length≤32000) (hx:pkValue 64 x (1+t.nodes)=.inr y):pkDecode (146::(p++x))=.inr y:=by
  unfold pkDecode
  rw [if_neg (by simp only [List.length_cons];omega)]
  rw [valP_on (head_146 _) (by decide) (by decide)]
  unfold pkBehind
  simp only
  rw [if_neg (by decide),if_neg (by decide),if_neg (by decide),if_neg (by decide),if_neg (by decide),if_neg (by decide),if_neg (by decide),if_neg (by decide),if_neg (by decide),if_pos trivial]
  unfold pkArr
  rw [if_neg (by decide)]
  have h1:=valP_enc t 63 2 rfl hs hc 1 x p hp (by omega)
  rw [show (63+1:Nat)=64 from rfl] at h1
  rw [show (0+1:Nat)=1 from rfl,pkItems,h1]
  simp only
  rw [pkItems,hx]
theorem twiceP_bad {t:MT} {p:List Nat} (h:checkB t=true) (hc:CohC t) (hp:encP t=some p) (hl:(p++p).length≤32000):pkDecode (p++p)=.inr 2:=by
  obtain ⟨hs,hn⟩:=SndC.of h
  by_cases h0:p=[]
  · subst h0;exact pkDecode_nil
  · have:=valP_enc t 64 1 rfl hs hc 0 p p hp (by omega)
    rw [show (64+1:Nat)=65 from rfl] at this
    unfold pkDecode
    rw [if_neg (by omega),this]
    simp only
    rw [if_neg h0]
theorem valP_bad {f n:Nat} {l r:List Nat} {h:HdM} {y:Int} (hn:n<2000) (hf:f ≠ 0) (h1:pkHead l=.inl (h,r)) (h2:∀ V:List Nat→Nat→RC MT,∀ m,pkBehind V h r m=.inr y):pkValue (f+1) l n=.inr y:=by
  rw [valP_on h1 hn hf]
  exact h2 _ _
theorem valP_headbad {f n:Nat} {l:List Nat} {y:Int} (h1:pkHead l=.inr y):pkValue (f+1) l n=.inr y:=by
  rw [pkValue,h1]
def refP:List ByteArray:=[⟨#[193]⟩,⟨#[212,1,2]⟩,⟨#[202,127,128,0,0]⟩,⟨#[203,127,248,0,0,0,0,0,0]⟩,⟨#[129,1,2]⟩,⟨#[]⟩,⟨#[161,255]⟩,⟨#[205,1]⟩,⟨#[130,161,97,1,161,97,2]⟩]
theorem refP_of (n:Nat) (hn:n<1990) (u:Nat) (hu:u<9):pkValue 64 (strN (refP.getD u ⟨#[]⟩)) n=.inr (if u<5 then 3 else 2):=by
  have:u=0∨u=1∨u=2∨u=3∨u=4∨u=5∨u=6∨u=7∨u=8:=by omega
  rcases this with rfl | rfl | rfl | rfl | rfl | rfl | rfl | rfl | rfl
  · exact valP_headbad (f:=63) (by kernel_rfl)
  · exact valP_bad (h:=(11,1)) (r:=[2]) (by omega) (by decide) (by kernel_rfl) (fun V m=>by rfl)
  · exact valP_bad (h:=(12,2139095040)) (r:=[]) (by omega) (by decide) (by kernel_rfl) (fun V m=>by kernel_rfl)
  · exact valP_bad (h:=(6,9221120237041090560)) (r:=[]) (by omega) (by decide) (by kernel_rfl) (fun V m=>by kernel_rfl)
  · exact valP_bad (h:=(10,1)) (r:=[1,2]) (by omega) (by decide) (by kernel_rfl) (fun V m=>by rfl)
  · exact valP_headbad (f:=63) (by kernel_rfl)
  · exact valP_bad (h:=(7,1)) (r:=[255]) (by omega) (by decide) (by kernel_rfl) (fun V m=>by rfl)
  · exact valP_headbad (f:=63) (by kernel_rfl)
  · show pkValue 64 [130,161,97,1,161,97,2] n=.inr 2
    rw [valP_on (h:=(10,2)) (r:=[161,97,1,161,97,2]) (by kernel_rfl) (by omega) (by decide)]
    have v1:∀ m r,m<2000→pkValue 63 (1::r) m=.inl (bnumC (false,1,0),r,m+1):=fun m r hm=>by
      have hh:=head_mput (k:=4) (x:=1) (by omega) ⟨fun h=>by omega,fun h=>by omega,fun h=>by omega,by omega⟩ r
      rw [show mput ((4:Nat):Int) 1=[1] from by decide] at hh
      exact (valP_on (show pkHead (1::r)=_ from hh) hm (by decide)).trans rfl
    have v2:∀ m r,m<2000→pkValue 63 (2::r) m=.inl (bnumC (false,2,0),r,m+1):=fun m r hm=>by
      have hh:=head_mput (k:=4) (x:=2) (by omega) ⟨fun h=>by omega,fun h=>by omega,fun h=>by omega,by omega⟩ r
      rw [show mput ((4:Nat):Int) 2=[2] from by decide] at hh
      exact (valP_on (show pkHead (2::r)=_ from hh) hm (by decide)).trans rfl
    have n1:pkName [161,97,1,161,97,2]=.inl ([97],[1,161,97,2]):=by kernel_rfl
    have n2:pkName [161,97,2]=.inl ([97],[2]):=by kernel_rfl
    have hm:pkMembers (pkValue 63) 2 [] [] [161,97,1,161,97,2] (n+1)=.inl (([⟨#[97]⟩,⟨#[97]⟩],[bnumC (false,1,0),bnumC (false,2,0)]),[],n+3):=by
      rw [pkMembers,n1]
      simp only
      rw [v1 (n+1) _ (by omega)]
      simp only
      rw [pkMembers,n2]
      simp only
      rw [v2 (n+1+1) _ (by omega)]
      rfl
    unfold pkBehind
    simp only
    rw [if_neg (by decide),if_neg (by decide),if_neg (by decide),if_neg (by decide),if_neg (by decide),if_neg (by decide),if_neg (by decide),if_neg (by decide),if_neg (by decide),if_neg (by decide),if_pos trivial]
    unfold pkObj
    rw [if_neg (by decide),hm]
    simp only
    rw [if_neg (by decide)]
theorem catP_bd:∀ {ps:List (Option (List Nat))} {q:List Nat} {C:Nat},(∀ p,some p∈ps→p.length≤C)→catP ps=some q→q.length≤ps.length*C:=by
  intro ps
  induction ps with
  | nil=>intro q C _ h;simp only [catP,Option.some.injEq] at h;subst h;simp
  | cons o r ih =>
    intro q C hp h
    obtain ⟨p,q2,rfl,h2,rfl⟩:=catP_cons h
    have h1:=hp p (by simp)
    have h3:=ih (fun p hp'=>hp p (by simp [hp'])) h2
    rw [List.length_append,List.length_cons,Nat.add_mul]
    omega
theorem strP_len9 (m:Nat) (s:ByteArray):(strP m s).length≤9+s.size:=by
  unfold strP
  rw [List.length_append,strN_len]
  have:=mput_le (m:Int) s.size
  omega
theorem fit_encP (t:MT):∀ d p,Fit d t→CohC t→encP t=some p→p.length≤100*4 ^ d:=by
  refine MT.ind (P:=fun t=>∀ d p,Fit d t→CohC t→encP t=some p→p.length≤100*4 ^ d) ?_ t
  intro t ih d p hf hc hpp
  have hso:=hf.sound
  obtain ⟨s1,s2,s3⟩:=fitB_small hf.own
  obtain ⟨k1,k2⟩:=fit_kids hf
  have hp:1≤4 ^ d:=Nat.pow_pos (by decide)
  have hV:∀ q,some q∈t.v.map encP→4*q.length≤100*4 ^ d:=fun q hq=>by
    obtain ⟨u,hu,he⟩:=List.mem_map.1 hq
    obtain ⟨d',rfl,hfu⟩:=k2 u hu
    have:=ih u hu d' q hfu (hc.part hu) he
    rw [Nat.pow_succ]
    omega
  have hd9:∀ (m:Int) n,(mput m n).length≤9:=mput_le
  rw [encP_eq] at hpp
  split at hpp
  · cases hpp;have:=hd9 1 0;omega
  split at hpp
  · cases hpp;unfold truthP;have:=hd9 (if t.c.b then 3 else 2) 0;omega
  split at hpp
  · unfold numP at hpp
    split at hpp
    · cases hpp
    · rename_i k x hw
      cases hpp
      have:=hd9 k x;omega
  split at hpp
  · cases hpp;have:=strP_len9 7 t.c.s;omega
  split at hpp
  · cases hpp;have:=strP_len9 8 t.c.s;omega
  split at hpp
  · unfold arrP at hpp
    split at hpp
    · cases hpp
    · rename_i q hq
      cases hpp
      rw [List.length_append]
      have h1:=hd9 9 t.v.length
      obtain ⟨C,hC⟩:∃ C,100*4 ^ d=4*C:=⟨25*4 ^ d,by omega⟩
      have h2:=catP_bd (C:=C) (fun p hp=>by have:=hV p hp;omega) hq
      rw [List.length_map] at h2
      have h3:t.v.length*C≤3*C:=Nat.mul_le_mul_right _ k1
      by_cases h0:t.v=[]
      · rw [h0] at h2
        simp only [List.length_nil,Nat.zero_mul] at h2
        omega
      · obtain ⟨u,us,hu⟩:=List.exists_cons_of_ne_nil h0
        obtain ⟨d',rfl,_⟩:=k2 u (by rw [hu];simp)
        rw [Nat.pow_succ] at hC hp
        have:1≤4 ^ d':=Nat.pow_pos (by decide)
        omega
  split at hpp
  next c7 =>
    obtain ⟨h1,h3,h4,_⟩:=bare_objC hc c7 hso
    unfold objP at hpp
    split at hpp
    · cases hpp
    · rename_i q hq
      cases hpp
      rw [List.length_append]
      have h5:=hd9 10 t.k.length
      by_cases h0:t.v=[]
      · have hk:t.k=[]:=List.eq_nil_of_length_eq_zero (by rw [h3,h0];rfl)
        rw [hk,h0] at hq
        simp only [List.map_nil,List.zipWith_nil_left,catP,Option.some.injEq] at hq
        subst hq
        simp only [List.length_nil]
        omega
      · obtain ⟨u,us,hu⟩:=List.exists_cons_of_ne_nil h0
        obtain ⟨d',rfl,_⟩:=k2 u (by rw [hu];simp)
        rw [Nat.pow_succ] at hV ⊢
        obtain ⟨C,hC⟩:∃ C,100*4 ^ d'=C:=⟨_,rfl⟩
        have hC2:100≤C:=by have:1≤4 ^ d':=Nat.pow_pos (by decide);omega
        have h6:=catP_bd (C:=12+C) (fun p hp=>by
          rw [List.mem_iff_getElem] at hp
          obtain ⟨i,hi,he⟩:=hp
          rw [List.length_zipWith,List.length_map] at hi
          rw [List.getElem_zipWith,List.getElem_map] at he
          unfold mbrP at he
          split at he
          · cases he
          · rename_i q0 hq0
            cases he
            rw [List.length_append]
            have h7:=strP_len9 7 (t.k[i]'(by omega))
            have h8:=s3 (t.k[i]'(by omega)) (List.getElem_mem _)
            have h9:=hV q0 (List.mem_map.2 ⟨_,List.getElem_mem _,hq0⟩)
            omega) hq
        rw [List.length_zipWith,List.length_map,h3,Nat.min_self] at h6
        have h7:t.v.length*(12+C)≤3*(12+C):=Nat.mul_le_mul_right _ k1
        omega
  · cases hpp;simp
def MdP (w:World) (e:Ending) (w':World):Prop:=∃ t:MT,e=.returned t.c.val∧Rep w' t∧(checkB t=true∧SndC t 2∧t.nodes≤1000∧∀ p,encP t=some p→p.length≤16000)∧Below w.heap.size w w'
theorem made_MdP {t:MT} {w w':World} {e:Ending} (he:e=.returned t.c.val) (hR:Rep w' t) (hf:Fit 3 t) (hb:Below w.heap.size w w'):MdP w e w':=by
  refine ⟨t,he,hR,⟨fit_check hf (by decide),fun x hx=>?_,?_,fun p hp=>?_⟩,hb⟩
  · have:=fit_pre hf x hx
    exact ⟨by omega,this.2⟩
  · have:=fit_nodes hf
    have:4 ^ 3=64:=by decide
    omega
  · have:=fit_encP t 3 p hf (CohC.of hR) hp
    have:4 ^ 3=64:=by decide
    omega
end Go.Proofs.YtnacbakcalcgaaaGreatDoor
namespace Go.Proofs.YtnacbakcalcgaaaGreatDoor
open Go.Shelf Go.RowKit Go.Lib

end Go.Proofs.YtnacbakcalcgaaaGreatDoor
namespace Go.Proofs.YtnacbakcalcgaaaGreatDoor
open Go.RowKit
theorem val_take_getD (xs:List Nat) (k:Nat):val (xs.take (k+1))=val (xs.take k)+B32 ^ k*xs.getD k 0:=by
  by_cases h:k<xs.length
  · exact val_take_succ xs k h
  · rw [List.take_of_length_le (by omega),List.take_of_length_le (by omega),getD_out (by omega)];simp
def RAInv (xs ys zs:List Nat) (k c:Nat):Prop:=zs.length=k∧Okl zs∧c≤1∧val zs+B32 ^ k*c=val (xs.take k)+val (ys.take k)
theorem RAInv.next {xs ys zs:List Nat} {k c:Nat} (h:RAInv xs ys zs k c) (hx:Okl xs) (hy:Okl ys) :
    RAInv xs ys (zs++[(c+xs.getD k 0+ys.getD k 0) % 4294967296]) (k+1) ((c+xs.getD k 0+ys.getD k 0) / 4294967296):=by
  obtain ⟨h1,h2,h3,h4⟩:=h
  have b1:=hx.getD k
  have b2:=hy.getD k
  rw [B32_eq] at b1 b2
  refine ⟨by simp [h1],h2.append (Okl.cons (by rw [B32_eq];omega) Okl.nil),by omega,?_⟩
  rw [val_take_getD xs,val_take_getD ys,val_append,h1,Nat.pow_succ]
  generalize xs.getD k 0=x at *
  generalize ys.getD k 0=y at *
  have e:val [(c+x+y) % 4294967296]=(c+x+y) % 4294967296:=by simp [val]
  rw [e,Nat.mul_assoc,Nat.add_assoc,← Nat.mul_add]
  have e2:(c+x+y) % 4294967296+B32*((c+x+y) / 4294967296)=c+x+y:=by rw [B32_eq];omega
  rw [e2,Nat.mul_add,Nat.mul_add]
  generalize B32 ^ k*x=p at *
  generalize B32 ^ k*y=q at *
  generalize B32 ^ k*c=r at *
  omega
theorem RAInv.start (xs ys:List Nat):RAInv xs ys [] 0 0:=⟨rfl,Okl.nil,by omega,by simp [val]⟩
theorem RAInv.done {xs ys zs:List Nat} {m c:Nat} (h:RAInv xs ys zs (m+1) c) (hx:Okl xs) (hy:Okl ys) (h1:xs.length≤m) (h2:ys.length≤m):val zs=val xs+val ys:=by
  obtain ⟨a1,a2,a3,a4⟩:=h
  rw [List.take_of_length_le (by omega),List.take_of_length_le (by omega)] at a4
  have b1:=Nat.lt_of_lt_of_le (val_lt hx) (Nat.pow_le_pow_right (show 0<B32 by decide) h1)
  have b2:=Nat.lt_of_lt_of_le (val_lt hy) (Nat.pow_le_pow_right (show 0<B32 by decide) h2)
  rcases Nat.eq_zero_or_pos c with h0 | h0
  · subst h0;rw [Nat.mul_zero,Nat.add_zero] at a4;exact a4
  · obtain rfl:c=1:=by omega
    rw [Nat.pow_succ] at a4
    generalize B32 ^ m=P at *
    have:P*2≤P*B32:=Nat.mul_le_mul_left _ (by decide)
    omega
theorem getD_set_same (l:List Nat) (i v:Nat) (h:i<l.length):(l.set i v).getD i 0=v:=by simp [List.getD,h]
theorem getD_set_other (l:List Nat) (i j v:Nat) (h:j ≠ i):(l.set i v).getD j 0=l.getD j 0:=by simp [List.getD,List.getElem?_set_ne (Ne.symm h)]
structure RMOut (xs ys zs:List Nat) (i:Nat):Prop where
  len:zs.length=xs.length+ys.length+1
  ok:Okl zs
  zero:∀ j,i+ys.length≤j→zs.getD j 0=0
  eq:val (zs.take (i+ys.length))=val (xs.take i)*val ys
structure RMIn (xs ys Z zs:List Nat) (i k c:Nat):Prop where
  len:zs.length=xs.length+ys.length+1
  ok:Okl zs
  same:∀ j,i+k≤j→zs.getD j 0=Z.getD j 0
  cb:c<B32
  eq:val (zs.take (i+k))+B32 ^ (i+k)*c=val (Z.take (i+k))+B32 ^ i*(xs.getD i 0*val (ys.take k))
theorem RMOut.start (xs ys:List Nat):RMOut xs ys (List.replicate (xs.length+ys.length+1) 0) 0 :=
  ⟨by simp,Okl.replicate _,fun j _=>by simp [List.getD,List.getElem?_replicate];split <;> rfl,by rw [List.take_replicate,val_replicate];simp [val]⟩
theorem RMIn.start {xs ys Z:List Nat} {i:Nat} (h:RMOut xs ys Z i):RMIn xs ys Z Z i 0 0 :=
  ⟨h.len,h.ok,fun _ _=>rfl,B32_pos,by simp [val]⟩
theorem RMIn.next {xs ys Z zs:List Nat} {i k c:Nat} (h:RMIn xs ys Z zs i k c) (hx:Okl xs) (hy:Okl ys) (hi:i<xs.length) (hk:k≤ys.length) :
    RMIn xs ys Z (zs.set (i+k) ((c+zs.getD (i+k) 0+xs.getD i 0*ys.getD k 0) % B32)) i (k+1) ((c+zs.getD (i+k) 0+xs.getD i 0*ys.getD k 0) / B32):=by
  have hz:=h.same (i+k) (Nat.le_refl _)
  have b1:=hx.getD i
  have b2:=hy.getD k
  have b3:=h.ok.getD (i+k)
  have b4:=h.cb
  have heq:=h.eq
  have hlen:=h.len
  have hdm:=Nat.mod_add_div (c+zs.getD (i+k) 0+xs.getD i 0*ys.getD k 0) B32
  have hq:(c+zs.getD (i+k) 0+xs.getD i 0*ys.getD k 0) / B32<B32:=by
    rw [Nat.div_lt_iff_lt_mul B32_pos]
    have h1:xs.getD i 0*ys.getD k 0≤(B32 - 1)*(B32 - 1):=Nat.mul_le_mul (by omega) (by omega)
    rw [B32_eq] at *
    omega
  refine ⟨by rw [List.length_set];exact hlen,h.ok.set _ _ (Nat.mod_lt _ B32_pos),fun j hj=>by rw [getD_set_other _ _ _ _ (by omega)];exact h.same j (by omega),hq,?_⟩
  rw [show i+(k+1)=i+k+1 by omega,val_set_take _ _ _ (by omega),val_take_getD Z,← hz,val_take_getD ys,Nat.pow_succ]
  generalize zs.getD (i+k) 0=z at *
  generalize xs.getD i 0=x at *
  generalize ys.getD k 0=y at *
  generalize (c+z+x*y) % B32=s at *
  generalize (c+z+x*y) / B32=q at *
  have hp:B32 ^ (i+k)=B32 ^ i*B32 ^ k:=Nat.pow_add _ _ _
  generalize val (zs.take (i+k))=V at *
  generalize val (Z.take (i+k))=W at *
  generalize val (ys.take k)=Y at *
  generalize B32 ^ i=I at *
  generalize B32 ^ k=K at *
  generalize B32=B at *
  rw [hp] at heq ⊢
  have h3:I*K*(s+B*q)=I*K*(c+z+x*y):=by rw [hdm]
  grind
theorem RMIn.done {xs ys Z zs:List Nat} {i c:Nat} (h:RMIn xs ys Z zs i (ys.length+1) c) (h0:RMOut xs ys Z i) (hx:Okl xs) (hy:Okl ys) (hi:i<xs.length):RMOut xs ys zs (i+1):=by
  have heq:=h.eq
  have e1:val (Z.take (i+(ys.length+1)))=val (Z.take (i+ys.length)):=by
    rw [show i+(ys.length+1)=i+ys.length+1 by omega,val_take_getD,h0.zero _ (Nat.le_refl _)];simp
  rw [e1,h0.eq,List.take_of_length_le (show ys.length≤ys.length+1 by omega)] at heq
  have e2:val (xs.take i)*val ys+B32 ^ i*(xs.getD i 0*val ys)=val (xs.take (i+1))*val ys:=by
    rw [val_take_getD xs i];grind
  rw [e2] at heq
  have h1:=val_lt (hx.take (i+1))
  rw [List.length_take,Nat.min_eq_left (by omega)] at h1
  have h2:=val_lt hy
  have h3:val (xs.take (i+1))*val ys<B32 ^ (i+(ys.length+1)):=by
    rw [show i+(ys.length+1)=(i+1)+ys.length by omega,Nat.pow_add]
    exact Nat.mul_lt_mul'' h1 h2
  have hc:c=0:=by
    rcases Nat.eq_zero_or_pos c with h4 | h4
    · exact h4
    · have:=Nat.le_mul_of_pos_right (B32 ^ (i+(ys.length+1))) h4
      omega
  rw [hc,Nat.mul_zero,Nat.add_zero] at heq
  refine ⟨h.len,h.ok,fun j hj=>?_,by rw [show i+1+ys.length=i+(ys.length+1) by omega];exact heq⟩
  rw [h.same j (by omega)];exact h0.zero j (by omega)
theorem RMOut.done {xs ys zs:List Nat} (h:RMOut xs ys zs xs.length):val zs=val xs*val ys:=by
  have h1:=h.eq
  rw [List.take_of_length_le (Nat.le_refl xs.length)] at h1
  have h2:=val_take_getD zs (xs.length+ys.length)
  rw [h.zero _ (Nat.le_refl _),List.take_of_length_le (by rw [h.len];exact Nat.le_refl _),h1] at h2
  simpa using h2
def RSInv (xs ys zs:List Nat) (k c:Nat):Prop:=zs.length=k∧Okl zs∧c≤1∧val (xs.take k)+B32 ^ k*c=val zs+val (ys.take k)
theorem RSInv.start (xs ys:List Nat):RSInv xs ys [] 0 0:=⟨rfl,Okl.nil,by omega,by simp [val]⟩
theorem RSInv.next {xs ys zs:List Nat} {k c d b:Nat} (h:RSInv xs ys zs k c) (hd:d<B32) (hb:b≤1) (he:xs.getD k 0+B32*b=d+ys.getD k 0+c):RSInv xs ys (zs++[d]) (k+1) b:=by
  obtain ⟨h1,h2,h3,h4⟩:=h
  refine ⟨by simp [h1],h2.append (Okl.cons hd Okl.nil),hb,?_⟩
  rw [val_take_getD xs,val_take_getD ys,val_append,h1,Nat.pow_succ]
  have e:val [d]=d:=by simp [val]
  rw [e]
  generalize xs.getD k 0=x at *
  generalize ys.getD k 0=y at *
  generalize B32 ^ k=P at *
  generalize B32=B at *
  have h5:P*(x+B*b)=P*(d+y+c):=by rw [he]
  grind
theorem RSInv.done {xs ys zs:List Nat} {c:Nat} (h:RSInv xs ys zs xs.length c) (hx:Okl xs) (hy:Okl ys) (hle:val ys≤val xs):val zs=val xs - val ys:=by
  obtain ⟨h1,h2,h3,h4⟩:=h
  rw [List.take_of_length_le (Nat.le_refl _)] at h4
  have b1:=val_lt hx
  have b2:=val_lt h2
  rw [h1] at b2
  have e:val (ys.take xs.length)=val ys:=by
    by_cases hl:xs.length≤ys.length
    · have:=val_take_drop ys xs.length hl
      have h6:val (ys.drop xs.length)=0:=by
        rcases Nat.eq_zero_or_pos (val (ys.drop xs.length)) with h7 | h7
        · exact h7
        · have:=Nat.le_mul_of_pos_right (B32 ^ xs.length) h7
          omega
      rw [h6,Nat.mul_zero,Nat.add_zero] at this
      exact this.symm
    · rw [List.take_of_length_le (by omega)]
  rw [e] at h4
  rcases Nat.eq_zero_or_pos c with h0 | h0
  · subst h0;rw [Nat.mul_zero,Nat.add_zero] at h4;omega
  · obtain rfl:c=1:=by omega
    rw [Nat.mul_one] at h4
    omega
structure RHInv (xs zs:List Nat) (n i:Nat):Prop where
  len:zs.length=xs.length+n / 32+1
  ok:Okl zs
  zero:∀ j,n / 32+i<j→zs.getD j 0=0
  lt:zs.getD (n / 32+i) 0<2 ^ (n % 32)
  eq:val (zs.take (n / 32+i))+B32 ^ (n / 32+i)*zs.getD (n / 32+i) 0=val (xs.take i)*2 ^ n
theorem RHInv.start (xs:List Nat) (n:Nat):RHInv xs (List.replicate (xs.length+n / 32+1) 0) n 0:=by
  have h:∀ j,(List.replicate (xs.length+n / 32+1) 0).getD j 0=0:=fun j=>by simp [List.getD,List.getElem?_replicate];split <;> rfl
  refine ⟨by simp,Okl.replicate _,fun j _=>h j,by rw [h];exact Nat.pow_pos (by decide),?_⟩
  rw [h,List.take_replicate,val_replicate];simp [val]
theorem two_split (n:Nat):B32 ^ (n / 32)*2 ^ (n % 32)=2 ^ n:=by
  have e:B32 ^ (n / 32)=2 ^ (32*(n / 32)):=by rw [Nat.pow_mul];rfl
  rw [e,← Nat.pow_add,Nat.div_add_mod]
theorem RHInv.next {xs zs:List Nat} {n i x z S:Nat} (h:RHInv xs zs n i) (hx:Okl xs) (hi:i<xs.length) (hxx:xs.getD i 0=x) (hz:zs.getD (n / 32+i) 0=z) (hS:S=x*2 ^ (n % 32)) (hb:z+S % B32<B32) :
    RHInv xs ((zs.set (n / 32+i) (z+S % B32)).set (n / 32+i+1) (S / B32)) n (i+1):=by
  have hlen:=h.len
  have heq:=h.eq
  have hxb:=hx.getD i
  rw [hxx] at hxb
  rw [hz] at heq
  have hq:S / B32<2 ^ (n % 32):=by
    rw [Nat.div_lt_iff_lt_mul B32_pos,hS,Nat.mul_comm]
    exact Nat.mul_lt_mul_of_pos_left hxb (Nat.pow_pos (by decide))
  have hr:2 ^ (n % 32)≤B32:=by
    have:2 ^ (n % 32)≤2 ^ 32:=Nat.pow_le_pow_right (by decide) (by omega)
    exact this
  have hl1:(zs.set (n / 32+i) (z+S % B32)).length=zs.length:=List.length_set
  refine ⟨by rw [List.length_set,hl1];exact hlen,(h.ok.set _ _ hb).set _ _ (by omega),fun j hj=>?_,?_,?_⟩
  · rw [getD_set_other _ _ _ _ (by omega),getD_set_other _ _ _ _ (by omega)];exact h.zero j (by omega)
  · rw [show n / 32+(i+1)=n / 32+i+1 by omega,getD_set_same _ _ _ (by omega)];exact hq
  · rw [show n / 32+(i+1)=n / 32+i+1 by omega,getD_set_same _ _ _ (by omega),List.take_set_of_le (Nat.le_refl _),val_set_take _ _ _ (by omega),val_take_getD xs i,hxx,Nat.pow_succ]
    have hdm:=Nat.mod_add_div S B32
    have h2:=two_split n
    have hp:B32 ^ (n / 32+i)=B32 ^ (n / 32)*B32 ^ i:=Nat.pow_add _ _ _
    rw [hp] at heq ⊢
    generalize val (zs.take (n / 32+i))=V at *
    generalize val (xs.take i)=X at *
    generalize B32 ^ (n / 32)=Q at *
    generalize B32 ^ i=I at *
    generalize 2 ^ (n % 32)=R at *
    generalize 2 ^ n=T at *
    generalize S % B32=s at *
    generalize S / B32=q at *
    generalize B32=B at *
    subst h2
    have h3:Q*I*(s+B*q)=Q*I*(x*R):=by rw [hdm,hS]
    grind
theorem RHInv.done {xs zs:List Nat} {n:Nat} (h:RHInv xs zs n xs.length):val zs=val xs*2 ^ n:=by
  have h1:=h.eq
  rw [List.take_of_length_le (Nat.le_refl xs.length),← val_take_getD,List.take_of_length_le (by rw [h.len];omega)] at h1
  exact h1





end Go.Proofs.YtnacbakcalcgaaaGreatDoor
