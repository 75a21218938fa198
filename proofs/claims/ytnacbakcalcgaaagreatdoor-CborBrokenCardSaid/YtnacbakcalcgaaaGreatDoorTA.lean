/- Texts of the claim. -/
import Derived.Test.YtnacbakcalcgaaaGreatDoorTz
set_option linter.unusedVariables false
set_option linter.unusedSimpArgs false
set_option maxHeartbeats 200000
set_option maxRecDepth 100000
namespace Go.Proofs.YtnacbakcalcgaaaGreatDoor
open Go.RowKit Go.Shelf
def iz (x:Int):Value:=.int .i64 x
def IntsV (w:World) (v:Value):Prop:=∃ (a:Option Addr) (n c:Nat) (xs:List Int),v=.slice a n c∧RdV w a (xs.map iz)∧xs.length=n∧n≤c∧n≤1000000∧∀ x∈xs,-9223372036854775808≤x∧x≤9223372036854775807
theorem IntsV.on {w w':World} {v:Value} (h:IntsV w v) (hb:Below w.heap.size w w'):IntsV w' v:=by
  obtain ⟨a,n,c,xs,h1,h2,h3⟩:=h
  exact ⟨a,n,c,xs,h1,h2.on hb,h3⟩
theorem intsV_nil (w:World):IntsV w (.slice none 0 0):=⟨none,0,0,[],rfl,RdV.nil _ _,rfl,Nat.le_refl _,by decide,nofun⟩
def smB (t:MT):Bool:=decide (t.m.length≤6) && (decide (t.c.s.size≤12) && t.k.all fun k=>decide (k.size≤3))
def fitB (t:MT):Bool:=soundB t && smB t
theorem fitB_sound {t:MT} (h:fitB t=true):soundB t=true:=by unfold fitB at h;rw [Bool.and_eq_true] at h;exact h.1
theorem fitB_small {t:MT} (h:fitB t=true):t.m.length≤6∧t.c.s.size≤12∧∀ k∈t.k,k.size≤3:=by
  unfold fitB smB at h
  simp only [Bool.and_eq_true,decide_eq_true_eq,List.all_eq_true] at h
  exact h.2
def Fit:Nat→MT→Prop
  | 0,t=>fitB t=true∧t.v=[]
  | d+1,t=>fitB t=true∧t.v.length≤3∧∀ s∈t.v,Fit d s
theorem Fit.sound {d:Nat} {t:MT} (h:Fit d t):soundB t=true:=by cases d <;> exact fitB_sound h.1
theorem Fit.own {d:Nat} {t:MT} (h:Fit d t):fitB t=true:=by cases d <;> exact h.1
theorem fit_leaf {d:Nat} {t:MT} (h:fitB t=true) (hv:t.v=[]):Fit d t:=by
  cases d
  · exact ⟨h,hv⟩
  · exact ⟨h,by rw [hv];exact Nat.zero_le _,by rw [hv];nofun⟩
theorem fit_nodes {d:Nat}:∀ {t:MT},Fit d t→t.nodes≤4 ^ d:=by
  induction d with
  | zero=>intro t h;rw [MT.nodes_eq,h.2,MT.nodesL_nil];decide
  | succ d ih =>
    intro t h
    rw [MT.nodes_eq]
    have key:∀ l:List MT,(∀ s∈l,Fit d s)→MT.nodesL l≤l.length*4 ^ d:=by
      intro l
      induction l with
      | nil=>intro _;rw [MT.nodesL_nil];exact Nat.zero_le _
      | cons t l ih2 =>
        intro hl
        have h1:=ih (hl t (by simp))
        have h2:=ih2 (fun s hs=>hl s (by simp [hs]))
        rw [MT.nodesL_cons,List.length_cons,Nat.add_mul]
        omega
    have h1:=key t.v h.2.2
    have h2:t.v.length*4 ^ d≤3*4 ^ d:=Nat.mul_le_mul_right _ h.2.1
    have h3:1≤4 ^ d:=Nat.pow_pos (by decide)
    rw [Nat.pow_succ]
    omega
theorem fit_pre {d:Nat}:∀ {t:MT} {k:Nat},Fit d t→∀ x∈t.pre k,x.1≤k+d∧soundB x.2=true:=by
  induction d with
  | zero =>
    intro t k h x hx
    rw [MT.pre_eq,h.2,MT.preL_nil,List.mem_singleton] at hx
    subst hx
    exact ⟨Nat.le_refl _,fitB_sound h.1⟩
  | succ d ih =>
    intro t k h x hx
    rw [MT.pre_eq,List.mem_cons] at hx
    rcases hx with rfl | hx
    · exact ⟨by simp,fitB_sound h.1⟩
    · obtain ⟨s,hs,hx⟩:=MT.mem_preL.1 hx
      have:=ih (h.2.2 s hs) x hx
      exact ⟨by omega,this.2⟩
theorem fit_check {d:Nat} {t:MT} (h:Fit d t) (hd:d≤5):checkB t=true:=by
  have h1:=fit_nodes h
  have h2:4 ^ d≤4 ^ 5:=Nat.pow_le_pow_right (by decide) hd
  unfold checkB
  rw [Bool.and_eq_true,decide_eq_true_eq,List.all_eq_true]
  refine ⟨by omega,fun x hx=>?_⟩
  have:=fit_pre h x hx
  rw [Bool.and_eq_true,decide_eq_true_eq]
  exact ⟨by omega,this.2⟩
def MadeP (d:Nat) (v:Value) (w:World) (e:Ending) (w':World):Prop :=
  ∃ t v',e=.returned (.tuple #[t.c.val,v'])∧Ind (fun k=>k<w.heap.size) w' (fun W=>Rep W t)∧Fit d t∧(∀ W,IntsV W v→IntsV W v')∧Below w.heap.size w w'
theorem intsV_tail {W:World} {b o n c:Nat} (hn:1≤n) (h:IntsV W (.slice (some ⟨b,o,none⟩) n c)) (hc:c ≠ 1):IntsV W (.slice (some ⟨b,o+1,none⟩) (n - 1) (c - 1)):=by
  obtain ⟨a,n',c',xs,e,h2,h3,h4,h5,h6⟩:=h
  cases e
  refine ⟨_,_,_,xs.drop 1,rfl,?_,by simp;omega,by omega,by omega,fun y hy=>h6 y (List.mem_of_mem_drop hy)⟩
  have:=h2.drop 1
  rwa [← List.map_drop] at this
theorem intsV_last {W:World} {b o n c:Nat} (h:IntsV W (.slice (some ⟨b,o,none⟩) n c)):IntsV W (.slice (some ⟨b,o,none⟩) 0 0) :=
  ⟨_,_,_,[],rfl,fun i hi=>by simp at hi,rfl,Nat.le_refl _,by decide,nofun⟩
theorem place_big (v n:Int) (w:World) (hv:-9223372036854775808≤v∧v≤9223372036854775807) (hn:0<n∧n≤100000000000) :
    Calls Tryz.prog 21 #[.int .i64 v,.int .i64 n] w fun e w'=>e=.returned (.int .i64 (v % n))∧w'=w:=by
  have h1:=Int.emod_nonneg v (show n ≠ 0 by omega)
  have h2:=Int.emod_lt_of_pos v hn.1
  have ht:v.tmod n=if 0≤v∨v % n=0 then v % n else v % n - n:=by
    rw [Int.tmod_eq_emod]
    by_cases h0:0≤v∨n ∣ v
    · rw [if_pos h0,if_pos (h0.imp id Int.emod_eq_zero_of_dvd)];omega
    · rw [if_neg h0,if_neg (fun h=>h0 (h.imp id Int.dvd_of_emod_eq_zero))];omega
  have hne:n ≠ 0:=by omega
  have hnb:(n == 0)=false:=by rw [beq_eq_false_iff_ne];exact hne
  generalize v % n=r at *
  by_cases hv0:0≤v∨r=0
  · rw [if_pos hv0] at ht
    have hlt:¬ (r<0):=by omega
    clear hv0
    go_enter Tryz.func21,Tryz.ntmps21
    go_wp2_with fail
    go_ret
    exact ⟨rfl,rfl⟩
  · rw [if_neg hv0] at ht
    clear hv0
    go_enter Tryz.func21,Tryz.ntmps21
    go_wp2_with fail
    go_ret
    exact ⟨rfl,rfl⟩
theorem made_end {d:Nat} {v0 u0:Value} {w W:World} {t:MT} {c:Cel} (hc:t.c=c) (hb:Below w.heap.size w W) (h1:∀ W,IntsV W v0→IntsV W u0) (hi:Ind (fun k=>k<w.heap.size∨k=w.heap.size) W (fun W=>Rep W t)) (hf:Fit d t) :
    MadeP d v0 w (.returned (.tuple #[c.val,u0])) (put0 W w.heap.size c):=by
  have hput:=put0_but W w.heap.size c
  refine ⟨t,u0,by rw [hc],?_,hf,h1,hb.trans (hput.below (Nat.le_refl _) hb.size)⟩
  exact hi.to hput.size (fun k hk hx=>hput.block k hk (fun e=>hx (.inr e))) (fun k hk hy=>.inl hy) (fun _ h=>h)
theorem made_leaf {d:Nat} {v0 u0:Value} {w W:World} (k:Int) (b:Bool) (s:ByteArray) (hb:Below w.heap.size w W) (h1:∀ W,IntsV W v0→IntsV W u0) (hk:-9223372036854775808≤k∧k≤9223372036854775807) (hs:s.size≤maxLen) (hf:fitB (leafT k b s)=true) :
    MadeP d v0 w (.returned (.tuple #[(leafC k b s).val,u0])) (put0 W w.heap.size (leafC k b s)) :=
  made_end (t:=leafT k b s) rfl hb h1 (fun W' _ _=>leafT_rep W' k b s hk hs) (fit_leaf hf rfl)
theorem made_num {d:Nat} {v0 u0:Value} {w W:World} {ng:Bool} {a:Option Addr} {n c:Nat} {xs:List Nat} {x:Int} (hb:Below w.heap.size w W) (h1:∀ W,IntsV W v0→IntsV W u0) (h:NewNum (w.heap.size+1) W ng a n c xs x) :
    MadeP d v0 w (.returned (.tuple #[(numC ng a n c x).val,u0])) (put0 W w.heap.size (numC ng a n c x)):=by
  have hbd:=chkB_bounds h.chk
  have hl:=h.len
  refine made_end (t:=numT ng a n c x xs) rfl hb h1 (fun W' h2 h3=>?_) (fit_leaf ?_ rfl)
  · exact numT_rep h.len h.cap (by omega) h.ok (ind_rd (X:=fun k=>k<w.heap.size∨k=w.heap.size) h.rd (fun a e hx=>by have:=(h.loc a e).1;omega) W' h2 h3) ⟨by omega,by omega⟩
  · have:soundB (numT ng a n c x xs)=(chkB ng xs x && blankB { numC ng a n c x with neg:=false,ma:=none,mn:=0,mc:=0,e:=0 }):=by
      unfold soundB numT;rfl
    unfold fitB smB
    rw [this,h.chk,show decide ((numT ng a n c x xs).m.length≤6)=true from decide_eq_true h.sm];rfl
theorem wpl_appT {w:World} {ops:Array Oper} {rest:List Oper} {o:Oper} {a:Act} {Q:Exit→Act→World→Prop} (hgd:o.guard=none) (s x:Operand)
    (ho:o.op=.call { callee:=.builtin .append,args:=#[s,x],argTypes:=#[27,27] }) (B:Nat) (v:Value) (n:Nat) (xs:List Value) (hs:a.eval s=v) (hown:w.ownsRow B 29 8 v n xs)
    (ad:Addr) (c:Nat) (y:Cel) (hx:a.eval x=.slice (some ad) 1 c) (hr:RdV w (some ad) y.cells) (hn:n≤1000000000) (hB:B≤w.heap.size)
    (h:∀ g cap w',w'.ownsRow B 29 8 (.slice (some ⟨g,0,none⟩) (n+1) cap) (n+1) (xs++y.cells)→w.grownBy w' v.ownBlock→(v.ownBlock=some g∨g=w.heap.size)→wpList Tryz.prog ops Q rest (a.put o.dst (.slice (some ⟨g,0,none⟩) (n+1) cap)) w') :
    wpList Tryz.prog ops Q (o::rest) a w:=by
  obtain ⟨i0,hi,hz0,hz1,hz2⟩:=info_parts info_tree
  refine wpList_append_lies w hgd s x 27 ho B 29 i0 zeroC.val 8 120 Tryz.underlying27 hi hz0 hz1 hz2 rfl (by decide) v n xs hs hown ad 1 c y.cells hx rfl ?_ (cel_one y) (by decide) (by unfold maxLen;omega) (by omega) hB _ rfl (fun g cap w' h1 h2 h3 _=>h g cap w' h1 h2 h3)
  intro j u hj
  have hjl:j<y.cells.length:=(List.getElem?_eq_some_iff.1 hj).1
  obtain ⟨b,o',e,_,hc⟩:=hr j hjl
  cases e
  have hadd:(⟨b,o',none⟩:Addr).add j=⟨b,o'+j,none⟩:=by unfold Addr.add;split <;> simp_all
  rw [hadd,hc,hj]
def AX (B:Nat) (v:Value) (k:Nat):Prop:=k<B∨v.ownBlock=some k
structure ArS (W8:World) (b8:Nat) (us:List MT) (va:Option Addr) (vc:Nat) (wr:World):Prop where
  but:But b8 W8 wr
  lt:b8<W8.heap.size
  box:BoxT wr b8 (arrC va us.length vc)
  ow:wr.ownsRow W8.heap.size 29 8 (.slice va us.length vc) us.length (flat (us.map MT.c))
  ind:Ind (AX W8.heap.size (.slice va us.length vc)) wr (fun W=>∀ x∈us,Rep W x)
theorem own_lt {w:World} {B:Nat} {e:TypeId} {size:Nat} {v:Value} {n:Nat} {xs:List Value} (h:w.ownsRow B e size v n xs) {k:Nat} (hk:v.ownBlock=some k):k<w.heap.size:=by
  obtain ⟨_,cs,h2⟩:=own_block h hk
  exact (Array.getElem?_eq_some_iff.1 h2).1
theorem ArS.step {W8 wr w1 w3 w5:World} {b8:Nat} {us:List MT} {x:MT} {va:Option Addr} {vc g cap:Nat} (h:ArS W8 b8 us va vc wr) (h1:Below wr.heap.size wr w1) (hx:Ind (fun k=>k<wr.heap.size) w1 (fun W=>Rep W x)) (h3:Below w1.heap.size w1 w3)
    (ho5:w5.ownsRow W8.heap.size 29 8 (.slice (some ⟨g,0,none⟩) (us.length+1) cap) (us.length+1) (flat (us.map MT.c)++x.c.cells)) (hg5:w3.grownBy w5 (Value.slice va us.length vc).ownBlock) (hor:(Value.slice va us.length vc).ownBlock=some g∨g=w3.heap.size) :
    ArS W8 b8 (us++[x]) (some ⟨g,0,none⟩) cap (w5.setCell ⟨b8,7,none⟩ (.slice (some ⟨g,0,none⟩) (us.length+1) cap)):=by
  have hown:∀ k,(Value.slice va us.length vc).ownBlock=some k→W8.heap.size≤k∧k<wr.heap.size:=fun k hk=>⟨(own_block h.ow hk).1,own_lt h.ow hk⟩
  have hs1:=h1.size;have hs3:=h3.size;have hs5:=hg5.size;have hlt:=h.lt;have hsw:=h.but.size
  have hgB:W8.heap.size≤g:=(own_block ho5 rfl).1
  have hset:∀ k,k ≠ b8→(w5.setCell ⟨b8,7,none⟩ (.slice (some ⟨g,0,none⟩) (us.length+1) cap)).heap[k]? = w5.heap[k]?:=fun k hk=>set_heap _ _ _ _ _ hk
  have hszs:(w5.setCell ⟨b8,7,none⟩ (.slice (some ⟨g,0,none⟩) (us.length+1) cap)).heap.size=w5.heap.size:=by simp [World.setCell]
  have hkeep:∀ k,k<w1.heap.size→(Value.slice va us.length vc).ownBlock ≠ some k→w5.heap[k]? = w1.heap[k]?:=fun k hk hne=>by
    rw [hg5.block k (by omega) (fun e=>hne e.symm),h3.block k hk]
  have hb3:Below wr.heap.size wr w3:=h1.trans (h3.mono hs1)
  have hbut5:But b8 W8 w5:=grow_but (B:=0) (h.but.trans (But.of_below hb3)) (own_onN h.ow hb3) hg5
  have hbox5:BoxT w5 b8 (arrC va us.length vc):=h.box.on (by
    rw [hkeep b8 (by have:=h.box.lt;omega) (fun e=>by have:=(hown _ e).1;omega),h1.block b8 h.box.lt])
  have hbox6:=box_set (w:=w5) hbox5 (some ⟨g,0,none⟩) (us.length+1) cap
  have e1:(us++[x]).length=us.length+1:=by simp
  have e2:flat ((us++[x]).map MT.c)=flat (us.map MT.c)++x.c.cells:=by simp [flat]
  refine ⟨hbut5.trans ((But.refl _ _).setCell _ _),hlt,by rw [e1];exact hbox6,?_,?_⟩
  · rw [e1,e2]
    exact own_heap ho5 (fun k hk=>hset k (by have:=(own_block ho5 hk).1;omega))
  · intro W hs hk y hy
    rw [hszs] at hs hk
    have hW:∀ k,k<w1.heap.size→W8.heap.size≤k→(Value.slice va us.length vc).ownBlock ≠ some k→W.heap[k]? = w1.heap[k]?:=fun k h1' h2' h3'=>by
      rw [hk k (by omega) (fun hx=>by
        rcases hx with hx | hx
        · omega
        · rw [e1] at hx
          simp only [Value.ownBlock,Option.some.injEq] at hx
          rcases hor with ho | ho
          · rw [hx] at ho;exact h3' ho
          · omega),hset k (by omega),hkeep k h1' h3']
    rcases List.mem_append.1 hy with hy | hy
    · exact h.ind W (by omega) (fun k hk1 hk2=>by
        rw [hW k (by omega) (Nat.le_of_not_lt (fun h=>hk2 (.inl h))) (fun e=>hk2 (.inr e)),h1.block k hk1]) y hy
    · rw [List.mem_singleton.1 hy]
      exact hx W (by omega) (fun k hk1 hk2=>hW k hk1 (by omega) (fun e=>by have:=(hown k e).2;omega))
theorem ArS.mid {W8 wr w1 w3 w5:World} {b8:Nat} {us:List MT} {va:Option Addr} {vc:Nat} (h:ArS W8 b8 us va vc wr) (h1:Below wr.heap.size wr w1) (h3:Below w1.heap.size w1 w3) (hg5:w3.grownBy w5 (Value.slice va us.length vc).ownBlock):BoxT w5 b8 (arrC va us.length vc):=by
  have hs1:=h1.size;have hs3:=h3.size;have hlt:=h.box.lt;have hl8:=h.lt
  refine h.box.on ?_
  rw [hg5.block b8 (by omega) (fun e=>by have:=(own_block h.ow e.symm).1;omega),h3.block b8 (by omega),h1.block b8 hlt]
theorem rdv_two (w:World) (o:Obj) (cs:List Value) (e:TypeId):RdV ((w.alloc o).alloc (.cells cs.toArray e)) (some ⟨w.heap.size+1,0,none⟩) cs:=by
  have:=rdv_new (w.alloc o) cs e
  rwa [World.size_alloc] at this
theorem below_two (w:World) (o o2:Obj):Below w.heap.size w ((w.alloc o).alloc o2):=((Below.refl _ _).alloc (Nat.le_refl _) _).alloc (by simp) _
def ARL (W8:World) (b8:Nat) (v0:Value) (d m g:Nat) (u iv:Value) (wr:World):Prop :=
  ∃ us va vc,us.length≤m∧m - us.length≤g∧iv=.int .i64 (us.length:Int)∧(∀ W,IntsV W v0→IntsV W u)∧ArS W8 b8 us va vc wr∧∀ x∈us,Fit d x
theorem arr_end {d d':Nat} {v0 u0:Value} {w W8 W:World} {b8:Nat} {us:List MT} {va:Option Addr} {vc:Nat} (hd:d=d'+1) (hb:Below w.heap.size w W8) (hb8:w.heap.size<b8) (h1:∀ W,IntsV W v0→IntsV W u0) (h:ArS W8 b8 us va vc W) (hl:us.length≤3) (hf:∀ x∈us,Fit d' x) :
    MadeP d v0 w (.returned (.tuple #[(arrC va us.length vc).val,u0])) (put0 W w.heap.size (arrC va us.length vc)):=by
  subst hd
  obtain ⟨_,_,e,hvc,hvr,_,hva,_⟩:=own_viewN h.ow
  cases e
  have hs:=h.but.size;have hlt:=h.lt;have hsb:=hb.size
  refine made_end (t:=arrT va us.length vc us) rfl (hb.trans (h.but.below (by omega) hb.size)) h1 ?_ ⟨?_,hl,hf⟩
  · intro W' q1 q2
    refine arrT_rep rfl hvc (by omega) (ind_rdv (X:=fun k=>k<w.heap.size∨k=w.heap.size) hvr (fun a e hx=>by have:=(hva a e).1;omega) W' q1 q2) ?_
    exact h.ind W' q1 (fun k hk1 hk2=>q2 k hk1 (fun hx=>hk2 (.inl (by omega))))
  · have:soundB (arrT va us.length vc us)=(decide (us.length≤300) && blankB { arrC va us.length vc with va:=none,vn:=0,vc:=0 }):=by
      unfold soundB arrT;rfl
    unfold fitB smB
    rw [this,decide_eq_true (by omega)];rfl
end Go.Proofs.YtnacbakcalcgaaaGreatDoor
namespace Go.Proofs.YtnacbakcalcgaaaGreatDoor
open Go.RowKit Go.Lib Go.Sort
theorem flat_bd {l:List (List Nat)} {C:Nat} (h:∀ p∈l,p.length≤C):l.flatten.length≤l.length*C:=by
  induction l with
  | nil=>simp
  | cons p l ih =>
    have h1:=h p (by simp)
    have h2:=ih (fun q hq=>h q (by simp [hq]))
    rw [List.flatten_cons,List.length_append,List.length_cons,Nat.add_mul]
    omega
theorem intB_len2 (b:Bool) (T:Nat) {k:Nat} (h:bitsN T≤k):(intB b T).length≤27+(k+7) / 8:=by
  have h1:=hd_len (if b then 1 else 0) T
  have h2:=hd_len 6 (if b then 3 else 2)
  have h3:=hd_len 2 (bytesN T).length
  have h4:=bytesN_len T
  unfold intB
  split
  · omega
  · rw [List.length_append,List.length_append];omega
theorem numB_small {ng:Bool} {xs:List Nat} {e:Int} (ho:Okl xs) (h:chkB ng xs e=true) (h6:xs.length≤6):(numB ng (val xs) e).length≤100:=by
  have hb:=chkB_bounds h
  have h90:bitsN (val xs)≤192:=Nat.le_trans (bits_words ho) (by omega)
  have hr:(restB ng (val xs) e).length≤100:=by
    unfold restB
    cases hf:fltOf ng (val xs) e with
    | some p =>
      obtain ⟨d,y⟩:=p
      have:=fltB_len (N:=y) (shA_yes hf).2
      simp only
      omega
    | none =>
      simp only
      unfold decB
      have h1:=intB_len2 (decide (e<0)) (toldN (decide (e<0)) e.natAbs) (k:=32) (Nat.le_trans (bits_mono (told_le _ _)) (bits_small (by omega)))
      have h2:=intB_len2 ng (toldN ng (val xs)) (k:=192) (Nat.le_trans (bits_mono (told_le _ _)) h90)
      have h3:=hd_len 6 4
      have h4:=hd_len 4 2
      simp only [List.length_append]
      omega
  unfold numB intAt
  split
  next M hM =>
    split at hM
    next hc =>
      cases hM
      split
      next hs =>
        have:intB ng (toldN ng (val xs*tenN e.toNat))=hd (if ng then 1 else 0) (toldN ng (val xs*tenN e.toNat)):=by unfold intB;rw [if_pos hs]
        rw [this]
        have:=hd_len (if ng then 1 else 0) (toldN ng (val xs*tenN e.toNat))
        omega
      next=>exact hr
    next=>cases hM
  next=>exact hr
theorem strC_len (m:Nat) (s:ByteArray):(strC m s).length≤9+s.size:=by
  unfold strC
  rw [List.length_append,strN_len]
  have:=hd_len m s.size
  omega
theorem fit_kids {d:Nat} {t:MT} (h:Fit d t):t.v.length≤3∧∀ s∈t.v,∃ d',d=d'+1∧Fit d' s:=by
  cases d with
  | zero=>rw [h.2];exact ⟨by decide,nofun⟩
  | succ d=>exact ⟨h.2.1,fun s hs=>⟨d,rfl,h.2.2 s hs⟩⟩
theorem fit_encX (t:MT):∀ d,Fit d t→CohC t→(encX t).length≤100*4 ^ d:=by
  refine MT.ind (P:=fun t=>∀ d,Fit d t→CohC t→(encX t).length≤100*4 ^ d) ?_ t
  intro t ih d hf hc
  have hso:=hf.sound
  obtain ⟨s1,s2,s3⟩:=fitB_small hf.own
  obtain ⟨k1,k2⟩:=fit_kids hf
  have hp:1≤4 ^ d:=Nat.pow_pos (by decide)
  have hV:∀ p∈t.v.map encX,4*p.length≤100*4 ^ d:=fun p hp=>by
    obtain ⟨u,hu,rfl⟩:=List.mem_map.1 hp
    obtain ⟨d',rfl,hfu⟩:=k2 u hu
    have:=ih u hu d' hfu (hc.part hu)
    rw [Nat.pow_succ]
    omega
  have hd9:∀ m n,(hd m n).length≤9:=hd_len
  rw [encX_eq]
  split
  · have:=hd9 7 22;omega
  split
  · unfold truthC;have:=hd9 7 (if t.c.b then 21 else 20);omega
  split
  next c3=>have:=numB_small hc.own.2.1 (bare_numC hc c3 hso).1 s1;omega
  split
  · have:=strC_len 3 t.c.s;omega
  split
  · have:=strC_len 2 t.c.s;omega
  split
  · unfold arrE
    rw [List.length_append]
    have h1:=hd9 4 t.v.length
    obtain ⟨C,hC⟩:∃ C,100*4 ^ d=4*C:=⟨25*4 ^ d,by omega⟩
    have h2:=flat_bd (C:=C) (fun p hp=>by have:=hV p hp;omega)
    rw [List.length_map] at h2
    have h3:t.v.length*C≤3*C:=Nat.mul_le_mul_right _ k1
    omega
  split
  next c7 =>
    obtain ⟨h1,h3,h4,_⟩:=bare_objC hc c7 hso
    unfold objE
    rw [List.length_append]
    have h5:=hd9 5 t.k.length
    by_cases h0:t.v=[]
    · have hk:t.k=[]:=List.eq_nil_of_length_eq_zero (by rw [h3,h0];rfl)
      rw [hk]
      have:(ordC []).length=0:=ordC_len []
      rw [List.eq_nil_of_length_eq_zero this]
      simp only [List.map_nil,List.flatten_nil,List.length_nil]
      have:=hd9 5 ([]:List ByteArray).length
      simp only [List.length_nil] at this
      omega
    · obtain ⟨u,us,hu⟩:=List.exists_cons_of_ne_nil h0
      obtain ⟨d',rfl,_⟩:=k2 u (by rw [hu];simp)
      rw [Nat.pow_succ] at hV ⊢
      obtain ⟨C,hC⟩:∃ C,100*4 ^ d'=C:=⟨_,rfl⟩
      have hC2:100≤C:=by have:1≤4 ^ d':=Nat.pow_pos (by decide);omega
      have h6:=flat_bd (l:=(ordC t.k).map (mbrE t.k (t.v.map encX))) (C:=12+C) (fun p hp=>by
        obtain ⟨i,hi,rfl⟩:=List.mem_map.1 hp
        have hlt:i<t.k.length:=by
          have:=List.mem_range'_1.1 ((ordC_perm t.k).mem_iff.1 hi)
          omega
        unfold mbrE
        rw [List.length_append]
        have h7:=strC_len 3 (t.k.getD i ByteArray.empty)
        have h8:=s3 (t.k.getD i ByteArray.empty) (by simp [List.getD,hlt])
        have h9:=hV ((t.v.map encX).getD i []) (by simp [List.getD,show i<t.v.length by omega];exact ⟨_,List.getElem_mem _,rfl⟩)
        omega)
      rw [List.length_map,ordC_len,h3] at h6
      have h7:t.v.length*(12+C)≤3*(12+C):=Nat.mul_le_mul_right _ k1
      omega
  · simp
theorem made_MdC {t:MT} {w w':World} {e:Ending} (he:e=.returned t.c.val) (hR:Rep w' t) (hf:Fit 3 t) (hb:Below w.heap.size w w'):MdC w e w':=by
  refine ⟨t,he,hR,⟨fit_check hf (by decide),fun x hx=>?_,?_,?_⟩,hb⟩
  · have:=fit_pre hf x hx
    exact ⟨by omega,this.2⟩
  · have:=fit_nodes hf
    have:4 ^ 3=64:=by decide
    omega
  · have:=fit_encX t 3 hf (CohC.of hR)
    have:4 ^ 3=64:=by decide
    omega
end Go.Proofs.YtnacbakcalcgaaaGreatDoor
namespace Go.Proofs.YtnacbakcalcgaaaGreatDoor
open Go.RowKit Go.Shelf
section
variable {P : Program}
theorem rl_arith (w:World) (ev:Operand→Value) (o:Oper) (op:BinOp) (ty ty':TypeId) (x y:Operand) (a b r:Int) (ho:o.op=.binOp op ty x y ty') (hx:ev x=.int .i64 a) (hy:ev y=.int .i64 b)
    (h:(binOp op ty (.int .i64 a) (.int .i64 b)).run P w=.ok (.int .i64 r) w):(execOp ev o).run P w=.ok (.value (.int .i64 r)) w:=by
  simp [execOp,ho,hx,hy,eqGuard,h,Result.andThen]
theorem ar_quo (w:World) (ty:TypeId) (A B:Nat) (hA:A≤1073741824) (hB:0<B) (hB2:B≤1000):(binOp .quo ty (.int .i64 (A:Int)) (.int .i64 (B:Int))).run P w=.ok (.int .i64 ((A / B:Nat):Int)) w:=by
  have h2:A / B≤A:=Nat.div_le_self _ _
  have h3:((A / B:Nat):Int)=(A:Int) / (B:Int):=by simp
  have h4:IntKind.i64.wrap ((A:Int) / (B:Int))=(A:Int) / (B:Int):=by
    rw [← h3]
    generalize A / B=q at h2 ⊢
    exact IntWalk.i64_in _ (by omega)
  simp [binOp,Op.intDiv,go_sem]
  rw [if_neg (by omega),h4]
theorem ar_rem (w:World) (ty:TypeId) (A B:Nat) (hA:A≤1073741824) (hB:0<B) (hB2:B≤1000):(binOp .rem ty (.int .i64 (A:Int)) (.int .i64 (B:Int))).run P w=.ok (.int .i64 ((A % B:Nat):Int)) w:=by
  simp [binOp,Op.intDiv,go_sem]
  rw [if_neg (by omega),Int.tmod_eq_emod_of_nonneg (by omega)]
theorem ar_mul (w:World) (ty:TypeId) (A B:Nat) (hA:A≤1000) (hB2:B≤1000):(binOp .mul ty (.int .i64 (A:Int)) (.int .i64 (B:Int))).run P w=.ok (.int .i64 ((A*B:Nat):Int)) w:=by
  have h2:A*B≤1000*1000:=Nat.mul_le_mul hA hB2
  have h4:IntKind.i64.wrap ((A:Int)*(B:Int))=(A:Int)*(B:Int):=by rw [← Int.natCast_mul];exact IntWalk.i64_in _ (by omega)
  simp [binOp,Op.intArith,go_sem]
  exact h4
theorem ar_add (w:World) (ty:TypeId) (A B:Nat) (hA:A≤1073741824) (hB2:B≤1073741824):(binOp .add ty (.int .i64 (A:Int)) (.int .i64 (B:Int))).run P w=.ok (.int .i64 ((A+B:Nat):Int)) w:=by
  simp [binOp,Op.intArith,go_sem]
  exact IntWalk.i64_in _ (by omega)
end
section
variable {P : Program} {ops : Array Oper} {Q : Exit → Act → World → Prop}
theorem si1 {A:Prop} {L:Array Bool} (i a:Nat) (ha:(i == a)=false) (M:Prop):(M∧((L.setIfInBounds i true).getD a false=false→A)) ↔ (M∧(L.getD a false=false→A)):=by
  rw [getD_set_ne false (by simpa using ha)]
theorem rl_call {a:Act} {w:World} {K:Act→World→Prop} (i:Nat) (o:Oper) (n:Nat) (fn:Func) (f:Operand) (args:Array Operand) (ts:Array TypeId) (vs:Array Value) (dd:Option Tmp)
    (hi:ops[i]? = some o) (hdd:o.dst=dd) (hw:Region.wanted o (yielded ops a.tmps)=true)
    (ho:o.op=.call { callee:=.value f,args:=args,argTypes:=ts }) (hff:a.eval f=.func (.func n) #[] #[]) (hfn:P.funcs[n]? = some fn) (hn:(fn.name == "runtime.NumGoroutine")=false) (hb:fn.body.isNone=false)
    (hv:args.map a.eval=vs) {Post:Ending→World→Prop} (C:Calls P n vs w Post) (h:∀ r w',Post r w'→∃ v,r=.returned v∧K (a.put dd v) w'):wpOp P ops Q i K a w:=by
  subst hdd
  unfold wpOp
  simp only [hi]
  rw [if_pos hw]
  refine .inl ?_
  unfold Oper.wp
  rw [rg_enter w a.eval o n fn f args ts vs ho hff hfn hn hb hv,Oper.upon_enter]
  exact C.mono (fun r w' hp=>by obtain ⟨v,rfl,hk⟩:=h r w' hp;exact hk)
theorem rl_ldrun (w:World) (ev:Operand→Value) (o:Oper) (ty:TypeId) (x:Operand) (ad:Addr) (v:Value) (d:TypeDesc) (ho:o.op=.load ty x) (hx:ev x=.pointer (some ad)) (hu:P.underlying ty=some d) (hd:d.isRow=false) (hc:w.cell? ad=some v) :
    (execOp ev o).run P w=.ok (.value v) w:=by
  unfold execOp
  simp only [ho,hx,Sem.run_bind,Sem.run_pure,Result.andThen_ok,rg_run1 w ad ty v d hc hu hd]
theorem setCells_put0 (w:World) (b:Nat) (c:Cel):w.setCells b 0 c.cells=put0 w b c:=by
  simp [World.setCells,Cel.cells,put0]
theorem rl_storeT {a:Act} {w:World} {K:Act→World→Prop} (i:Nat) (o:Oper) (ty:TypeId) (x y:Operand) (b:Nat) (c c0:Cel) (d:TypeDesc) (hi:ops[i]? = some o) (hdd:o.dst=none) (hw:Region.wanted o (yielded ops a.tmps)=true)
    (ho:o.op=.store ty x y) (hx:a.eval x=.pointer (some ⟨b,0,none⟩)) (hy:a.eval y=c.val) (h1:(P.info? ty).map (·.size)=some 8) (hb:BoxT w b c0)
    (h:K a (put0 w b c)):wpOp P ops Q i K a w:=by
  unfold wpOp
  simp only [hi]
  rw [if_pos hw]
  refine .inl ?_
  have h8:c.cells.length=8:=by simp [Cel.cells]
  refine wp_store_mid ty x y ho b 0 c.cells.toArray hx hy ?_ (by simpa [h8] using h1) (all_oneCell_toArray (cel_one c)) ?_
  · intro j hj
    rw [List.size_toArray,h8] at hj
    refine ⟨?_,by rw [Nat.zero_add];exact hb.free j⟩
    rw [Nat.zero_add]
    obtain ⟨x0,x1,x2,x3,x4,x5,x6,x7⟩:=hb.cells
    match j,hj with
    | 0,_=>rw [x0];rfl
    | 1,_=>rw [x1];rfl
    | 2,_=>rw [x2];rfl
    | 3,_=>rw [x3];rfl
    | 4,_=>rw [x4];rfl
    | 5,_=>rw [x5];rfl
    | 6,_=>rw [x6];rfl
    | 7,_=>rw [x7];rfl
  · rw [hdd]
    have:=setCells_put0 w b c
    simp only [List.toList_toArray]
    rw [this]
    exact h
end
def nms8:List ByteArray:=[⟨#[97]⟩,⟨#[98]⟩,⟨#[99]⟩,⟨#[100,100]⟩,⟨#[101]⟩,⟨#[]⟩,⟨#[120,47,121]⟩,⟨#[122,126]⟩]
def NamesP (w:World) (e:Ending) (w':World):Prop:=e=.returned (.slice (some ⟨w.heap.size,0,none⟩) 8 8)∧w'=w.alloc (.cells (sv nms8).toArray 9)
theorem names_any (w:World):Calls Tryz.prog 79 #[] w (NamesP w):=by
  go_enter Tryz.func79,Tryz.ntmps79
  go_wp2
  go_ret
  exact ⟨rfl,rfl⟩
theorem nms8_sm:∀ j,j<8→okN (nms8.getD j ByteArray.empty)=true∧(nms8.getD j ByteArray.empty).size≤3:=by decide +kernel
theorem nms8_ok:∀ j,j<8→okN (nms8.getD j ByteArray.empty)=true:=by decide +kernel
structure ObS (W8:World) (b8 d n:Nat) (t:MT) (wr:World):Prop where
  but:But b8 W8 wr
  lt:b8<W8.heap.size
  box:BoxT wr b8 t.c
  obj:∃ ka kc va vc,t.c=objC7 ka t.k.length kc va t.k.length vc
  tm:t.m=[]
  kv:t.v.length=t.k.length
  le:t.k.length≤n
  ris:Ris t.k
  ok:∀ s∈t.k,okN s=true∧s.size≤3
  fit:∀ x∈t.v,Fit d x
  ind:Ind (fun k=>k<W8.heap.size) wr (fun W=>Rep W t)
theorem ObS.o7 {W8 wr:World} {b8 d n:Nat} {t:MT} (h:ObS W8 b8 d n t wr) (hn:n≤100):Obj7 t:=by
  obtain ⟨ka,kc,va,vc,e⟩:=h.obj
  exact ⟨fun _=>by rw [e];rfl,by rw [e];rfl,by rw [e];rfl,h.kv,Nat.le_trans h.le hn,h.ris⟩
theorem put1_mem {α:Type} {l:List α} {p q:Nat} {x y:α} (h:y∈put1 l p q x):y∈l∨y=x:=by
  unfold put1 at h
  rcases List.mem_append.1 h with h | h
  · rcases List.mem_append.1 h with h | h
    · exact .inl (List.mem_of_mem_take h)
    · exact .inr (List.mem_singleton.1 h)
  · exact .inl (List.mem_of_mem_drop h)
theorem spl_ex {N:List ByteArray} (hr:Ris N) (s:ByteArray):∃ p q,Spl N s p q:=by
  cases hi:ixL N s with
  | none=>exact ⟨_,_,spl_none hr hi⟩
  | some i=>exact ⟨_,_,spl_some hr hi⟩
theorem ObS.step {W8 wr wc w3:World} {b8 d n:Nat} {t x:MT} {s:ByteArray} {p q:Nat} {e:Ending} (h:ObS W8 b8 d n t wr) (hs:okN s=true∧s.size≤3) (hp:Spl t.k s p q) (hf:Fit d x) (hb:Below wr.heap.size wr wc) (hS:SetPost t x s p q (fun k=>k<W8.heap.size) wc e w3) :
    ∃ u:MT,e=.returned u.c.val∧ObS W8 b8 d (n+1) u (put0 w3 b8 u.c)∧BoxT w3 b8 t.c:=by
  obtain ⟨u,he,ho,hm,hk,hv,hi,hb3⟩:=hS
  have hs1:=hb.size;have hs3:=hb3.size;have hlt:=h.lt;have hsw:=h.but.size
  have hb03:Below wr.heap.size wr w3:=hb.trans (hb3.mono hs1)
  have hbox:BoxT w3 b8 t.c:=h.box.on (hb03.block _ h.box.lt)
  have hput:=put0_but w3 b8 u.c
  have l1:=put1_len t.k p q s hp.pq hp.ql
  have l2:=put1_len t.v p q x hp.pq (by rw [h.kv];exact hp.ql)
  have hpq:=hp.pq
  refine ⟨u,he,⟨(h.but.trans (But.of_below hb03)).trans hput,h.lt,put0_box hbox,ho,hm,?_,?_,?_,?_,?_,?_⟩,hbox⟩
  · rw [hk,hv];have:=h.kv;omega
  · rw [hk];have:=h.le;omega
  · rw [hk];exact spl_ris h.ris hp
  · intro y hy
    rw [hk] at hy
    rcases put1_mem hy with hy | rfl
    · exact h.ok y hy
    · exact hs
  · intro y hy
    rw [hv] at hy
    rcases put1_mem hy with hy | rfl
    · exact h.fit y hy
    · exact hf
  · exact hi.to hput.size (fun k hk1 hk2=>hput.block k hk1 (fun e=>hk2 (by omega))) (fun _ _ h=>h) (fun _ h=>h)
def OBL (W8:World) (b8:Nat) (v0:Value) (d m g:Nat) (u iv:Value) (wr:World):Prop :=
  ∃ (i:Nat) (t:MT),i≤m∧m - i≤g∧iv=.int .i64 (i:Int)∧(∀ W,IntsV W v0→IntsV W u)∧ObS W8 b8 d i t wr
theorem risesB_of {l:List ByteArray} (hr:Ris l) (ho:∀ s∈l,okN s=true):risesB l=true:=by
  rw [risesB_iff]
  intro i hi
  have h1:okN (l.getD i ByteArray.empty)=true:=ho _ (by simp [List.getD,hi])
  unfold nameAt
  rw [h1]
  by_cases h0:i=0
  · simp [h0]
  · have:=hr (i - 1) i (by omega) hi
    simp
    exact .inr (by simpa using this)
theorem obj_end {d d' n:Nat} {v0 u0:Value} {w W8 W:World} {b8:Nat} {t:MT} (hd:d=d'+1) (hb:Below w.heap.size w W8) (hb8:w.heap.size<b8) (h1:∀ W,IntsV W v0→IntsV W u0) (h:ObS W8 b8 d' n t W) (hl:n≤3) :
    MadeP d v0 w (.returned (.tuple #[t.c.val,u0])) (put0 W w.heap.size t.c):=by
  subst hd
  have hs:=h.but.size;have hlt:=h.lt;have hsb:=hb.size;have hle:=h.le
  refine made_end rfl (hb.trans (h.but.below (by omega) hb.size)) h1 ?_ ⟨?_,by rw [h.kv];omega,h.fit⟩
  · exact h.ind.to (Nat.le_refl _) (fun _ _ _=>rfl) (fun k hk (hx:k<w.heap.size∨k=w.heap.size)=>show k<W8.heap.size by omega) (fun _ h=>h)
  · obtain ⟨ka,kc,va,vc,e⟩:=h.obj
    have e3:t.k.all (fun k=>decide (k.size≤3))=true:=List.all_eq_true.2 fun s hs=>decide_eq_true (h.ok s hs).2
    unfold fitB smB soundB
    rw [e,e3,h.tm]
    have e1:=risesB_of h.ris (fun s hs=>(h.ok s hs).1)
    have e2:t.k.length≤300:=by omega
    simp [objC7,blankB,e1,e2]
    exact ⟨rfl,rfl⟩
end Go.Proofs.YtnacbakcalcgaaaGreatDoor
