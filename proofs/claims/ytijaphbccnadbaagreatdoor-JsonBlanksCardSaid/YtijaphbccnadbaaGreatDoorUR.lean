/- Texts of the claim. -/
import Derived.Test.YtijaphbccnadbaaGreatDoorUQ
set_option linter.unusedVariables false
set_option linter.unusedSimpArgs false
set_option maxHeartbeats 4000000
set_option maxRecDepth 100000
namespace Go.Proofs.YtijaphbccnadbaaGreatDoor
open Go.RowKit Go.Shelf
mutual
/-- A tree without bytes,without its addresses. -/
def clnM:MT→MT | .mk c m k v=>if c.k=5 then leafT 1 false ⟨#[]⟩ else .mk c.bare m k (clnML v)
def clnML:List MT→List MT | []=>[] | t::l=>clnM t::clnML l
end
theorem clnML_map (l:List MT):clnML l=l.map clnM:=by
  induction l with
  | nil=>rw [clnML];rfl
  | cons t l ih=>rw [clnML,ih];rfl
theorem clnM_eq (t:MT):clnM t=if t.c.k=5 then leafT 1 false ⟨#[]⟩ else .mk t.c.bare t.m t.k (t.v.map clnM):=by
  obtain ⟨c,m,k,v⟩:=t
  rw [clnM,clnML_map];rfl
def CleanP (t:MT) (Y:Nat→Prop) (w:World) (e:Ending) (w':World):Prop:=∃ u:MT,e=.returned u.c.val∧Ind (fun k=>Y k∧k<w.heap.size) w' (fun W=>Rep W u)∧u.bare=clnM t∧Below w.heap.size w w'
def CXp (Y:Nat→Prop) (Wb:World) (b:Nat) (v:Value) (k:Nat):Prop:=(Y k∧k<Wb.heap.size)∨k=b∨v.ownBlock=some k
def CRp (Y : Nat → Prop) (Wb Wc : World) (k : Int) (b0 neg : Bool) (mn : Nat) (e : Int) (st : ByteArray) (kn : Nat) (limbs : List Nat) (names : List ByteArray) (vals : List MT) (b : Nat) (a3 : Option Addr) (c3 : Nat) (a4 : Option Addr) (c4 n g : Nat) (i : Value) (wr : World) : Prop :=
  ∃ (us : List MT) (va : Option Addr) (vc : Nat), us.length ≤ n ∧ n - us.length ≤ g ∧ i = .int .i64 (us.length : Int) ∧ BoxT wr b ⟨k, b0, neg, a3, mn, c3, e, st, a4, kn, c4, va, us.length, vc⟩ ∧
    wr.ownsRow Wc.heap.size 28 8 (.slice va us.length vc) us.length (flat (us.map MT.c)) ∧ Ind (CXp Y Wb b (.slice va us.length vc)) wr (fun W => (Rd W a3 limbs ∧ RdV W a4 (sv names)) ∧ ∀ u ∈ us, Rep W u) ∧ us.map MT.bare = (vals.take us.length).map clnM ∧ Below Wb.heap.size Wb wr ∧ Wc.heap.size ≤ wr.heap.size
theorem crp_step {Y:Nat→Prop} {Wb Wc:World} {k:Int} {b0 neg:Bool} {mn:Nat} {e:Int} {st:ByteArray} {kn:Nat} {limbs:List Nat} {names:List ByteArray} {vals:List MT} {b:Nat} {a3:Option Addr} {c3:Nat} {a4:Option Addr} {c4 n g:Nat} {wr w1 w5:World} {us:List MT} {va:Option Addr} {vc:Nat} {x:MT} {gg cap:Nat}
    (hbb:Wb.heap.size≤b) (hbc:b<Wc.heap.size) (hlt:us.length<n) (hn:n=vals.length) (hg:n - us.length≤g+1) (hbx:BoxT wr b ⟨k,b0,neg,a3,mn,c3,e,st,a4,kn,c4,va,us.length,vc⟩) (ho:wr.ownsRow Wc.heap.size 28 8 (.slice va us.length vc) us.length (flat (us.map MT.c)))
    (hi:Ind (CXp Y Wb b (.slice va us.length vc)) wr (fun W=>(Rd W a3 limbs∧RdV W a4 (sv names))∧∀ u∈us,Rep W u)) (hm:us.map MT.bare=(vals.take us.length).map clnM) (hw:Below Wb.heap.size Wb wr) (hs:Wc.heap.size≤wr.heap.size)
    (h1:Below wr.heap.size wr w1) (hx:Ind (fun k=>Y k∧k<wr.heap.size) w1 (fun W=>Rep W x)) (hB0:∀ k,Wb.heap.size≤k→Y k) (hxb:x.bare=clnM (vals.getD us.length (leafT 0 false ⟨#[]⟩)))
    (ho5:w5.ownsRow Wc.heap.size 28 8 (.slice (some ⟨gg,0,none⟩) (us.length+1) cap) (us.length+1) (flat (us.map MT.c)++x.c.cells)) (hg5:(w1.alloc (.cells x.c.cells.toArray 28)).grownBy w5 (Value.slice va us.length vc).ownBlock)
    (hor:(Value.slice va us.length vc).ownBlock=some gg∨gg=(w1.alloc (.cells x.c.cells.toArray 28)).heap.size) :
    CRp Y Wb Wc k b0 neg mn e st kn limbs names vals b a3 c3 a4 c4 n g (.int .i64 ((us.length:Int)+1)) (w5.setCell ⟨b,7,none⟩ (.slice (some ⟨gg,0,none⟩) (us.length+1) cap)):=by
  obtain ⟨_,_,e0,_,_,_,ha0,_⟩:=own_viewN ho
  cases e0
  have hown:∀ j,(Value.slice va us.length vc).ownBlock=some j→Wc.heap.size≤j∧j<wr.heap.size:=by
    intro j hj
    cases va with
    | none=>cases hj
    | some a=>simp only [Value.ownBlock,Option.some.injEq] at hj;have:=ha0 a rfl;omega
  have hgg:Wc.heap.size≤gg:=by
    rcases hor with h | h
    · exact (hown gg h).1
    · have:=h1.size;simp at h;omega
  have s1:=h1.size
  have s5:=hg5.size
  simp only [World.size_alloc] at s5
  have hblk:∀ j,j<w1.heap.size→some j ≠ (Value.slice va us.length vc).ownBlock→w5.heap[j]? = w1.heap[j]?:=fun j hj hne=>by
    rw [hg5.block j (by simp;omega) hne,Below.heap_alloc _ _ _ hj]
  have hset:∀ j,j ≠ b→(w5.setCell ⟨b,7,none⟩ (.slice (some ⟨gg,0,none⟩) (us.length+1) cap)).heap[j]? = w5.heap[j]?:=fun j hj=>Below.heap_setCell _ _ _ _ (by simpa using hj)
  have hsz:(w5.setCell ⟨b,7,none⟩ (.slice (some ⟨gg,0,none⟩) (us.length+1) cap)).heap.size=w5.heap.size:=by simp [World.setCell]
  have hbw:b<wr.heap.size:=hbx.lt
  have hbo:some b ≠ (Value.slice va us.length vc).ownBlock:=fun h=>by have:=hown b h.symm;omega
  refine ⟨us++[x],some ⟨gg,0,none⟩,cap,by simp;omega,by simp;omega,by simp,?_,?_,?_,?_,?_,by rw [hsz];omega⟩
  · have h5:BoxT w5 b ⟨k,b0,neg,a3,mn,c3,e,st,a4,kn,c4,va,us.length,vc⟩:=hbx.on ((hblk b (by omega) hbo).trans (h1.block b hbw))
    have:=box_set h5 (some ⟨gg,0,none⟩) (us.length+1) cap
    simpa using this
  · have e1:flat ((us++[x]).map MT.c)=flat (us.map MT.c)++x.c.cells:=by rw [List.map_append,List.map_cons,List.map_nil,flat_append1]
    rw [e1,show (us++[x]).length=us.length+1 by simp]
    exact own_other ho5 (fun j hj=>hset j (fun e=>by simp only [Value.ownBlock,Option.some.injEq] at hj;omega))
  · have hl:(us++[x]).length=us.length+1:=by simp
    rw [hl]
    have i1:Ind (CXp Y Wb b (.slice (some ⟨gg,0,none⟩) (us.length+1) cap)) (w5.setCell ⟨b,7,none⟩ (.slice (some ⟨gg,0,none⟩) (us.length+1) cap)) (fun W=>(Rd W a3 limbs∧RdV W a4 (sv names))∧∀ u∈us,Rep W u):=by
      refine (hi.below h1).to (by omega) (fun j hj hxj=>?_) (fun j hj hy=>?_) (fun _ h=>h)
      · rw [hset j (fun e=>hxj (.inr (.inl e))),hblk j hj (fun e=>hxj (.inr (.inr e.symm)))]
      · rcases hy with h | h | h
        · exact .inl h
        · exact .inr (.inl h)
        · simp only [Value.ownBlock,Option.some.injEq] at h
          rcases hor with h2 | h2
          · exact .inr (.inr (by rw [h2,h]))
          · simp at h2;omega
    have i2:Ind (CXp Y Wb b (.slice (some ⟨gg,0,none⟩) (us.length+1) cap)) (w5.setCell ⟨b,7,none⟩ (.slice (some ⟨gg,0,none⟩) (us.length+1) cap)) (fun W=>Rep W x):=by
      refine hx.to (by omega) (fun j hj hxj=>?_) (fun j hj hy=>?_) (fun _ h=>h)
      · rw [hset j (fun e=>hxj ⟨hB0 j (by omega),by omega⟩),hblk j hj (fun e=>hxj (by have:=hown j e.symm;exact ⟨hB0 j (by omega),by omega⟩))]
      · have:=hw.size
        rcases hy with h | h | h
        · exact ⟨h.1,by omega⟩
        · exact ⟨hB0 j (by omega),by omega⟩
        · simp only [Value.ownBlock,Option.some.injEq] at h
          rcases hor with h2 | h2
          · have:=hown gg h2;exact ⟨hB0 j (by omega),by omega⟩
          · simp at h2;omega
    intro W q1 q2
    obtain ⟨p1,p2⟩:=i1 W q1 q2
    refine ⟨p1,fun u hu=>?_⟩
    rcases List.mem_append.1 hu with hu | hu
    · exact p2 u hu
    · rw [List.mem_singleton.1 hu];exact i2 W q1 q2
  · have hl:us.length<vals.length:=by omega
    rw [show (us++[x]).length=us.length+1 by simp,List.take_succ_eq_append_getElem hl,List.map_append,List.map_append,hm]
    congr 1
    simp only [List.map_cons,List.map_nil,hxb]
    simp [List.getD,hl]
  · have g1:=(hw.trans (h1.mono hw.size)).alloc (hw.trans (h1.mono hw.size)).size (.cells x.c.cells.toArray 28)
    exact (g1.grown hg5 (by have:=hw.size;simp;omega) (fun j hj=>by have:=hown j hj;omega)).setCell hbb _
theorem clean_any (Y:Nat→Prop) (t:MT):∀ w:World,(∀ k,w.heap.size≤k→Y k)→Sml t→Ind Y w (fun W=>Rep W t)→Calls Tryz.prog 43 #[t.c.val] w (CleanP t Y w):=by
  refine MT.ind (P:=fun t=>∀ w:World,(∀ k,w.heap.size≤k→Y k)→Sml t→Ind Y w (fun W=>Rep W t)→Calls Tryz.prog 43 #[t.c.val] w (CleanP t Y w)) ?_ t
  intro t ih w hY hS hI
  have hR:=hI.here
  have own:=hR.own
  obtain ⟨hs1,hs2,hs3⟩:=hS t t.sub_refl
  obtain ⟨Wb,hWb⟩:∃ x,two2 w t.c (leafC 0 false ⟨#[]⟩)=x:=⟨_,rfl⟩
  have hb0:Below w.heap.size w Wb:=by rw [← hWb];exact two_below2 _ _ _
  have hsz:Wb.heap.size=w.heap.size+2:=by rw [← hWb,two2_size]
  have HY:=Lib.hid hY
  have HB00:=Lib.hid (fun k (h:Wb.heap.size≤k)=>hY k (by omega))
  have HB0:=Lib.hid hb0
  have HBX:=Lib.hid (fun W (h:Below Wb.heap.size Wb W)=>(by
    rw [← hWb] at h
    exact (two2_box w t.c (leafC 0 false ⟨#[]⟩)).1.on (h.block _ (by rw [two2_size];omega)):BoxT W w.heap.size t.c))
  have HBR:=Lib.hid (fun W (h:Below Wb.heap.size Wb W)=>(by
    rw [← hWb] at h
    exact (two2_box w t.c (leafC 0 false ⟨#[]⟩)).2.on (h.block _ (by rw [two2_size];omega)):BoxT W (w.heap.size+1) (leafC 0 false ⟨#[]⟩)))
  have HV:=Lib.hid (fun W (h:Below Wb.heap.size Wb W)=>(own.vr.on hb0).on h)
  have HVL:=Lib.hid own.vn
  have KI:=Lib.hid (fun (j:Nat) (hj:j<t.v.length) (W:World) (h:Below Wb.heap.size Wb W)=>ih (t.v.getD j (leafT 0 false ⟨#[]⟩)) (by simp [List.getD,hj]) W (fun k hk=>hY k (by have:=h.size;omega)) (hS.part (by simp [List.getD,hj])) (((show Ind Y w (fun W=>Rep W (t.v.getD j (leafT 0 false ⟨#[]⟩))) from fun W2 p1 p2=>(hI W2 p1 p2).part (by simp [List.getD,hj])).below hb0).below h))
  have HT:=Lib.hid (⟨own.mo,own.lm,own.ls,own.lk,own.le,own.lq,own.mn,own.kn⟩:_∧_∧_∧_∧_∧_∧_∧_)
  have HTB:=Lib.hid (clnM_eq t)
  have HRL:=Lib.hid (show Ind Y Wb (fun W=>Rd W t.c.ma t.m∧RdV W t.c.ka (sv t.k)) from (hI.below hb0).to (Nat.le_refl _) (fun _ _ _=>rfl) (fun _ _ h=>h) (fun W h=>⟨h.own.mr,h.own.kr⟩))
  have HMC:=Lib.hid own.mc;have HKC:=Lib.hid own.kc
  have HZ:=Lib.hid hsz
  have hwb:=hWb
  unfold CleanP
  clear hb0 hsz own hR hS ih hWb hs1 hs2 hI hY
  generalize clnM t=tb at *
  generalize t.k=names at *
  generalize t.v=vals at *
  generalize t.m=limbs at *
  generalize t.c=c at *
  obtain ⟨k,b0,neg,ma,mn,mc,e,st,ka,kn,kc,va,vn,vc⟩:=c
  unfold Cel.val
  unfold two2 leafC Cel.cells at hwb
  simp only at hwb HV HVL HT HTB hs3 HRL HMC HKC
  have HWB:=Lib.hid hwb
  clear hwb
  have hg1:w.heap.size<Wb.heap.size:=by have:=HZ.out;omega
  have HF:=Lib.hid (fun W (h:Below Wb.heap.size Wb W)=>(HBX.out W h).cells)
  obtain ⟨q0,q1,q2,q3,q4,q5,q6,q7⟩:=HF.out Wb (Below.refl _ _)
  simp only at q0 q1 q2 q3 q4 q5 q6 q7
  by_cases hk5:k=5
  · subst hk5
    have htb:=HTB.out
    rw [if_pos rfl] at htb
    subst htb
    have hvar:=(HBR.out Wb (Below.refl _ _)).var
    unfold Var at hvar
    obtain ⟨⟨g0,g1,g2,g3,g4,g5,g6,g7⟩,f0,f1,f2,f3,f4,f5,f6,f7⟩:=hvar
    simp only [leafC] at g0 g1 g2 g3 g4 g5 g6 g7
    obtain ⟨W2,hW2⟩:∃ x,put0 Wb (w.heap.size+1) (leafC 1 false ⟨#[]⟩)=x:=⟨_,rfl⟩
    have hbox2:BoxT W2 (w.heap.size+1) (leafC 1 false ⟨#[]⟩):=by rw [← hW2];exact put0_box (HBR.out Wb (Below.refl _ _))
    have hbut:But (w.heap.size+1) Wb W2:=by rw [← hW2];exact put0_but _ _ _
    have HFIN:=Lib.hid (show ∃ u:MT,Ending.returned (.agg #[.int .i64 1,.bool false,.bool false,.slice none 0 0,.int .i64 0,.string ⟨#[]⟩,.slice none 0 0,.slice none 0 0])=.returned u.c.val∧Ind (fun k=>Y k∧k<w.heap.size) W2 (fun W=>Rep W u)∧u.bare=leafT 1 false ⟨#[]⟩∧Below w.heap.size w W2 from
      ⟨leafT 1 false ⟨#[]⟩,rfl,fun W _ _=>leafT_rep W 1 false ⟨#[]⟩ (by decide) (by decide),(by rw [MT.bare_eq];rfl),HB0.out.trans (hbut.below (by omega) (by have:=HZ.out;omega))⟩)
    have hw2:=hW2
    unfold put0 leafC at hw2
    simp only at hw2
    obtain ⟨d0,d1,d2,d3,d4,d5,d6,d7⟩:=hbox2.cells
    simp only [leafC] at d0 d1 d2 d3 d4 d5 d6 d7
    clear hbox2 hbut hW2
    go_enter Tryz.func43,Tryz.ntmps43
    go_upto_region 1 with fail
    rw [HWB.out]
    go_wp2
    exact bodyPost_ret (v:=.agg #[.int .i64 1,.bool false,.bool false,.slice none 0 0,.int .i64 0,.string ⟨#[]⟩,.slice none 0 0,.slice none 0 0]) (by simp [results,Tryz.results43,go_sem,d0,d1,d2,d3,d4,d5,d6,d7]) rfl HFIN.out
  · have htb:=HTB.out
    rw [if_neg hk5] at htb
    have HTB:=Lib.hid htb
    clear htb
    have hk5z:(k == (5:Int))=false:=by rw [beq_eq_false_iff_ne];exact hk5
    obtain ⟨Wc,hWc⟩:∃ x,Wb.alloc (.cells #[.int .i64 k,.bool b0,.bool neg,.slice ma mn mc,.int .i64 e,.string st,.slice ka kn kc,.slice none 0 0] 28)=x:=⟨_,rfl⟩
    have hbw:Below Wb.heap.size Wb Wc:=by rw [← hWc];exact (Below.refl _ _).alloc (Nat.le_refl _) _
    have hbx:BoxT Wc Wb.heap.size ⟨k,b0,neg,ma,mn,mc,e,st,ka,kn,kc,none,0,0⟩:=by rw [← hWc];exact heap_alloc_new Wb _
    obtain ⟨b,hb⟩:∃ b,Wb.heap.size=b:=⟨_,rfl⟩
    have hbb:Wb.heap.size≤b:=Nat.le_of_eq hb
    have hbc:b<Wc.heap.size:=by rw [← hb];exact hbx.lt
    have HST:=Lib.hid (show CRp Y Wb Wc k b0 neg mn e st kn limbs names vals b ma mc ka kc vn vn (.int .i64 0) Wc from
      ⟨[],none,0,Nat.zero_le _,by simp,rfl,by rw [← hb];exact hbx,World.ownsRow_nil _ _ _ _,(HRL.out.below hbw).to (Nat.le_refl _) (fun _ _ _=>rfl) (fun j _ h=>by rcases h with h | h | h;exact h.1;exact HB00.out j (by omega);cases h) (fun W h=>⟨h,fun u hu=>by cases hu⟩),rfl,hbw,Nat.le_refl _⟩)
    have HBB:=Lib.hid hbb;have HBC:=Lib.hid hbc
    have HC3:=HMC;have HC4:=HKC
    have HWC:=Lib.hid hWc
    have hvn:vn≤1000000:=hs3
    clear hbx hbw hbb hbc hWc
    go_enter Tryz.func43,Tryz.ntmps43
    go_upto_region 1 with fail
    rw [HWB.out]
    go_upto_region 4 with fail
    rw [HWC.out]
    go_wp2
    go_loopg [4] vn (fun g i wr=>CRp Y Wb Wc k b0 neg mn e st kn limbs names vals b ma mc ka kc vn g i wr)
    case atStart=>exact HST.out
    case round =>
      clear HST
      obtain ⟨us,va',vc',hul,hug,rfl,hbx,ho,hi,hm,hw,hs⟩:=hrel
      have HBQ:=Lib.hid hbx;have HO:=Lib.hid ho;have HI:=Lib.hid hi;have HM:=Lib.hid hm;have HBW:=Lib.hid hw;have HS:=Lib.hid hs
      have HUL:=Lib.hid (show us.length≤1000000 by omega)
      by_cases hlt:us.length<vn
      · obtain ⟨g,rfl⟩:∃ g,gk=g+1:=⟨gk - 1,by omega⟩
        have hltz:(us.length:Int)<(vn:Int):=by omega
        have hu6:(us.length:Int)≤1000000:=by omega
        have hjl:us.length<vals.length:=by rw [HVL.out];exact hlt
        have hrd:=HV.out wr hw
        obtain ⟨xbk,xo,rfl,hxl⟩:=hrd.shape (by rw [flat_len,List.length_map];omega)
        have hxx:=flat_at hrd us.length (by rw [List.length_map];omega) (c:=(vals.getD us.length (leafT 0 false ⟨#[]⟩)).c) (getD_mapc hjl _)
        have hxb:xbk<Wb.heap.size:=by
          obtain ⟨_,_,e,h⟩:=(HV.out Wb (Below.refl _ _)).shape (by rw [flat_len,List.length_map];omega)
          cases e;exact h
        have K:=Lib.hid (KI.out us.length hjl)
        have HNX:=Lib.hid (fun w1 y w5 gg cap (h1:Below wr.heap.size wr w1) (hx:Ind (fun k=>Y k∧k<wr.heap.size) w1 (fun W=>Rep W y)) (hxb:y.bare=clnM (vals.getD us.length (leafT 0 false ⟨#[]⟩))) ho5 hg5 hor=>crp_step (Y:=Y) (gg:=gg) (cap:=cap) (w5:=w5) (g:=g) (n:=vn) HBB.out HBC.out hlt HVL.out.symm hug hbx ho hi hm hw hs h1 hx HB00.out hxb ho5 hg5 hor)
        have hbw:b<wr.heap.size:=hbx.lt
        have hwt:w.heap.size<wr.heap.size:=(HBX.out wr hw).lt
        have z7:=(HF.out wr hw).2.2.2.2.2.2.2
        try simp only at z7
        have y7:=hbx.cells.2.2.2.2.2.2.2
        try simp only at y7
        have y8:=hbx.free 7
        have hown:∀ j,(Value.slice va' us.length vc').ownBlock=some j→Wc.heap.size≤j:=by
          intro j hj
          obtain ⟨_,_,e0,_,_,_,ha0,_⟩:=own_viewN ho
          cases e0
          cases va' with
          | none=>cases hj
          | some a=>simp only [Value.ownBlock,Option.some.injEq] at hj;have:=ha0 a rfl;omega
        generalize (vals.getD us.length (leafT 0 false ⟨#[]⟩)).c=cx at K hxx
        obtain ⟨xk,xb,xneg,xma,xmn,xmc,xe,xs,xka,xkn,xkc,xva,xvn,xvc⟩:=cx
        unfold Cel.val at K
        obtain ⟨x0,x1,x2,x3,x4,x5,x6,x7⟩:=hxx
        try simp only at x0 x1 x2 x3 x4 x5 x6 x7
        have HALG:=Lib.hid (fun (W:World) (h:∀ bb o,bb=w.heap.size∨bb=xbk∨bb=b→W.cell? ⟨bb,o,none⟩=wr.cell? ⟨bb,o,none⟩∧W.frozen? ⟨bb,o,none⟩=wr.frozen? ⟨bb,o,none⟩)=>And.intro (And.intro ((h w.heap.size 7 (.inl rfl)).1.trans z7) (And.intro ((h b 7 (.inr (.inr rfl))).1.trans y7) ((h b 7 (.inr (.inr rfl))).2.trans y8))) (And.intro ((h xbk (xo+us.length*8) (.inr (.inl rfl))).1.trans x0) (And.intro ((h xbk (xo+us.length*8+1) (.inr (.inl rfl))).1.trans x1) (And.intro ((h xbk (xo+us.length*8+2) (.inr (.inl rfl))).1.trans x2) (And.intro ((h xbk (xo+us.length*8+3) (.inr (.inl rfl))).1.trans x3) (And.intro ((h xbk (xo+us.length*8+4) (.inr (.inl rfl))).1.trans x4) (And.intro ((h xbk (xo+us.length*8+5) (.inr (.inl rfl))).1.trans x5) (And.intro ((h xbk (xo+us.length*8+6) (.inr (.inl rfl))).1.trans x6) ((h xbk (xo+us.length*8+7) (.inr (.inl rfl))).1.trans x7)))))))))
        have HALL:=Lib.hid (fun (W:World) (h:Below wr.heap.size wr W)=>HALG.out W (fun bb o hb=>⟨h.cell (p:=⟨bb,o,none⟩) (by rcases hb with rfl | rfl | rfl <;> assumption),h.frozen (p:=⟨bb,o,none⟩) (by rcases hb with rfl | rfl | rfl <;> assumption)⟩))
        have HALF:=Lib.hid (fun (W W':World) (h:Below wr.heap.size wr W) (hg:W.grownBy W' (Value.slice va' us.length vc').ownBlock)=>HALG.out W' (fun bb o hb=>(by
          have hlt:bb<wr.heap.size:=by rcases hb with rfl | rfl | rfl <;> assumption
          have hk:=hg.block bb (Nat.lt_of_lt_of_le hlt h.size) (fun e=>by have h1:=hown bb e.symm;have h2:=HBC.out;have h3:=hw.size;have h4:=HBB.out;rcases hb with rfl | rfl | rfl <;> omega)
          exact ⟨(World.cell?_of_block (a:=⟨bb,o,none⟩) hk).trans (h.cell (p:=⟨bb,o,none⟩) hlt),(World.frozen?_of_block (a:=⟨bb,o,none⟩) hk).trans (h.frozen (p:=⟨bb,o,none⟩) hlt)⟩)))
        have hnb1:w.heap.size ≠ b:=by have h1:=HZ.out;have h2:=HBB.out;omega
        have hnb2:xbk ≠ b:=by have h2:=HBB.out;omega
        clear hul hug hbx ho hi hm hw hs hrd hown
        go_wp2_with fail
        refine wp_norm (fun J hJ=>?_)
        have HJ:=Lib.hid hJ
        clear hJ
        go_region_law (first
            | (refine step_callT rfl 43 _ Tryz.func43 (by kernel_rfl) (by kernel_rfl) #[.tmp 33] _ rfl #[.agg #[.int .i64 xk,.bool xb,.bool xneg,.slice xma xmn xmc,.int .i64 xe,.string xs,.slice xka xkn xkc,.slice xva xvn xvc]] (by simp [Act.eval,Act.put]) (K.out _ (HBW.out.trans ((show Below wr.heap.size wr _ from by (repeat (first | with_reducible exact Below.refl _ _ | with_reducible exact HW5.out | with_reducible refine below_drew ?_ | with_reducible refine Below.alloc ?_ (by first | exact HW5.out.size | exact Nat.le_refl _) _))).mono HBW.out.size))) ?_;rintro r5 w5 ⟨y,hr5,hy5,hyb5,h5⟩;have HW5:=Lib.hid (show Below wr.heap.size wr w5 from by with_reducible exact bdc h5);have HY5:=Lib.hid hy5;have HYB:=Lib.hid hyb5;obtain ⟨cy,hcy⟩:∃ c,y.c=c:=⟨_,rfl⟩;rw [hcy] at hr5;obtain ⟨yk,yb,yneg,yma,ymn,ymc,ye,ys,yka,ykn,ykc,yva,yvn,yvc⟩:=cy;have HCY:=Lib.hid hcy;unfold Cel.val at hr5;simp only at hr5;subst hr5;obtain ⟨⟨_,yy7,yy8⟩,_⟩:=HALL.out w5 HW5.out;have hb5:b<w5.heap.size:=(by have h1:=HW5.out.size;omega);clear hy5 hyb5 h5 hcy;refine ⟨_,rfl,?_⟩)
            | (refine step_appT rfl (.tmp 28) (.tmp 35) rfl Wc.heap.size (.slice va' us.length vc') us.length (flat (us.map MT.c)) (by simp [Act.eval,Act.put]) (own_onN HO.out (by (repeat (first | with_reducible exact Below.refl _ _ | with_reducible exact HW5.out | with_reducible refine below_drew ?_ | with_reducible refine Below.alloc ?_ (by first | exact HW5.out.size | exact Nat.le_refl _) _)))) ⟨w5.heap.size,0,none⟩ 1 ⟨yk,yb,yneg,yma,ymn,ymc,ye,ys,yka,ykn,ykc,yva,yvn,yvc⟩ (by simp [Act.eval,Act.put]) (rdv_new _ _ _) (by have:=HUL.out;omega) (by have:=HS.out;have:=HW5.out.size;simp;omega) ?_;intro gg cap w7 ho7 hg7 hor;have HF9:=Lib.hid (HALF.out _ _ (by (repeat (first | with_reducible exact Below.refl _ _ | with_reducible exact HW5.out | with_reducible refine below_drew ?_ | with_reducible refine Below.alloc ?_ (by first | exact HW5.out.size | exact Nat.le_refl _) _))) hg7);have HF7:=Lib.hid (And.intro HF9.out.1.1 HF9.out.2);have HF8:=Lib.hid (fun v=>set_cells (w:=w7) (b:=b) v hnb1 hnb2 HF9.out.1.1 HF9.out.2);have HN:=Lib.hid (HNX.out w5 y w7 gg cap HW5.out HY5.out HYB.out (by rw [HCY.out];exact ho7) (by rw [HCY.out];exact hg7) (by rw [HCY.out];exact hor));obtain ⟨⟨_,yw7,yw8⟩,_⟩:=HF9.out;have hb7:b<w7.heap.size:=(by have h1:=hg7.size;have h2:=HW5.out.size;simp at h1;omega);clear ho7 hg7 hor))
        all_goals
          refine HJ.out _ _ ?_
          try dsimp
          go_wp2
          go_roundg g
          case rel=>exact HN.out
          case measure=>omega
      · have hltz:¬ (us.length:Int)<(vn:Int):=by omega
        have hun:us.length=vn:=by omega
        have z7:=(HF.out wr hw).2.2.2.2.2.2.2
        obtain ⟨y0,y1,y2,y3,y4,y5,y6,y7⟩:=hbx.cells
        simp only at y0 y1 y2 y3 y4 y5 y6 y7
        have hvar:=(HBR.out wr hw).var
        unfold Var at hvar
        obtain ⟨⟨g0,g1,g2,g3,g4,g5,g6,g7⟩,f0,f1,f2,f3,f4,f5,f6,f7⟩:=hvar
        simp only [leafC] at g0 g1 g2 g3 g4 g5 g6 g7
        have hbw:b<wr.heap.size:=hbx.lt
        have hwt:w.heap.size<wr.heap.size:=(HBX.out wr hw).lt
        have hwr:w.heap.size+1<wr.heap.size:=(HBR.out wr hw).lt
        obtain ⟨W2,hW2⟩:∃ x,put0 wr (w.heap.size+1) ⟨k,b0,neg,ma,mn,mc,e,st,ka,kn,kc,va',us.length,vc'⟩=x:=⟨_,rfl⟩
        have hbox2:BoxT W2 (w.heap.size+1) ⟨k,b0,neg,ma,mn,mc,e,st,ka,kn,kc,va',us.length,vc'⟩:=by rw [← hW2];exact put0_box (HBR.out wr hw)
        have hbut:But (w.heap.size+1) wr W2:=by rw [← hW2];exact put0_but _ _ _
        have HFIN:=Lib.hid (show ∃ u:MT,Ending.returned (.agg #[.int .i64 k,.bool b0,.bool neg,.slice ma mn mc,.int .i64 e,.string st,.slice ka kn kc,.slice va' us.length vc'])=.returned u.c.val∧Ind (fun k=>Y k∧k<w.heap.size) W2 (fun W=>Rep W u)∧u.bare=tb∧Below w.heap.size w W2 from by
          obtain ⟨ad0,cap0,e0,hvc,hvr,_,ha0,_⟩:=own_viewN ho
          cases e0
          obtain ⟨t1,t2,t3,t4,t5,t6,t7,t8⟩:=HT.out
          have hbz:=HB0.out.size
          refine ⟨.mk ⟨k,b0,neg,ma,mn,mc,e,st,ka,kn,kc,va',us.length,vc'⟩ limbs names us,rfl,?_,?_,?_⟩
          · have i1:Ind (fun k=>Y k∧k<w.heap.size) W2 (fun W=>(Rd W ma limbs∧RdV W ka (sv names))∧∀ u∈us,Rep W u) :=
              hi.to hbut.size (fun j hj hxj=>hbut.block j hj (fun e=>hxj (.inl ⟨HY.out j (by omega),by have:=HZ.out;omega⟩))) (fun j hj hy=>.inl ⟨hy.1,by have:=HZ.out;omega⟩) (fun _ h=>h)
            have i2:Ind (fun k=>Y k∧k<w.heap.size) W2 (fun W=>RdV W va' (flat (us.map MT.c))) :=
              (ind_rdv (X:=fun k=>(Y k∧k<w.heap.size)∨k=w.heap.size+1) hvr (fun a e h=>by have h1:=(ha0 a e).1;have h2:=HBC.out;have h3:=HBB.out;have h4:=HZ.out;omega)).to hbut.size (fun j hj hxj=>hbut.block j hj (fun e=>hxj (.inr e))) (fun j hj hy=>.inl hy) (fun _ h=>h)
            intro W q1 q2
            obtain ⟨⟨p1,p2⟩,p3⟩:=i1 W q1 q2
            exact Rep.mk ⟨t7,HC3.out,t1,p1,t8,HC4.out,p2,rfl,hvc,i2 W q1 q2,⟨t2.1,t2.2.1,by show us.length≤_;omega⟩,t3,t4,t5,t6⟩ p3
          · rw [HTB.out,MT.bare_eq]
            show MT.mk _ _ _ _=_
            have hl:=HVL.out
            rw [show (MT.mk ⟨k,b0,neg,ma,mn,mc,e,st,ka,kn,kc,va',us.length,vc'⟩ limbs names us).v=us from rfl,hm,hun,List.take_of_length_le (by omega)]
            simp [Cel.bare,hun,MT.c]
            exact ⟨rfl,rfl⟩
          · exact (HB0.out.trans (hw.mono hbz)).trans (hbut.below (by omega) (by omega)))
        have hw2:=hW2
        unfold put0 at hw2
        simp only at hw2
        obtain ⟨d0,d1,d2,d3,d4,d5,d6,d7⟩:=hbox2.cells
        simp only at d0 d1 d2 d3 d4 d5 d6 d7
        clear hbox2 hbut hW2 hug hul hbx ho hi hm hw hs hun
        go_wp2
        exact bodyPost_ret (v:=.agg #[.int .i64 k,.bool b0,.bool neg,.slice ma mn mc,.int .i64 e,.string st,.slice ka kn kc,.slice va' us.length vc']) (by simp [results,Tryz.results43,go_sem,d0,d1,d2,d3,d4,d5,d6,d7]) rfl HFIN.out
end Go.Proofs.YtijaphbccnadbaaGreatDoor
