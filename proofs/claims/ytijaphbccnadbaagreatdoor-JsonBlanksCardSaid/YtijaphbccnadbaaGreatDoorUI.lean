/- Texts of the claim. -/
import Derived.Test.YtijaphbccnadbaaGreatDoorUB
import Derived.Test.YtijaphbccnadbaaGreatDoorUH
set_option linter.unusedVariables false
set_option linter.unusedSimpArgs false
set_option maxHeartbeats 8000000
set_option maxRecDepth 100000
namespace Go.Proofs.YtijaphbccnadbaaGreatDoor
open Go.RowKit Go.Shelf Go.Lib Go.Sort
theorem wp_appS {w:World} {o:Oper} {a:Act} {K:Act→World→Prop} {Q:Exit→Act→World→Prop} (hgd:o.guard=none) (s x:Operand)
    (ho:o.op=.call { callee:=.builtin .append,args:=#[s,x],argTypes:=#[25,25] }) (B:Nat) (v:Value) (n:Nat) (xs:List Value) (hs:a.eval s=v) (hown:w.ownsRow B 9 1 v n xs)
    (ad:Addr) (c:Nat) (y:ByteArray) (hx:a.eval x=.slice (some ad) 1 c) (hr:RdV w (some ad) [.string y]) (hn:n≤1000000000) (hB:B≤w.heap.size)
    (h:∀ g cap w',w'.ownsRow B 9 1 (.slice (some ⟨g,0,none⟩) (n+1) cap) (n+1) (xs++[.string y])→w.grownBy w' v.ownBlock→(v.ownBlock=some g∨g=w.heap.size)→K (a.put o.dst (.slice (some ⟨g,0,none⟩) (n+1) cap)) w') :
    o.wp Tryz.prog a w K Q:=by
  obtain ⟨i0,hi,hz0,hz1,hz2⟩:=info_parts info_string
  have:=step_append_lies (ops:=#[]) (E:=True) (Q:=Q) (K:=K) w hgd s x 25 ho B 9 i0 (.string ⟨#[]⟩) 1 16 Tryz.underlying25 hi hz0 hz1 hz2 rfl (by decide) v n xs hs hown ad 1 c [.string y] hx rfl (by
    intro j u hj
    have hjl:j < [Value.string y].length:=(List.getElem?_eq_some_iff.1 hj).1
    obtain ⟨b,o',e,_,hc⟩:=hr j hjl
    cases e
    have hadd:(⟨b,o',none⟩:Addr).add j=⟨b,o'+j,none⟩:=by unfold Addr.add;split <;> simp_all
    rw [hadd,hc,hj]) (by intro u hu;rw [List.mem_singleton.1 hu];rfl) (by decide) (by unfold maxLen;omega) (by omega) hB _ rfl (fun g cap w' h1 h2 h3 _=>h g cap w' h1 h2 h3)
  rwa [if_pos (by simp [Region.wanted,hgd])] at this
structure NmK (B bk:Nat) (ks:List ByteArray) (ka:Option Addr) (kc:Nat) (W:World):Prop where
  bx:W.heap[bk]? = some (.cells #[.slice ka ks.length kc] 25)
  ow:W.ownsRow B 9 1 (.slice ka ks.length kc) ks.length (sv ks)
structure StaO (w:World) (g bi br bk B:Nat):Prop where
  st:StaJ w g bi br B
  hk:w.heap.size≤bk
  hk2:bk<B
  hki:bk ≠ bi
  hkr:bk ≠ br
theorem NmK.ck {B bk:Nat} {ks:List ByteArray} {ka:Option Addr} {kc:Nat} {W:World} (h:NmK B bk ks ka kc W):W.cell? ⟨bk,0,none⟩=some (.slice ka ks.length kc):=by simp [World.cell?,h.bx]
theorem NmK.on {w:World} {g bi br bk B:Nat} {ks:List ByteArray} {ka:Option Addr} {kc:Nat} {W W':World} (h:NmK B bk ks ka kc W) (hs:StaO w g bi br bk B) (hB:B≤W.heap.size) (ho:Oth g W W'):NmK B bk ks ka kc W':=by
  have h1:=hs.st.hg;have h2:=hs.hk;have h3:=hs.hk2
  refine ⟨(ho.block bk (by omega) (by omega)).trans h.bx,own_other h.ow (fun k hk=>?_)⟩
  have:=ownJ h.ow hk
  exact ho.block k this.2 (by omega)
theorem own_cellsJ {w:World} {B:Nat} {e:TypeId} {size:Nat} {v:Value} {n:Nat} {xs:List Value} (h:w.ownsRow B e size v n xs) {k:Nat} (hk:v.ownBlock=some k):∃ cs,w.heap[k]? = some (.cells cs e (0,0)):=by
  rcases h.2 with ⟨rfl,_⟩ | ⟨g,cap,cur,rfl,hB,hg,_⟩
  · cases hk
  · simp only [Value.ownBlock,Option.some.injEq] at hk
    subst hk
    exact ⟨cur,hg⟩
theorem own_twoJ {w:World} {B B':Nat} {e e':TypeId} {size size':Nat} {v v':Value} {n n':Nat} {xs xs':List Value} (h:w.ownsRow B e size v n xs) (h':w.ownsRow B' e' size' v' n' xs') (hne:e ≠ e') {k:Nat} (hk:v.ownBlock=some k):v'.ownBlock ≠ some k:=by
  intro hk'
  obtain ⟨cs,h1⟩:=own_cellsJ h hk
  obtain ⟨cs',h2⟩:=own_cellsJ h' hk'
  rw [h1] at h2
  injection h2 with h2
  injection h2 with _ h3
  exact hne h3
theorem str_ne_treeJ:(9:TypeId) ≠ 28:=by decide
theorem NmK.fin {w:World} {g bi br bk B gg cap:Nat} {nv:Value} {ks:List ByteArray} {ka:Option Addr} {kc:Nat} {us:List MT} {va:Option Addr} {vc:Nat} {cs:List Value} {W W5 W7:World} (h:NmK B bk ks ka kc W) (hs:StaO w g bi br bk B) (hK:ItK w g bi br B nv us va vc W)
    (ho5:W5.ownsRow B 28 8 (.slice (some ⟨gg,0,none⟩) (us.length+1) cap) (us.length+1) (flat (us.map MT.c)++zeroC.cells)) (hg5:W.grownBy W5 (Value.slice va us.length vc).ownBlock) (hf:FinJ W5 W7 B bi gg cap us cs):NmK B bk ks ka kc W7:=by
  have hgB:B≤gg:=(ownJ hf.ow rfl).1
  have h3:=hs.hk2;have h4:=hK.hB;have h5:=hs.st.hi2
  constructor
  · rw [hf.block bk hs.hki (by omega),hg5.block bk (by omega) (fun e=>by have:=(ownJ hK.ow e.symm).1;omega)];exact h.bx
  · have h1:W5.ownsRow B 9 1 (.slice ka ks.length kc) ks.length (sv ks):=own_other h.ow (fun k hk=>hg5.block k (ownJ h.ow hk).2 (fun e=>own_twoJ h.ow hK.ow str_ne_treeJ hk e.symm))
    refine own_other h1 (fun k hk=>hf.block k (by have:=(ownJ h.ow hk).1;omega) (fun e=>?_))
    exact own_twoJ h1 ho5 str_ne_treeJ hk (by show some gg=some k;rw [e])
theorem ItK.names {w:World} {g bi br bk B gk kcap:Nat} {ks:List ByteArray} {ka:Option Addr} {kc:Nat} {us:List MT} {va:Option Addr} {vc:Nat} {y:ByteArray} {W W5:World} (h:ItK w g bi br B (.slice ka ks.length kc) us va vc W) (hs:StaO w g bi br bk B) (hE:NmK B bk ks ka kc W)
    (ho5:W5.ownsRow B 9 1 (.slice (some ⟨gk,0,none⟩) (ks.length+1) kcap) (ks.length+1) (sv ks++[.string y])) (hg5:W.grownBy W5 (Value.slice ka ks.length kc).ownBlock) (hor:(Value.slice ka ks.length kc).ownBlock=some gk∨gk=W.heap.size) :
    ItK w g bi br B (.slice (some ⟨gk,0,none⟩) (ks++[y]).length kcap) us va vc (W5.setCell ⟨bk,0,none⟩ (.slice (some ⟨gk,0,none⟩) (ks.length+1) kcap)) ∧
      NmK B bk (ks++[y]) (some ⟨gk,0,none⟩) kcap (W5.setCell ⟨bk,0,none⟩ (.slice (some ⟨gk,0,none⟩) (ks.length+1) kcap)):=by
  have h1:=hs.st.hg;have h2:=hs.st.hi;have h3:=hs.st.hi2;have h5:=hs.st.hr2;have h6:=h.hB;have h7:=hs.hk;have h8:=hs.hk2
  have hgB:B≤gk:=(ownJ ho5 rfl).1
  have el:(ks++[y]).length=ks.length+1:=by simp
  have hz:(W5.setCell ⟨bk,0,none⟩ (.slice (some ⟨gk,0,none⟩) (ks.length+1) kcap)).heap.size=W5.heap.size:=by simp [World.setCell]
  have hkeep:∀ k,k<W.heap.size→k ≠ bk→(Value.slice ka ks.length kc).ownBlock ≠ some k→(W5.setCell ⟨bk,0,none⟩ (.slice (some ⟨gk,0,none⟩) (ks.length+1) kcap)).heap[k]? = W.heap[k]?:=fun k q1 q2 q3=>by
    rw [set_other q2,hg5.block k q1 (fun e=>q3 e.symm)]
  have hsz:=hg5.size
  have hlow:∀ k,k<B→(Value.slice ka ks.length kc).ownBlock ≠ some k:=fun k hk e=>by have:=(ownJ hE.ow e).1;omega
  refine ⟨⟨⟨hg5.os.trans h.oth.os,hg5.tape.trans h.oth.tape,hg5.output.trans h.oth.output,by rw [hz];exact Nat.le_trans h.oth.size hsz,fun k hk hkg=>?_⟩,?_,?_,?_,?_,by rw [hz];omega⟩,⟨?_,?_⟩⟩
  · exact (hkeep k (by have:=h.oth.size;omega) (by omega) (hlow k (by omega))).trans (h.oth.block k hk hkg)
  · exact (hkeep br (by omega) (fun e=>hs.hkr e.symm) (hlow br h5)).trans h.rb
  · exact (hkeep bi (by omega) (fun e=>hs.hki e.symm) (hlow bi h3)).trans h.bx
  · exact own_other h.ow (fun k hk=>hkeep k (ownJ h.ow hk).2 (by have:=(ownJ h.ow hk).1;omega) (own_twoJ h.ow hE.ow (fun e=>str_ne_treeJ e.symm) hk))
  · refine h.ind.to (by rw [hz];exact hsz) (fun k hk hx=>hkeep k hk (fun e=>hx (.inl (by omega))) (fun e=>hx (.inr (.inl e)))) (fun k hk hy=>?_) (fun _ h=>h)
    rcases hy with hy | hy | hy
    · exact .inl hy
    · simp only [Value.ownBlock,Option.some.injEq] at hy
      rcases hor with ho | ho
      · exact .inr (.inl (by rw [← hy];exact ho))
      · omega
    · exact .inr (.inr hy)
  · rw [el]
    refine set_in (v:=.slice ka ks.length kc) ((hg5.block bk (by omega) (fun e=>hlow bk h8 e.symm)).trans hE.bx)
  · rw [el]
    have e2:sv (ks++[y])=sv ks++[.string y]:=by simp [sv]
    rw [e2]
    exact own_other ho5 (fun k hk=>set_other (fun e=>by have:gk=k:=Option.some.inj hk;omega))
def ObJ (w:World) (g bi br bk B:Nat) (L:List (List UInt8) × List MT) (W:World):Prop:=∃ us ka kc va vc,us.map MT.bare=L.2∧ItK w g bi br B (.slice ka (strs L.1).length kc) us va vc W∧NmK B bk (strs L.1) ka kc W
theorem strs_app (N:List (List UInt8)) (s:List UInt8):strs (N++[s])=strs N++[⟨s.toArray⟩]:=by simp [strs]
theorem memberL_text {V:List UInt8→Nat→PRJ} {L:List (List UInt8) × List MT} {l:List UInt8} {n:Nat} {x:Int} (h:textL (skipL l)=.inr x):memberL V L l n=.inr x:=by unfold memberL;rw [h]
theorem memberL_sign {V:List UInt8→Nat→PRJ} {L:List (List UInt8) × List MT} {l s r:List UInt8} {n:Nat} (h:textL (skipL l)=.inl (s,r)) (h2:nextL r ≠ 58):memberL V L l n=.inr 2:=by unfold memberL;rw [h];simp [h2]
theorem memberL_no {V:List UInt8→Nat→PRJ} {L:List (List UInt8) × List MT} {l s r:List UInt8} {n:Nat} {x:Int} (h:textL (skipL l)=.inl (s,r)) (h2:nextL r=58) (h3:V (skipL r).tail n=.inr x):memberL V L l n=.inr x:=by unfold memberL;rw [h];simp [h2,h3]
theorem memberL_yes {V:List UInt8→Nat→PRJ} {L:List (List UInt8) × List MT} {l s r:List UInt8} {n:Nat} {q:MT × List UInt8 × Nat} (h:textL (skipL l)=.inl (s,r)) (h2:nextL r=58) (h3:V (skipL r).tail n=.inl q):memberL V L l n=.inl ((L.1++[s],L.2++[q.1]),q.2.1,q.2.2):=by unfold memberL;rw [h];simp [h2,h3]
theorem member_anyj (w:World) (g bi br bk B:Nat) (hO:StaO w g bi br bk B) (d:Nat) (V:List UInt8→Nat→PRJ) (N:List (List UInt8)) (us:List MT) (ka:Option Addr) (kc:Nat) (va:Option Addr) (vc:Nat) (l0:List UInt8) (n:Nat) (w00:World) (hK:ItK w g bi br B (.slice ka (strs N).length kc) us va vc w00) (hE:NmK B bk (strs N) ka kc w00)
    (hn:us.length<300) (hnk:N.length<300) (hl:l0.length≤1000000) (hrd:RdJ g l0 d n w00) (hT:∀ W,Oth g w W→UT W)
    (KV:∀ W l,l.length≤1000000→RdJ g l d n W→Oth g w W→Calls Tryz.prog 25 #[.pointer (some ⟨g,0,none⟩)] W (ValJ g d (V l n) W)) :
    Calls Tryz.prog 78 #[.pointer (some ⟨br,0,none⟩),.pointer (some ⟨bk,0,none⟩),.pointer (some ⟨bi,0,none⟩)] w00 (PartJ g d (ObJ w g bi br bk B) (ThrJ w g) (memberL V (N,us.map MT.bare) l0 n)):=by
  have HO:=Lib.hid hO
  have HS:=Lib.hid hO.st
  have HN:=Lib.hid (show us.length≤1000000000 by omega)
  have HNK:=Lib.hid (show (strs N).length≤1000000000 by unfold strs;rw [List.length_map];omega)
  have HUT:=Lib.hid hT
  have HKV0:=Lib.hid KV
  have HBAD:=Lib.hid (fun (y:Int) (W:World) (h:memberL V (N,us.map MT.bare) l0 n=.inr y) (hj:ThrJ w g W)=>(PartJ.no (I:=ObJ w g bi br bk B) (J:=ThrJ w g) (g:=g) (d:=d) h rfl hj))
  have KS:=Lib.hid (skip_any g l0 d n w00 hrd)
  have HK0:=Lib.hid hK;have HE0:=Lib.hid hE
  have c0:=hK.cr
  have hlk:=skipL_len l0
  have hl2:(skipL l0).length≤1000000:=by omega
  clear hO hn hnk hT KV hrd hK hE
  go_enter Tryz.func78,Tryz.ntmps78
  go_wp2_with fail
  refine KS.out.mono ?_
  rintro r0 w01 ⟨rfl,h1⟩
  have HK1:=Lib.hid (HK0.out.on HS.out h1.oth)
  have HE1:=Lib.hid (HE0.out.on HO.out HK0.out.hB h1.oth)
  have HRD1:=Lib.hid h1.rd
  clear c0 h1 KS HK0 HE0
  go_upto_region 1 with fail
  refine rp_norm (fun J T hJ hT=>?_)
  have HJ:=Lib.hid hJ
  have HT:=Lib.hid hT
  clear hJ hT
  have hK:=HK1.out.on HS.out (Oth.refl g w01).drew
  have hE:=HE1.out.on HO.out HK1.out.hB (Oth.refl g w01).drew
  have hrd:RdJ g (skipL l0) d n w01.drew:=HRD1.out
  refine rl_start (S:=fun L W=>W.cell? ⟨br,0,none⟩=some (.pointer (some ⟨g,0,none⟩))∧(L.getD 5 false=false→W.cell? ⟨bk,0,none⟩=some (.slice ka (strs N).length kc))) (by kernel_rfl) ⟨hK.cr,fun _=>hE.ck⟩ (fun hC hS=>?_)
  refine rl_load1 0 _ 25 (.tmp 1) ⟨bk,0,none⟩ (.slice ka (strs N).length kc) _ (some 5) rfl (by kernel_rfl) (by kernel_rfl) (by kernel_rfl) (by kernel_rfl) (fun _ _ _ h=>h) (fun L W=>siJ 0 5 rfl _) (by kernel_rfl) rfl (by kernel_rfl) Tryz.underlying25 rfl (fun L W hC h1 hS=>hS.2 (cl_no hC 0 5 _ rfl (by kernel_rfl) h1)) hC hS (fun hC hS=>?_)
  refine rl_load1 1 _ 72 (.tmp 0) ⟨br,0,none⟩ (.pointer (some ⟨g,0,none⟩)) _ (some 6) rfl (by kernel_rfl) (by kernel_rfl) (by kernel_rfl) (by kernel_rfl) (fun _ _ _ h=>h) (fun L W=>siJ 1 5 rfl _) (by kernel_rfl) rfl (by kernel_rfl) Tryz.underlying72 rfl (fun L W hC h1 hS=>hS.1) hC hS (fun hC hS=>?_)
  refine rl_all [2] (by kernel_rfl) (by simp) hC (rl_one _ ?_)
  refine rp_call 2 _ 48 _ _ _ _ #[.pointer (some ⟨g,0,none⟩)] (some 7) rfl (by kernel_rfl) (by kernel_rfl) rfl (by kernel_rfl) Tryz.func48 (by kernel_rfl) (by kernel_rfl) (by kernel_rfl) (text_anyj g (skipL l0) d n w01.drew hl2 hrd (HUT.out _ hK.oth)) ?_
  intro r' W1 hp
  unfold TextJ at hp
  cases hv:textL (skipL l0) with
  | inr y =>
    rw [hv] at hp
    refine .inr ?_
    obtain ⟨rfl,la,da,na,hj⟩:=hp
    have HX:=Lib.hid (HBAD.out y W1 (memberL_text hv) ⟨_,_,_,⟨hK.oth.trans hj.oth,hj.rd⟩⟩)
    refine ⟨_,rfl,rfl,HT.out _ _ (fun a' ha'=>?_)⟩
    exact ⟨ha',HX.out⟩
  | inl q0 =>
    obtain ⟨s,r⟩:=q0
    rw [hv] at hp
    refine .inl ?_
    obtain ⟨rfl,hj⟩:=hp
    replace hE:=hE.on HO.out hK.hB hj.oth
    replace hK:=hK.on HS.out hj.oth
    replace hrd:=hj.rd
    have hsw:w01.heap.size≤W1.heap.size:=hj.oth.size
    clear hj
    refine ⟨_,rfl,?_⟩
    refine rl_and ⟨hK.cr,fun _=>hE.ck⟩ (fun hS hC=>?_)
    refine rl_all [3] (by kernel_rfl) (by simp) hC (rl_one _ ?_)
    refine rl_val 3 _ (.slice (some ⟨W1.heap.size,0,none⟩) 1 1) (W1.alloc (.cells #[.string ⟨s.toArray⟩] 9)) (some 8) rfl (by kernel_rfl) (by kernel_rfl) (by kernel_rfl) ?_
    have hz:RdV (W1.alloc (.cells #[.string ⟨s.toArray⟩] 9)) (some ⟨W1.heap.size,0,none⟩) [.string ⟨s.toArray⟩]:=rdv_new W1 [.string ⟨s.toArray⟩] _
    have hba:Below W1.heap.size W1 (W1.alloc (.cells #[.string ⟨s.toArray⟩] 9)):=(Below.refl _ _).alloc (Nat.le_refl _) _
    replace hE:=hE.on HO.out hK.hB (Oth.of_below hba)
    replace hK:=hK.on HS.out (Oth.of_below hba)
    replace hrd:=hrd.on hba
    clear hba
    generalize W1.heap.size=gz at *
    generalize W1.alloc (.cells #[.string ⟨s.toArray⟩] 9)=W4 at *
    refine rl_and ⟨hK.cr,fun _=>hE.ck⟩ (fun hS hC=>?_)
    refine rl_all [4] (by kernel_rfl) (by simp) hC (rl_one _ ?_)
    refine rl_law 4 _ (some 9) rfl (by kernel_rfl) (by kernel_rfl) (R:=fun v' w'=>∃ gk kcap,v'=.slice (some ⟨gk,0,none⟩) ((strs N).length+1) kcap∧w'.ownsRow B 9 1 (.slice (some ⟨gk,0,none⟩) ((strs N).length+1) kcap) ((strs N).length+1) (sv (strs N)++[.string ⟨s.toArray⟩])∧W4.grownBy w' (Value.slice ka (strs N).length kc).ownBlock∧((Value.slice ka (strs N).length kc).ownBlock=some gk∨gk=W4.heap.size)) (fun KK hKK=>wp_appS rfl (.tmp 5) (.tmp 8) rfl B (.slice ka (strs N).length kc) (strs N).length (sv (strs N)) (by kernel_rfl) hE.ow ⟨gz,0,none⟩ 1 ⟨s.toArray⟩ (by kernel_rfl) hz HNK.out hK.hB (fun gk kcap w' h1 h2 h3=>hKK _ w' ⟨gk,kcap,rfl,h1,h2,h3⟩)) ?_
    rintro _ W5 ⟨gk,kcap,rfl,ho5,hg5,hor⟩
    have hNM:=ItK.names hK HO.out hE ho5 hg5 hor
    have hbk5:W5.heap[bk]? = some (.cells #[.slice ka (strs N).length kc] 25):=(hg5.block bk (by have:=HO.out.hk2;have:=hK.hB;omega) (fun e=>by have h9:=(ownJ hE.ow e.symm).1;have:=HO.out.hk2;omega)).trans hE.bx
    have hbr5:W5.heap[br]? = some (.cells #[.pointer (some ⟨g,0,none⟩)] 72):=(hg5.block br (by have:=HS.out.hr2;have:=hK.hB;omega) (fun e=>by have h9:=(ownJ hE.ow e.symm).1;have:=HS.out.hr2;omega)).trans hK.rb
    have hrd5:RdJ g r d n W5:=by unfold RdJ at hrd ⊢;rw [hg5.block g (Array.getElem?_eq_some_iff.1 hrd).1 (fun e=>by have h9:=(ownJ hE.ow e.symm).1;have h2:=HS.out.hg;have h3:=HO.out.hk;have h4:=HO.out.hk2;omega)];exact hrd
    have hgk:g ≠ bk:=by have h2:=HS.out.hg;have h3:=HO.out.hk;intro e;omega
    have hrk:br ≠ bk:=fun e=>HO.out.hkr e.symm
    refine rl_and ⟨by simp [World.cell?,hbr5],fun _=>by simp [World.cell?,hbk5]⟩ (fun hS hC=>?_)
    refine rl_all [5] (by kernel_rfl) (by simp) hC (rl_one _ ?_)
    refine rl_store 5 _ 25 (.tmp 1) (.tmp 9) ⟨bk,0,none⟩ (.slice (some ⟨gk,0,none⟩) ((strs N).length+1) kcap) rfl (by kernel_rfl) (by kernel_rfl) rfl (by kernel_rfl) (by kernel_rfl) (by kernel_rfl) rfl (by simp [World.cell?,hbk5]) (by simp [World.frozen?,hbk5]) ?_
    have hrd7:RdJ g r d n (W5.setCell ⟨bk,0,none⟩ (.slice (some ⟨gk,0,none⟩) ((strs N).length+1) kcap)):=(set_other hgk).trans hrd5
    generalize W5.setCell ⟨bk,0,none⟩ (.slice (some ⟨gk,0,none⟩) ((strs N).length+1) kcap)=W7 at *
    rw [← strs_app] at hNM
    have HK7:=Lib.hid hNM.1
    have HE7:=Lib.hid hNM.2
    have HRD7:=Lib.hid hrd7
    refine rl_and ⟨hNM.1.cr,fun h=>Bool.noConfusion (show true=false from h)⟩ (fun hS hC=>?_)
    refine rl_done (by kernel_rfl) ?_ _
    clear hS hC hNM hrd7 hrd5 hbk5 hbr5 ho5 hg5 hor hz hE hK hrd hsw
    refine HJ.out _ _ ?_
    clear HJ HT
    simp only [Act.put,List.setIfInBounds_toArray,List.set_cons_zero,List.set_cons_succ]
    have c7:=HK7.out.cr
    have hrl:r.length≤1000000:=by have h9:=textL_eats hv;omega
    have KM:=Lib.hid (must_any g 58 (by decide) r d n W7 hrl HRD7.out)
    have HV:=Lib.hid hv
    clear hv
    go_wp2_with fail
    refine KM.out.mono ?_
    rintro r8 w1 (⟨hx,rfl,h2⟩ | ⟨hx,rfl,la,da,na,h2⟩)
    · obtain ⟨l,hl3⟩:∃ l,(skipL r).tail=l:=⟨_,rfl⟩
      rw [hl3] at h2
      have hll:l.length≤1000000:=by rw [← hl3,List.length_tail];have:=skipL_len r;omega
      have hg1:g<w1.heap.size:=h2.rd.lt
      have HK:=Lib.hid (HK7.out.on HS.out h2.oth)
      have HE:=Lib.hid (HE7.out.on HO.out HK7.out.hB h2.oth)
      have HRD:=Lib.hid h2.rd
      have HKV:=Lib.hid (fun W (h1:RdJ g l d n W) (h2:Oth g w W)=>HKV0.out W l hll h1 h2)
      have HSN:=Lib.hid (show ∀ k,(Value.slice (some ⟨gk,0,none⟩) (strs (N++[s])).length kcap).ownBlock=some k→B≤k∧k<w1.heap.size∧(Value.slice va us.length vc).ownBlock ≠ some k from fun k hk=>⟨(ownJ HE.out.ow hk).1,(ownJ HE.out.ow hk).2,own_twoJ HE.out.ow HK.out.ow str_ne_treeJ hk⟩)
      have HSO:=Lib.hid (fun k (hk:(Value.slice va us.length vc).ownBlock=some k)=>(ownJ HK.out.ow hk).2)
      have HB1:=Lib.hid HK.out.hB
      have HBAD0:=Lib.hid HBAD.out
      clear HBAD
      have HBAD:=Lib.hid (fun (y:Int) (W:World) (h:V l n=.inr y) (hj:ThrJ w g W)=>HBAD0.out y W (memberL_no HV.out hx (by rw [hl3];exact h)) hj)
      have HOK:=Lib.hid (fun (q:MT × List UInt8 × Nat) (W:World) (x:MT) (gg cap:Nat) (h:V l n=.inl q) (hxb:x.bare=q.1) (hF:ItK w g bi br B (.slice (some ⟨gk,0,none⟩) (strs (N++[s])).length kcap) (us++[x]) (some ⟨gg,0,none⟩) cap W) (hE:NmK B bk (strs (N++[s])) (some ⟨gk,0,none⟩) kcap W) (hr:RdJ g q.2.1 d q.2.2 W) =>
        (PartJ.yes (I:=ObJ w g bi br bk B) (J:=ThrJ w g) (memberL_yes (L:=(N,us.map MT.bare)) HV.out hx (by rw [hl3];exact h)) rfl ⟨us++[x],_,_,_,_,by rw [List.map_append,List.map_cons,List.map_nil,hxb],hF,hE⟩ hr))
      clear h2 KM c7 HK7 HE7 HRD7 HKV0 HBAD0 hx hl3 HK1 HE1 HRD1
      go_upto_region 3 with fail
      refine rp_norm (fun J T hJ hT=>?_)
      have HJ:=Lib.hid hJ
      have HT:=Lib.hid hT
      clear hJ hT
      have hK:=HK.out.on HS.out (Oth.refl g w1).drew
      have hE:=HE.out.on HO.out HK.out.hB (Oth.refl g w1).drew
      have hrd:RdJ g l d n w1.drew:=HRD.out
      refine rl_start (S:=fun L W=>W.cell? ⟨br,0,none⟩=some (.pointer (some ⟨g,0,none⟩))∧(L.getD 8 false=false→W.cell? ⟨bi,0,none⟩=some (.slice va us.length vc))) (by kernel_rfl) ⟨hK.cr,fun _=>hK.ci⟩ (fun hC hS=>?_)
      refine rl_load1 0 _ 26 (.tmp 2) ⟨bi,0,none⟩ (.slice va us.length vc) _ (some 12) rfl (by kernel_rfl) (by kernel_rfl) (by kernel_rfl) (by kernel_rfl) (fun _ _ _ h=>h) (fun L W=>siJ 0 8 rfl _) (by kernel_rfl) rfl (by kernel_rfl) Tryz.underlying26 rfl (fun L W hC h1 hS=>hS.2 (cl_no hC 0 8 _ rfl (by kernel_rfl) h1)) hC hS (fun hC hS=>?_)
      refine rl_load1 1 _ 72 (.tmp 0) ⟨br,0,none⟩ (.pointer (some ⟨g,0,none⟩)) _ (some 13) rfl (by kernel_rfl) (by kernel_rfl) (by kernel_rfl) (by kernel_rfl) (fun _ _ _ h=>h) (fun L W=>siJ 1 8 rfl _) (by kernel_rfl) rfl (by kernel_rfl) Tryz.underlying72 rfl (fun L W hC h1 hS=>hS.1) hC hS (fun hC hS=>?_)
      refine rl_pure 3 _ (.int .i64 ((us.length:Nat):Int)) (some 15) rfl (by kernel_rfl) (by kernel_rfl) (by kernel_rfl) (by kernel_rfl) (fun _ _ _ h=>h) (fun L W=>siJ 3 8 rfl _) (by kernel_rfl) (fun w=>by kernel_rfl) hC hS (fun hC hS=>?_)
      refine rl_all [2,4] (by kernel_rfl) (by simp) hC (rl_two _ _ ?_ ?_)
      · skip
        refine rp_call 2 _ 25 _ _ _ _ #[.pointer (some ⟨g,0,none⟩)] (some 14) rfl (by kernel_rfl) (by kernel_rfl) rfl (by kernel_rfl) Tryz.func25 (by kernel_rfl) (by kernel_rfl) (by kernel_rfl) (HKV.out w1.drew hrd hK.oth) ?_
        intro r' W1 hp
        cases hv:V l n with
        | inr y =>
          rw [hv] at hp
          refine .inr ?_
          obtain ⟨rfl,la,da,na,hj⟩:=hp
          have HX:=Lib.hid (HBAD.out y W1 hv ⟨_,_,_,⟨hK.oth.trans hj.oth,hj.rd⟩⟩)
          refine ⟨_,rfl,rfl,HT.out _ _ (fun a' ha'=>?_)⟩
          exact ⟨ha',HX.out⟩
        | inl q =>
          rw [hv] at hp
          refine .inl ?_
          obtain ⟨x,rfl,hxb,hx,hj⟩:=hp
          replace hE:=hE.on HO.out hK.hB hj.oth
          replace hK:=hK.on HS.out hj.oth
          replace hrd:=hj.rd
          have hsw:w1.heap.size≤W1.heap.size:=hj.oth.size
          replace hx:Ind (fun k=>k<w1.heap.size) W1 (fun W=>Rep W x):=hx
          clear hj
          refine ⟨_,rfl,?_⟩
          refine rl_and ⟨hK.cr,fun _=>hK.ci⟩ (fun hS hC=>?_)
          refine rl_all [4] (by kernel_rfl) (by simp) hC (rl_one _ ?_)
          refine rl_val 4 _ (.slice (some ⟨W1.heap.size,0,none⟩) 1 1) (W1.alloc (.cells #[.int .i64 0,.bool false,.bool false,.slice none 0 0,.int .i64 0,.string ⟨#[]⟩,.slice none 0 0,.slice none 0 0] 28)) (some 16) rfl (by kernel_rfl) (by kernel_rfl) (by kernel_rfl) ?_
          have hz:RdV (W1.alloc (.cells #[.int .i64 0,.bool false,.bool false,.slice none 0 0,.int .i64 0,.string ⟨#[]⟩,.slice none 0 0,.slice none 0 0] 28)) (some ⟨W1.heap.size,0,none⟩) zeroC.cells:=rdv_new W1 zeroC.cells _
          have hba:Below W1.heap.size W1 (W1.alloc (.cells #[.int .i64 0,.bool false,.bool false,.slice none 0 0,.int .i64 0,.string ⟨#[]⟩,.slice none 0 0,.slice none 0 0] 28)):=(Below.refl _ _).alloc (Nat.le_refl _) _
          replace hE:=hE.on HO.out hK.hB (Oth.of_below hba)
          replace hK:=hK.on HS.out (Oth.of_below hba)
          replace hrd:=hrd.on hba
          replace hx:=hx.below hba
          replace hsw:=Nat.le_trans hsw hba.size
          clear hba
          generalize W1.heap.size=gz at *
          generalize W1.alloc (.cells #[.int .i64 0,.bool false,.bool false,.slice none 0 0,.int .i64 0,.string ⟨#[]⟩,.slice none 0 0,.slice none 0 0] 28)=W4 at *
          refine rl_and ⟨hK.cr,fun _=>hK.ci⟩ (fun hS hC=>?_)
          refine rl_all [5] (by kernel_rfl) (by simp) hC (rl_one _ ?_)
          refine rl_law 5 _ (some 17) rfl (by kernel_rfl) (by kernel_rfl) (R:=fun v' w'=>∃ gg cap,v'=.slice (some ⟨gg,0,none⟩) (us.length+1) cap∧w'.ownsRow B 28 8 (.slice (some ⟨gg,0,none⟩) (us.length+1) cap) (us.length+1) (flat (us.map MT.c)++zeroC.cells)∧W4.grownBy w' (Value.slice va us.length vc).ownBlock∧((Value.slice va us.length vc).ownBlock=some gg∨gg=W4.heap.size)) (fun KK hKK=>wp_appT rfl (.tmp 12) (.tmp 16) rfl B (.slice va us.length vc) us.length (flat (us.map MT.c)) (by kernel_rfl) hK.ow ⟨gz,0,none⟩ 1 zeroC (by kernel_rfl) hz HN.out hK.hB (fun gg cap w' h1 h2 h3=>hKK _ w' ⟨gg,cap,rfl,h1,h2,h3⟩)) ?_
          rintro _ W5 ⟨gg,cap,rfl,ho5,hg5,hor⟩
          have hb5:=ItK.keep hK HS.out hg5
          refine rl_and ⟨by simp [World.cell?,hb5.2],fun _=>by simp [World.cell?,hb5.1]⟩ (fun hS hC=>?_)
          refine rl_pure 6 _ (.pointer (some ⟨gg,us.length*8,none⟩)) (some 18) rfl (by kernel_rfl) (by kernel_rfl) (by kernel_rfl) (by kernel_rfl) (fun _ _ _ h=>h) (fun L W=>siJ 6 8 rfl _) (by kernel_rfl) (fun w=>rl_idx0 w _ _ 26 _ _ 28 gg (us.length+1) cap us.length (us.length*8) 8 rfl (by kernel_rfl) (by kernel_rfl) Tryz.underlying26 (by kernel_rfl) (Nat.lt_succ_self _) rfl) hC hS (fun hC hS=>?_)
          have hgg:bi ≠ gg:=by have h1:B≤gg:=(ownJ ho5 rfl).1;have h2:=HS.out.hi2;intro e;omega
          have hgr:br ≠ gg:=by have h1:B≤gg:=(ownJ ho5 rfl).1;have h2:=HS.out.hr2;intro e;omega
          have hgr2:br ≠ bi:=fun e=>HS.out.hne e.symm
          have hggg:g ≠ gg:=by have h1:B≤gg:=(ownJ ho5 rfl).1;have h2:=HS.out.hg;have h3:=HS.out.hi;have h4:=HS.out.hi2;intro e;omega
          have hgbi:g ≠ bi:=by have h2:=HS.out.hg;have h3:=HS.out.hi;intro e;omega
          have hrd5:RdJ g q.2.1 d q.2.2 W5:=by unfold RdJ at hrd ⊢;rw [hg5.block g (Array.getElem?_eq_some_iff.1 hrd).1 (fun e=>by have h1:=(ownJ hK.ow e.symm).1;have h2:=HS.out.hg;have h3:=HS.out.hi;have h4:=HS.out.hi2;omega)];exact hrd
          have hfa:=FinJ.a (cells_len x.c) ho5 hb5.1 hgg
          have hfb:=FinJ.b (cells_len x.c) ho5 hb5.1 hgg
          have HFA:=Lib.hid (hK.step HS.out HB1.out HSO.out HSN.out hsw hx hg5 hor hfa)
          have HFB:=Lib.hid (hK.step HS.out HB1.out HSO.out HSN.out hsw hx hg5 hor hfb)
          have HEA:=Lib.hid (hE.fin HO.out hK ho5 hg5 hfa)
          have HEB:=Lib.hid (hE.fin HO.out hK ho5 hg5 hfb)
          clear hE
          have HRA:=Lib.hid (show RdJ g q.2.1 d q.2.2 _ from (hfa.block g hgbi hggg).trans hrd5)
          have HRB:=Lib.hid (show RdJ g q.2.1 d q.2.2 _ from (hfb.block g hgbi hggg).trans hrd5)
          have hth:=own_there ho5
          have hth2:=own_there (own_other (w':=W5.setCell ⟨bi,0,none⟩ (.slice (some ⟨gg,0,none⟩) (us.length+1) cap)) ho5 (fun k hk=>set_other (fun e=>hgg ((show gg=k from Option.some.inj hk).trans e).symm)))
          clear hfa hfb ho5 hg5 hor hz hx hK hrd hrd5
          refine rl_all [7,8] (by kernel_rfl) (by simp) hC (rl_two _ _ ?_ ?_)
          · skip
            refine rp_storeC 7 _ 28 (.tmp 18) (.tmp 14) gg (us.length*8) x.c rfl (by kernel_rfl) (by kernel_rfl) rfl (by kernel_rfl) (by kernel_rfl) (by kernel_rfl) hth ?_
            refine rl_and ⟨by rw [setCells_cell hgr];simp [World.cell?,hb5.2],fun _=>by rw [setCells_cell hgg];simp [World.cell?,hb5.1]⟩ (fun hS hC=>?_)
            refine rl_all [8] (by kernel_rfl) (by simp) hC (rl_one _ ?_)
            refine rl_store 8 _ 26 (.tmp 2) (.tmp 17) ⟨bi,0,none⟩ (.slice (some ⟨gg,0,none⟩) (us.length+1) cap) rfl (by kernel_rfl) (by kernel_rfl) rfl (by kernel_rfl) (by kernel_rfl) (by kernel_rfl) rfl (by rw [setCells_cell hgg];simp [World.cell?,hb5.1]) (by rw [setCells_frozen hgg];simp [World.frozen?,hb5.1]) ?_
            refine rl_and ⟨by rw [World.cell?_setCell_other (h:=by simp [hgr2]),setCells_cell hgr];simp [World.cell?,hb5.2],fun h=>Bool.noConfusion (show true=false from h)⟩ (fun hS hC=>?_)
            refine rl_done (by kernel_rfl) ?_ _
            clear hS hC
            refine HJ.out _ _ ?_
            clear HJ
            simp only [Act.put,List.setIfInBounds_toArray,List.set_cons_zero,List.set_cons_succ]
            have HZ:=Lib.hid (HOK.out q _ x gg cap hv hxb HFA.out HEA.out HRA.out)
            clear HFA HFB HRA HRB hth hth2 hb5
            go_wp2_with fail
            exact bodyPost_ret (v:=.tuple #[]) (by simp [results,Tryz.results78,go_sem]) rfl HZ.out
          · skip
            refine rl_store 8 _ 26 (.tmp 2) (.tmp 17) ⟨bi,0,none⟩ (.slice (some ⟨gg,0,none⟩) (us.length+1) cap) rfl (by kernel_rfl) (by kernel_rfl) rfl (by kernel_rfl) (by kernel_rfl) (by kernel_rfl) rfl (by simp [World.cell?,hb5.1]) (by simp [World.frozen?,hb5.1]) ?_
            refine rl_and ⟨by rw [World.cell?_setCell_other (h:=by simp [hgr2])];simp [World.cell?,hb5.2],fun h=>Bool.noConfusion (show true=false from h)⟩ (fun hS hC=>?_)
            refine rl_all [7] (by kernel_rfl) (by simp) hC (rl_one _ ?_)
            refine rp_storeC 7 _ 28 (.tmp 18) (.tmp 14) gg (us.length*8) x.c rfl (by kernel_rfl) (by kernel_rfl) rfl (by kernel_rfl) (by kernel_rfl) (by kernel_rfl) hth2 ?_
            refine rl_and ⟨by rw [setCells_cell hgr,World.cell?_setCell_other (h:=by simp [hgr2])];simp [World.cell?,hb5.2],fun h=>Bool.noConfusion (show true=false from h)⟩ (fun hS hC=>?_)
            refine rl_done (by kernel_rfl) ?_ _
            clear hS hC
            refine HJ.out _ _ ?_
            clear HJ
            simp only [Act.put,List.setIfInBounds_toArray,List.set_cons_zero,List.set_cons_succ]
            have HZ:=Lib.hid (HOK.out q _ x gg cap hv hxb HFB.out HEB.out HRB.out)
            clear HFA HFB HRA HRB hth hth2 hb5
            go_wp2_with fail
            exact bodyPost_ret (v:=.tuple #[]) (by simp [results,Tryz.results78,go_sem]) rfl HZ.out
      · skip
        refine rl_val 4 _ (.slice (some ⟨w1.drew.heap.size,0,none⟩) 1 1) (w1.drew.alloc (.cells #[.int .i64 0,.bool false,.bool false,.slice none 0 0,.int .i64 0,.string ⟨#[]⟩,.slice none 0 0,.slice none 0 0] 28)) (some 16) rfl (by kernel_rfl) (by kernel_rfl) (by kernel_rfl) ?_
        have hz:RdV (w1.drew.alloc (.cells #[.int .i64 0,.bool false,.bool false,.slice none 0 0,.int .i64 0,.string ⟨#[]⟩,.slice none 0 0,.slice none 0 0] 28)) (some ⟨w1.drew.heap.size,0,none⟩) zeroC.cells:=rdv_new w1.drew zeroC.cells _
        have hba:Below w1.drew.heap.size w1.drew (w1.drew.alloc (.cells #[.int .i64 0,.bool false,.bool false,.slice none 0 0,.int .i64 0,.string ⟨#[]⟩,.slice none 0 0,.slice none 0 0] 28)):=(Below.refl _ _).alloc (Nat.le_refl _) _
        replace hE:=hE.on HO.out hK.hB (Oth.of_below hba)
        replace hK:=hK.on HS.out (Oth.of_below hba)
        replace hrd:=hrd.on hba
        have hsw:w1.heap.size≤(w1.drew.alloc (.cells #[.int .i64 0,.bool false,.bool false,.slice none 0 0,.int .i64 0,.string ⟨#[]⟩,.slice none 0 0,.slice none 0 0] 28)).heap.size:=hba.size
        clear hba
        have hgz:w1.drew.heap.size ≠ g:=Nat.ne_of_gt hg1
        generalize w1.drew.heap.size=gz at *
        generalize w1.drew.alloc (.cells #[.int .i64 0,.bool false,.bool false,.slice none 0 0,.int .i64 0,.string ⟨#[]⟩,.slice none 0 0,.slice none 0 0] 28)=W3 at *
        refine rl_and ⟨hK.cr,fun _=>hK.ci⟩ (fun hS hC=>?_)
        refine rl_all [2] (by kernel_rfl) (by simp) hC (rl_one _ ?_)
        refine rp_call 2 _ 25 _ _ _ _ #[.pointer (some ⟨g,0,none⟩)] (some 14) rfl (by kernel_rfl) (by kernel_rfl) rfl (by kernel_rfl) Tryz.func25 (by kernel_rfl) (by kernel_rfl) (by kernel_rfl) (HKV.out W3 hrd hK.oth) ?_
        intro r' W1 hp
        cases hv:V l n with
        | inr y =>
          rw [hv] at hp
          refine .inr ?_
          obtain ⟨rfl,la,da,na,hj⟩:=hp
          have HX:=Lib.hid (HBAD.out y W1 hv ⟨_,_,_,⟨hK.oth.trans hj.oth,hj.rd⟩⟩)
          refine ⟨_,rfl,rfl,HT.out _ _ (fun a' ha'=>?_)⟩
          exact ⟨ha',HX.out⟩
        | inl q =>
          rw [hv] at hp
          refine .inl ?_
          obtain ⟨x,rfl,hxb,hx,hj⟩:=hp
          replace hE:=hE.on HO.out hK.hB hj.oth
          replace hK:=hK.on HS.out hj.oth
          replace hrd:=hj.rd
          replace hx:Ind (fun k=>k<w1.heap.size) W1 (fun W=>Rep W x):=hx.to (Nat.le_refl _) (fun _ _ _=>rfl) (fun k _ h=>Nat.lt_of_lt_of_le h hsw) (fun _ h=>h)
          replace hz:=rdv_oth hz hgz hj.oth
          replace hsw:w1.heap.size≤W1.heap.size:=Nat.le_trans hsw hj.oth.size
          clear hj
          refine ⟨_,rfl,?_⟩
          refine rl_and ⟨hK.cr,fun _=>hK.ci⟩ (fun hS hC=>?_)
          refine rl_all [5] (by kernel_rfl) (by simp) hC (rl_one _ ?_)
          refine rl_law 5 _ (some 17) rfl (by kernel_rfl) (by kernel_rfl) (R:=fun v' w'=>∃ gg cap,v'=.slice (some ⟨gg,0,none⟩) (us.length+1) cap∧w'.ownsRow B 28 8 (.slice (some ⟨gg,0,none⟩) (us.length+1) cap) (us.length+1) (flat (us.map MT.c)++zeroC.cells)∧W1.grownBy w' (Value.slice va us.length vc).ownBlock∧((Value.slice va us.length vc).ownBlock=some gg∨gg=W1.heap.size)) (fun KK hKK=>wp_appT rfl (.tmp 12) (.tmp 16) rfl B (.slice va us.length vc) us.length (flat (us.map MT.c)) (by kernel_rfl) hK.ow ⟨gz,0,none⟩ 1 zeroC (by kernel_rfl) hz HN.out hK.hB (fun gg cap w' h1 h2 h3=>hKK _ w' ⟨gg,cap,rfl,h1,h2,h3⟩)) ?_
          rintro _ W5 ⟨gg,cap,rfl,ho5,hg5,hor⟩
          have hb5:=ItK.keep hK HS.out hg5
          refine rl_and ⟨by simp [World.cell?,hb5.2],fun _=>by simp [World.cell?,hb5.1]⟩ (fun hS hC=>?_)
          refine rl_pure 6 _ (.pointer (some ⟨gg,us.length*8,none⟩)) (some 18) rfl (by kernel_rfl) (by kernel_rfl) (by kernel_rfl) (by kernel_rfl) (fun _ _ _ h=>h) (fun L W=>siJ 6 8 rfl _) (by kernel_rfl) (fun w=>rl_idx0 w _ _ 26 _ _ 28 gg (us.length+1) cap us.length (us.length*8) 8 rfl (by kernel_rfl) (by kernel_rfl) Tryz.underlying26 (by kernel_rfl) (Nat.lt_succ_self _) rfl) hC hS (fun hC hS=>?_)
          have hgg:bi ≠ gg:=by have h1:B≤gg:=(ownJ ho5 rfl).1;have h2:=HS.out.hi2;intro e;omega
          have hgr:br ≠ gg:=by have h1:B≤gg:=(ownJ ho5 rfl).1;have h2:=HS.out.hr2;intro e;omega
          have hgr2:br ≠ bi:=fun e=>HS.out.hne e.symm
          have hggg:g ≠ gg:=by have h1:B≤gg:=(ownJ ho5 rfl).1;have h2:=HS.out.hg;have h3:=HS.out.hi;have h4:=HS.out.hi2;intro e;omega
          have hgbi:g ≠ bi:=by have h2:=HS.out.hg;have h3:=HS.out.hi;intro e;omega
          have hrd5:RdJ g q.2.1 d q.2.2 W5:=by unfold RdJ at hrd ⊢;rw [hg5.block g (Array.getElem?_eq_some_iff.1 hrd).1 (fun e=>by have h1:=(ownJ hK.ow e.symm).1;have h2:=HS.out.hg;have h3:=HS.out.hi;have h4:=HS.out.hi2;omega)];exact hrd
          have hfa:=FinJ.a (cells_len x.c) ho5 hb5.1 hgg
          have hfb:=FinJ.b (cells_len x.c) ho5 hb5.1 hgg
          have HFA:=Lib.hid (hK.step HS.out HB1.out HSO.out HSN.out hsw hx hg5 hor hfa)
          have HFB:=Lib.hid (hK.step HS.out HB1.out HSO.out HSN.out hsw hx hg5 hor hfb)
          have HEA:=Lib.hid (hE.fin HO.out hK ho5 hg5 hfa)
          have HEB:=Lib.hid (hE.fin HO.out hK ho5 hg5 hfb)
          clear hE
          have HRA:=Lib.hid (show RdJ g q.2.1 d q.2.2 _ from (hfa.block g hgbi hggg).trans hrd5)
          have HRB:=Lib.hid (show RdJ g q.2.1 d q.2.2 _ from (hfb.block g hgbi hggg).trans hrd5)
          have hth:=own_there ho5
          have hth2:=own_there (own_other (w':=W5.setCell ⟨bi,0,none⟩ (.slice (some ⟨gg,0,none⟩) (us.length+1) cap)) ho5 (fun k hk=>set_other (fun e=>hgg ((show gg=k from Option.some.inj hk).trans e).symm)))
          clear hfa hfb ho5 hg5 hor hz hx hK hrd hrd5
          refine rl_all [7,8] (by kernel_rfl) (by simp) hC (rl_two _ _ ?_ ?_)
          · skip
            refine rp_storeC 7 _ 28 (.tmp 18) (.tmp 14) gg (us.length*8) x.c rfl (by kernel_rfl) (by kernel_rfl) rfl (by kernel_rfl) (by kernel_rfl) (by kernel_rfl) hth ?_
            refine rl_and ⟨by rw [setCells_cell hgr];simp [World.cell?,hb5.2],fun _=>by rw [setCells_cell hgg];simp [World.cell?,hb5.1]⟩ (fun hS hC=>?_)
            refine rl_all [8] (by kernel_rfl) (by simp) hC (rl_one _ ?_)
            refine rl_store 8 _ 26 (.tmp 2) (.tmp 17) ⟨bi,0,none⟩ (.slice (some ⟨gg,0,none⟩) (us.length+1) cap) rfl (by kernel_rfl) (by kernel_rfl) rfl (by kernel_rfl) (by kernel_rfl) (by kernel_rfl) rfl (by rw [setCells_cell hgg];simp [World.cell?,hb5.1]) (by rw [setCells_frozen hgg];simp [World.frozen?,hb5.1]) ?_
            refine rl_and ⟨by rw [World.cell?_setCell_other (h:=by simp [hgr2]),setCells_cell hgr];simp [World.cell?,hb5.2],fun h=>Bool.noConfusion (show true=false from h)⟩ (fun hS hC=>?_)
            refine rl_done (by kernel_rfl) ?_ _
            clear hS hC
            refine HJ.out _ _ ?_
            clear HJ
            simp only [Act.put,List.setIfInBounds_toArray,List.set_cons_zero,List.set_cons_succ]
            have HZ:=Lib.hid (HOK.out q _ x gg cap hv hxb HFA.out HEA.out HRA.out)
            clear HFA HFB HRA HRB hth hth2 hb5
            go_wp2_with fail
            exact bodyPost_ret (v:=.tuple #[]) (by simp [results,Tryz.results78,go_sem]) rfl HZ.out
          · skip
            refine rl_store 8 _ 26 (.tmp 2) (.tmp 17) ⟨bi,0,none⟩ (.slice (some ⟨gg,0,none⟩) (us.length+1) cap) rfl (by kernel_rfl) (by kernel_rfl) rfl (by kernel_rfl) (by kernel_rfl) (by kernel_rfl) rfl (by simp [World.cell?,hb5.1]) (by simp [World.frozen?,hb5.1]) ?_
            refine rl_and ⟨by rw [World.cell?_setCell_other (h:=by simp [hgr2])];simp [World.cell?,hb5.2],fun h=>Bool.noConfusion (show true=false from h)⟩ (fun hS hC=>?_)
            refine rl_all [7] (by kernel_rfl) (by simp) hC (rl_one _ ?_)
            refine rp_storeC 7 _ 28 (.tmp 18) (.tmp 14) gg (us.length*8) x.c rfl (by kernel_rfl) (by kernel_rfl) rfl (by kernel_rfl) (by kernel_rfl) (by kernel_rfl) hth2 ?_
            refine rl_and ⟨by rw [setCells_cell hgr,World.cell?_setCell_other (h:=by simp [hgr2])];simp [World.cell?,hb5.2],fun h=>Bool.noConfusion (show true=false from h)⟩ (fun hS hC=>?_)
            refine rl_done (by kernel_rfl) ?_ _
            clear hS hC
            refine HJ.out _ _ ?_
            clear HJ
            simp only [Act.put,List.setIfInBounds_toArray,List.set_cons_zero,List.set_cons_succ]
            have HZ:=Lib.hid (HOK.out q _ x gg cap hv hxb HFB.out HEB.out HRB.out)
            clear HFA HFB HRA HRB hth hth2 hb5
            go_wp2_with fail
            exact bodyPost_ret (v:=.tuple #[]) (by simp [results,Tryz.results78,go_sem]) rfl HZ.out
    · have HX:=Lib.hid (HBAD.out 2 w1 (memberL_sign HV.out hx) ⟨_,_,_,⟨HK7.out.oth.trans h2.oth,h2.rd⟩⟩)
      clear h2 KM c7 hx
      go_wp2
      exact ⟨rfl,HX.out⟩
end Go.Proofs.YtijaphbccnadbaaGreatDoor
