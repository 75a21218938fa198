/- Texts of the claim. -/
import Derived.Test.YtapicpdfdjofaaaDoorEr
set_option linter.unusedVariables false
set_option linter.unusedSimpArgs false
set_option maxHeartbeats 32000000
set_option maxRecDepth 100000
namespace Go.Proofs.YtapicpdfdjofaaaDoor
open Go.RowKit Go.Shelf
def itemT (i:Nat):MT:=leafT 4 false (dS i)
def itemsT (j:Nat):List MT:=(List.range j).map itemT
theorem items_len (j:Nat):(itemsT j).length=j:=by simp [itemsT]
theorem items_snoc (j:Nat):itemsT (j+1)=itemsT j++[itemT j]:=by unfold itemsT;rw [List.range_succ,List.map_append];rfl
theorem dS_size {i:Nat} (h:i<150):(dS i).size≤3:=by
  have:=chk_all i h
  unfold chkItem at this
  simp only [Bool.and_eq_true,decide_eq_true_eq] at this
  unfold dS;rw [mkB_size];omega
structure ArI (W8:World) (b8:Nat) (us:List MT) (va:Option Addr) (vc:Nat) (wr:World):Prop where
  but:But b8 W8 wr
  lt:b8<W8.heap.size
  box:BoxT wr b8 (arrC va us.length vc)
  ow:wr.ownsRow W8.heap.size 28 8 (.slice va us.length vc) us.length (flat (us.map MT.c))
theorem ArI.mid {W8 wr w3 w5:World} {b8:Nat} {us:List MT} {va:Option Addr} {vc:Nat} (h:ArI W8 b8 us va vc wr) (h3:Below wr.heap.size wr w3) (hg5:w3.grownBy w5 (Value.slice va us.length vc).ownBlock):BoxT w5 b8 (arrC va us.length vc):=by
  have hs3:=h3.size;have hlt:=h.box.lt;have hl8:=h.lt
  refine h.box.on ?_
  rw [hg5.block b8 (by omega) (fun e=>by have:=(own_block h.ow e.symm).1;omega),h3.block b8 (by omega)]
theorem ArI.step {W8 wr w3 w5:World} {b8:Nat} {us:List MT} {x:MT} {va ad:Option Addr} {vc cap:Nat} (h:ArI W8 b8 us va vc wr) (h3:Below wr.heap.size wr w3)
    (ho5:w5.ownsRow W8.heap.size 28 8 (.slice ad (us.length+1) cap) (us.length+1) (flat (us.map MT.c)++x.c.cells)) (hg5:w3.grownBy w5 (Value.slice va us.length vc).ownBlock) :
    ArI W8 b8 (us++[x]) ad cap (w5.setCell ⟨b8,7,none⟩ (.slice ad (us.length+1) cap)):=by
  have hbut5:But b8 W8 w5:=grow_but (B:=0) (h.but.trans (But.of_below h3)) (own_onN h.ow h3) hg5
  have hbox6:=box_set (w:=w5) (h.mid h3 hg5) ad (us.length+1) cap
  have e1:(us++[x]).length=us.length+1:=by simp
  have e2:flat ((us++[x]).map MT.c)=flat (us.map MT.c)++x.c.cells:=by simp [flat]
  have hlt:=h.lt
  refine ⟨hbut5.trans ((But.refl _ _).setCell _ _),hlt,by rw [e1];exact hbox6,?_⟩
  rw [e1,e2]
  exact own_heap ho5 (fun k hk=>set_heap _ _ _ _ _ (by have:=(own_block ho5 hk).1;omega))
theorem ArI.rep {W8 wr:World} {b8:Nat} {us:List MT} {va:Option Addr} {vc:Nat} (h:ArI W8 b8 us va vc wr) (hl:us.length≤1000) (hu:∀ x∈us,Rep wr x):Rep wr (arrT va us.length vc us):=by
  obtain ⟨_,_,e,hvc,hvr,_,hva,_⟩:=own_viewN h.ow
  cases e
  exact arrT_rep rfl hvc (by omega) hvr hu
theorem pi_lss {P:Program} (w:World) (ev:Operand→Value) (o:Oper) (ty ty':TypeId) (x y:Operand) (a b:Nat) (r:Bool) (ho:o.op=.binOp .lss ty x y ty') (hx:ev x=.int .i64 (a:Int)) (hy:ev y=.int .i64 (b:Int)) (h:decide (a<b)=r) :
    (execOp ev o).run P w=.ok (.value (.bool r)) w:=by
  subst h
  have e:decide ((a:Int)<(b:Int))=decide (a<b):=by congr 1;exact propext Int.ofNat_lt
  simp [execOp,ho,hx,hy,go_sem,e]
theorem itemT_rep (w:World) (i:Nat) (h:i<150):Rep w (itemT i):=leafT_rep _ _ _ _ (by decide) (by have:=dS_size h;unfold maxLen;omega)
theorem idxL_item {i m:Nat} (h:i<150):idxL (decP i) ((m:Int) - 1)=if i<m then some i else none:=by
  have:=chk_all i h
  unfold chkItem at this
  simp only [Bool.and_eq_true,decide_eq_true_eq,beq_iff_eq,Bool.or_eq_true,ne_eq] at this
  obtain ⟨⟨⟨⟨⟨h1,h2,h3⟩,_⟩,_⟩,_⟩,_⟩:=this
  unfold idxL
  have hne:decP i ≠ []:=by intro e;rw [e] at h1;simp [idxF] at h1;subst h1;rw [decP_lt (by decide)] at e;simp at e
  rw [if_neg,h1]
  · simp only
    by_cases hl:i<m
    · rw [if_neg (by omega),if_pos hl]
    · rw [if_pos (by omega),if_neg hl]
  · rintro (h | h | h)
    · exact hne h
    · omega
    · rcases h3 with h3 | h3
      · exact h3 h.1
      · subst h3;exact h.2 (by rw [decP_lt (by decide)];rfl)
theorem idxL_mono {l:List UInt8} {m:Int} (h:idxL l 9999=none) (hm:m≤9999):idxL l m=none:=by
  unfold idxL at h ⊢
  split at h
  · rename_i hc;rw [if_pos hc]
  · rename_i hc
    rw [if_neg hc]
    cases e:idxF 0 l with
    | none=>rfl
    | some n =>
      rw [e] at h
      simp only at h ⊢
      split at h
      · rename_i h2;rw [if_pos (by omega)]
      · cases h
theorem get_item {i m:Nat} {va:Option Addr} {vc:Nat} (h:i<150):getM (arrT va m vc (itemsT m)) [dS i]=if i<m then some (itemT i) else none:=by
  have hp:placeM (arrT va m vc (itemsT m)) (dS i)=if i<m then some i else none:=by
    unfold placeM
    rw [if_neg (by simp [arrT,arrC,MT.c]),if_pos (by rfl)]
    unfold dS;rw [mkB_list]
    exact idxL_item h
  rw [getM]
  unfold stepM
  rw [hp]
  by_cases hl:i<m
  · rw [if_pos hl,if_pos hl]
    simp [getM,arrT,MT.v,itemsT,List.getD,hl]
  · rw [if_neg hl,if_neg hl];rfl
theorem get_bad {s:ByteArray} {m:Nat} {va:Option Addr} {vc:Nat} {us:List MT} (h:idxL s.data.toList 9999=none) (hm:m≤120):getM (arrT va m vc us) [s]=none:=by
  have hp:placeM (arrT va m vc us) s=none:=by
    unfold placeM
    rw [if_neg (by simp [arrT,arrC,MT.c]),if_pos (by rfl)]
    exact idxL_mono h (by show ((m:Nat):Int) - 1≤9999;omega)
  rw [getM];unfold stepM;rw [hp];rfl
theorem get_deep {i m:Nat} {va:Option Addr} {vc:Nat} (s:ByteArray) (h:i<150):getM (arrT va m vc (itemsT m)) [dS i,s]=none:=by
  have:=get_item (m:=m) (va:=va) (vc:=vc) h
  rw [show [dS i,s]=[dS i]++[s] from rfl,getM_append,this]
  split
  · rw [Option.bind_some,getM]
    unfold stepM placeM itemT leafT
    simp [MT.c,leafC]
  · rfl
def BadS (s:ByteArray):Prop:=idxL s.data.toList 9999=none∧s.size≤10
theorem bad_item {i:Nat} (h:i<150):BadS ((⟨#[48]⟩:ByteArray)++dS i)∧BadS ((⟨#[43]⟩:ByteArray)++dS i)∧BadS (dS i++(⟨#[46]⟩:ByteArray))∧BadS ((⟨#[32]⟩:ByteArray)++dS i):=by
  have hs:=dS_size h
  have:=chk_all i h
  unfold chkItem at this
  simp only [Bool.and_eq_true,decide_eq_true_eq,beq_iff_eq,Bool.or_eq_true,ne_eq,Option.isNone_iff_eq_none] at this
  obtain ⟨⟨⟨⟨_,g1⟩,g2⟩,g3⟩,g4⟩:=this
  have e:(dS i).data.toList=decP i:=mkB_list _
  refine ⟨⟨?_,?_⟩,⟨?_,?_⟩,⟨?_,?_⟩,⟨?_,?_⟩⟩
  · rw [ByteArray.data_append,Array.toList_append,e];exact g1
  · rw [ByteArray.size_append];have:(⟨#[48]⟩:ByteArray).size=1:=rfl;omega
  · rw [ByteArray.data_append,Array.toList_append,e];exact g2
  · rw [ByteArray.size_append];have:(⟨#[43]⟩:ByteArray).size=1:=rfl;omega
  · rw [ByteArray.data_append,Array.toList_append,e];exact g3
  · rw [ByteArray.size_append];have:(⟨#[46]⟩:ByteArray).size=1:=rfl;omega
  · rw [ByteArray.data_append,Array.toList_append,e];exact g4
  · rw [ByteArray.size_append];have:(⟨#[32]⟩:ByteArray).size=1:=rfl;omega
theorem idx6_0 (a b c d e f:Value) (w:World):Sem.run Tryd.prog (Instr.index 55 (.agg #[a,b,c,d,e,f]) (.int .i64 0)) w=Result.ok a w:=by kernel_rfl
theorem idx6_1 (a b c d e f:Value) (w:World):Sem.run Tryd.prog (Instr.index 55 (.agg #[a,b,c,d,e,f]) (.int .i64 1)) w=Result.ok b w:=by kernel_rfl
theorem idx6_2 (a b c d e f:Value) (w:World):Sem.run Tryd.prog (Instr.index 55 (.agg #[a,b,c,d,e,f]) (.int .i64 2)) w=Result.ok c w:=by kernel_rfl
theorem idx6_3 (a b c d e f:Value) (w:World):Sem.run Tryd.prog (Instr.index 55 (.agg #[a,b,c,d,e,f]) (.int .i64 3)) w=Result.ok d w:=by kernel_rfl
theorem idx6_4 (a b c d e f:Value) (w:World):Sem.run Tryd.prog (Instr.index 55 (.agg #[a,b,c,d,e,f]) (.int .i64 4)) w=Result.ok e w:=by kernel_rfl
theorem idx6_5 (a b c d e f:Value) (w:World):Sem.run Tryd.prog (Instr.index 55 (.agg #[a,b,c,d,e,f]) (.int .i64 5)) w=Result.ok f w:=by kernel_rfl
def Cut8 (ii kk:Nat) (wr:World) (p q:Value) (W:World):Prop :=
  ∃ (b:Nat) (c:Cel),p=.pointer (some ⟨b,0,none⟩)∧q=.bool (decide (ii<kk))∧BoxT W b c∧(ii<kk→c.s=dS ii)∧wr.heap.size≤b∧Below wr.heap.size wr W
def Cut13 (wr:World) (q:Value) (W:World):Prop:=q=.bool false∧Below wr.heap.size wr W
def Cut10 (wr:World) (p:Value) (W:World):Prop:=∃ s,p=.string s∧BadS s∧W=wr
def PiL (W8:World) (b8 kk g:Nat) (iv:Value) (wr:World):Prop :=
  ∃ (j:Nat) (va:Option Addr) (vc:Nat),j≤kk∧kk - j≤g∧iv=.int .i64 (j:Int)∧ArI W8 b8 (itemsT j) va vc wr
theorem pointerItems_walk (n at' how:Int) (w:World) (hn:-9223372036854775808≤n∧n≤9223372036854775807) (ha:-9223372036854775808≤at'∧at'≤9223372036854775807) (hh:-9223372036854775808≤how∧how≤9223372036854775807) (hT:UT w) (hM:ML w) :
    Calls Tryd.prog 6 #[.int .i64 n,.int .i64 at',.int .i64 how] w fun e w'=>e=.returned (.bool true)∧Below w.heap.size w w':=by
  have KAW:=Lib.hid (fun W (h:Below w.heap.size w W)=>awake14_any W (hT.below h) (hM.below h))
  have KP1:=Lib.hid (fun W=>place_any n 120 W hn (by decide))
  have KP2:=Lib.hid (fun W=>place_any at' 150 W ha (by decide))
  have KP3:=Lib.hid (fun W=>place_any how 6 W hh (by decide))
  obtain ⟨kk,hkk,hk120⟩:∃ kk:Nat,n % 120=(kk:Int)∧kk<120:=⟨(n % 120).toNat,by omega,by omega⟩
  obtain ⟨ii,hii,hi150⟩:∃ ii:Nat,at' % 150=(ii:Int)∧ii<150:=⟨(at' % 150).toNat,by omega,by omega⟩
  rw [hkk] at KP1
  rw [hii] at KP2
  have KD:=Lib.hid (fun (i:Nat) (h:i<150) W=>dec_any i W (by omega))
  clear hT hM hn ha hh hkk hii
  obtain ⟨W8,hW8⟩:∃ x,w.alloc (.cells #[.int .i64 6,.bool false,.bool false,.slice none 0 0,.int .i64 0,.string ⟨#[]⟩,.slice none 0 0,.slice none 0 0] 28)=x:=⟨_,rfl⟩
  have hb8:Below w.heap.size w W8:=by rw [← hW8];exact (Below.refl _ _).alloc (Nat.le_refl _) _
  have hs8:W8.heap.size=w.heap.size+1:=by rw [← hW8,World.size_alloc]
  have hx8:BoxT W8 w.heap.size (arrC none 0 0):=by
    have:=heap_alloc_new w (.cells #[.int .i64 6,.bool false,.bool false,.slice none 0 0,.int .i64 0,.string ⟨#[]⟩,.slice none 0 0,.slice none 0 0] 28)
    rw [hW8] at this
    exact this
  have HA0:=Lib.hid (show PiL W8 w.heap.size kk kk (.int .i64 0) W8 from ⟨0,none,0,by omega,by omega,rfl,⟨But.refl _ _,by omega,hx8,⟨rfl,.inl ⟨rfl,rfl⟩⟩⟩⟩)
  have HBB:=Lib.hid (fun W (h:But w.heap.size W8 W)=>hb8.trans (h.below (Nat.le_refl _) hb8.size))
  have HW8:=Lib.hid hW8
  clear hb8 hs8 hx8 hW8
  go_enter Tryd.func6,Tryd.ntmps6
  go_wp2_with fail
  refine (KP1.out _).mono ?_
  rintro r w1 ⟨rfl,rfl⟩
  go_wp2_with fail
  rw [HW8.out]
  obtain ⟨b8,hb8⟩:∃ b,w1.heap.size=b:=⟨_,rfl⟩
  have HBB2:=Lib.hid (fun W (h:But b8 W8 W)=>HBB.out W (by rw [hb8];exact h))
  rw [hb8] at HA0 ⊢
  have HB8:=Lib.hid hb8
  clear hb8 HW8 KP1 HBB
  go_loopg [9] kk (fun g iv wr=>PiL W8 b8 kk g iv wr)
  case atStart=>exact HA0.out
  case round =>
    clear HA0
    obtain ⟨j,va,vc,hj,hjg,rfl,hAS⟩:=hrel
    have HAS:=Lib.hid hAS
    clear hAS
    have hln:=items_len j
    by_cases hlt:j<kk
    · obtain ⟨g,rfl⟩:∃ k,gk=k+1:=⟨gk - 1,by omega⟩
      have hltz:(j:Int)<(kk:Int):=by omega
      have hj150:j<150:=by omega
      have hj119:(j:Int)≤119:=by omega
      have HBX:=Lib.hid (fun W (h:Below wr.heap.size wr W)=>((HAS.out.box.on (h.block _ HAS.out.box.lt)).cells.2.2.2.2.2.2.2:W.cell? ⟨b8,7,none⟩=some (.slice va (itemsT j).length vc)))
      go_upto_region 6 with fail
      refine rc_norm (fun J hJ=>?_)
      have HJ:=Lib.hid hJ
      clear hJ
      refine rl_start (S:=fun L W=>True∧(L.getD 6 false=false→Below wr.heap.size wr W)) (by kernel_rfl) ⟨trivial,fun _=>below_drew (Below.refl _ _)⟩ (fun hC hS=>?_)
      refine rl_pure 0 _ (.pointer (some ⟨b8,7,none⟩)) (some 30) rfl (by kernel_rfl) (by kernel_rfl) (by kernel_rfl) (by kernel_rfl) (fun _ _ _ h=>h) (fun L W=>si1 0 6 rfl _) (by kernel_rfl) (fun w=>by kernel_rfl) hC hS (fun hC hS=>?_)
      refine rl_load1 1 _ 26 (.tmp 30) ⟨b8,7,none⟩ (.slice va (itemsT j).length vc) _ (some 31) rfl (by kernel_rfl) (by kernel_rfl) (by kernel_rfl) (by kernel_rfl) (fun _ _ _ h=>h) (fun L W=>si1 1 6 rfl _) (by kernel_rfl) rfl (by kernel_rfl) Tryd.underlying26 rfl (fun L W hC h1 hS=>HBX.out W (hS.2 (cl_no hC 1 6 _ rfl (by kernel_rfl) h1))) hC hS (fun hC hS=>?_)
      refine rl_pure 2 _ (.int .i64 (j:Int)) (some 32) rfl (by kernel_rfl) (by kernel_rfl) (by kernel_rfl) (by kernel_rfl) (fun _ _ _ h=>h) (fun L W=>si1 2 6 rfl _) (by kernel_rfl) (fun w=>by kernel_rfl) hC hS (fun hC hS=>?_)
      refine rl_all [3] (by kernel_rfl) (by simp) hC (rl_one _ ?_)
      refine rc_call 3 _ 32 _ _ _ _ #[.int .i64 (j:Int)] (some 33) rfl (by kernel_rfl) (by kernel_rfl) rfl (by kernel_rfl) Tryd.func32 (by kernel_rfl) (by kernel_rfl) (by kernel_rfl) (KD.out j hj150 _) ?_
      rintro r' w' ⟨rfl,rfl⟩
      refine ⟨_,rfl,?_⟩
      refine rl_and ⟨trivial,fun _=>below_drew (Below.refl _ _)⟩ (fun hS hC=>?_)
      refine rl_pure 4 _ (.agg #[.int .i64 4,.bool false,.bool false,.slice none 0 0,.int .i64 0,.string (dS j),.slice none 0 0,.slice none 0 0]) (some 34) rfl (by kernel_rfl) (by kernel_rfl) (by kernel_rfl) (by kernel_rfl) (fun _ _ _ h=>h) (fun L W=>si1 4 6 rfl _) (by kernel_rfl) (fun w=>by kernel_rfl) hC hS (fun hC hS=>?_)
      have h13:Below wr.heap.size wr (wr.drew.alloc (.cells #[.int .i64 4,.bool false,.bool false,.slice none 0 0,.int .i64 0,.string (dS j),.slice none 0 0,.slice none 0 0] 28)):=(below_drew (Below.refl _ _)).alloc (Nat.le_refl _) _
      have hnw:=heap_alloc_new wr.drew (.cells #[.int .i64 4,.bool false,.bool false,.slice none 0 0,.int .i64 0,.string (dS j),.slice none 0 0,.slice none 0 0] 28)
      refine rl_all [5] (by kernel_rfl) (by simp) hC (rl_one _ ?_)
      refine rl_val 5 _ (.slice (some ⟨wr.drew.heap.size,0,none⟩) 1 1) (wr.drew.alloc (.cells #[.int .i64 4,.bool false,.bool false,.slice none 0 0,.int .i64 0,.string (dS j),.slice none 0 0,.slice none 0 0] 28)) (some 35) rfl (by kernel_rfl) (by kernel_rfl) (by kernel_rfl) ?_
      refine rl_and ⟨trivial,fun _=>h13⟩ (fun hS hC=>?_)
      generalize hW3:wr.drew.alloc (.cells #[.int .i64 4,.bool false,.bool false,.slice none 0 0,.int .i64 0,.string (dS j),.slice none 0 0,.slice none 0 0] 28)=W3 at *
      generalize wr.drew.heap.size=gN at *
      have HRD:=Lib.hid (rd_lit W3 gN _ _ hnw)
      have HOW:=Lib.hid (own_onN HAS.out.ow h13)
      have HSZ3:=Lib.hid (Nat.le_trans HAS.out.but.size h13.size)
      have H13:=Lib.hid h13
      clear hnw h13 hW3
      refine rl_all [6] (by kernel_rfl) (by simp) hC (rl_one _ ?_)
      refine rl_law 6 _ (some 36) rfl (by kernel_rfl) (by kernel_rfl) (R:=fun v' w'=>w'.ownsRow W8.heap.size 28 8 v' ((itemsT j).length+1) (flat ((itemsT j).map MT.c)++[.int .i64 4,.bool false,.bool false,.slice none 0 0,.int .i64 0,.string (dS j),.slice none 0 0,.slice none 0 0])∧W3.grownBy w' (Value.slice va (itemsT j).length vc).ownBlock) (fun K hK=>wp_appV Tryd.underlying26 info_tree rfl (by decide) (by decide) W3 (.tmp 31) (.tmp 35) rfl W8.heap.size _ (itemsT j).length (flat ((itemsT j).map MT.c)) (by kernel_rfl) HOW.out (some ⟨gN,0,none⟩) 1 1 [.int .i64 4,.bool false,.bool false,.slice none 0 0,.int .i64 0,.string (dS j),.slice none 0 0,.slice none 0 0] (by kernel_rfl) rfl HRD.out (cel_one ⟨4,false,false,none,0,0,0,dS j,none,0,0,none,0,0⟩) nofun (by rw [hln];omega) HSZ3.out (fun v' w' h1 h2=>hK v' w' ⟨h1,h2⟩)) ?_
      rintro v5 w5 ⟨ho5,hg5⟩
      refine rl_and ⟨trivial,fun h=>Bool.noConfusion (show true=false from h)⟩ (fun hS hC=>?_)
      have hbx5:=HAS.out.mid H13.out hg5
      obtain ⟨ad5,cap5,e5,_⟩:=own_viewN ho5
      subst e5
      have HN:=Lib.hid (show PiL W8 b8 kk g (.int .i64 ((j:Int)+1)) (w5.setCell ⟨b8,7,none⟩ (.slice ad5 ((itemsT j).length+1) cap5)) from ⟨j+1,ad5,cap5,by omega,by omega,rfl,by rw [items_snoc];exact HAS.out.step (x:=itemT j) H13.out ho5 hg5⟩)
      refine rl_pure 7 _ (.pointer (some ⟨b8,7,none⟩)) (some 37) rfl (by kernel_rfl) (by kernel_rfl) (by kernel_rfl) (by kernel_rfl) (fun _ _ _ h=>h) (fun L W=>si1 7 6 rfl _) (by kernel_rfl) (fun w=>by kernel_rfl) hC hS (fun hC hS=>?_)
      refine rl_all [8] (by kernel_rfl) (by simp) hC (rl_one _ ?_)
      refine rl_store 8 _ 26 (.tmp 37) (.tmp 36) ⟨b8,7,none⟩ (.slice ad5 ((itemsT j).length+1) cap5) rfl (by kernel_rfl) (by kernel_rfl) rfl (by kernel_rfl) (by kernel_rfl) (by kernel_rfl) rfl (by rw [hbx5.cells.2.2.2.2.2.2.2];rfl) (hbx5.free 7) ?_
      refine rl_and ⟨trivial,fun h=>Bool.noConfusion (show true=false from h)⟩ (fun hS hC=>?_)
      refine rl_done (by kernel_rfl) ?_ _
      clear hbx5 ho5 hg5 hS hC
      rw [hln] at HN
      refine HJ.out _ _ ?_
      clear HJ
      simp only [Act.put,List.setIfInBounds_toArray,List.set_cons_zero,List.set_cons_succ]
      go_wp2_with fail
      go_roundg g
      case rel=>exact HN.out
      case measure=>omega
    · obtain rfl:j=kk:=by omega
      have hltz:¬ (j:Int)<(j:Int):=by omega
      have hij:∀ x∈itemsT j,Rep wr x:=by
        intro x hx
        unfold itemsT at hx
        obtain ⟨i,hi,rfl⟩:=List.mem_map.1 hx
        exact itemT_rep wr i (by have:=List.mem_range.1 hi;omega)
      have hrep:=HAS.out.rep (by rw [hln];omega) hij
      rw [hln] at hrep
      have HTR:=Lib.hid (fun W (h:Below wr.heap.size wr W)=>(hrep.on h:Rep W (arrT va j vc (itemsT j))))
      have HBX:=Lib.hid (fun W (h:Below wr.heap.size wr W)=>((by have:=HAS.out.box.on (h.block _ HAS.out.box.lt);rw [hln] at this;exact this):BoxT W b8 (arrC va j vc)))
      have HBW:=Lib.hid (HBB2.out wr HAS.out.but)
      clear hrep hij
      go_wp2_with fail
      refine (KP2.out _).mono ?_
      rintro r wx ⟨rfl,hwx⟩
      replace hwx:=hwx.symm
      subst hwx
      have hi149:(ii:Int)≤149:=by omega
      obtain ⟨cx,hcx⟩:∃ cx:Cel,cx=if ii<j then (itemT ii).c else leafC 0 false ⟨#[]⟩:=⟨_,rfl⟩
      have HCX:=Lib.hid (show ii<j→cx.s=dS ii by intro h;rw [hcx,if_pos h];rfl)
      have KG:=Lib.hid (fun W (h:Below wr.heap.size wr W) g (hr:RdV W (some ⟨g,0,none⟩) (sv [dS ii]))=>((get_t (arrT va j vc (itemsT j)) (some ⟨g,0,none⟩) 1 1 [dS ii] W (HTR.out W h) rfl hr (by decide) (by decide) (by intro x hx;simp at hx;subst hx;have:=dS_size hi150;omega)).mono (by
        rintro e W' ⟨hd,hb⟩
        refine ⟨?_,hb⟩
        rw [get_item hi150] at hd
        rcases hd with ⟨u,h1,h2⟩ | ⟨h1,h2⟩
        · by_cases hl:ii<j
          · rw [if_pos hl] at h1 hcx
            obtain rfl:=(Option.some.inj h1)
            rw [h2,hcx,decide_eq_true hl]
          · rw [if_neg hl] at h1;cases h1
        · by_cases hl:ii<j
          · rw [if_pos hl] at h1;cases h1
          · rw [if_neg hl] at hcx
            rw [h2,hcx,decide_eq_false hl];rfl):Calls Tryd.prog 22 #[(arrC va j vc).val,.slice (some ⟨g,0,none⟩) 1 1] W fun e W'=>e=.returned (.tuple #[cx.val,.bool (decide (ii<j))])∧Below W.heap.size W W'))
      have KG2:=Lib.hid (fun W (h:Below wr.heap.size wr W) g (hr:RdV W (some ⟨g,0,none⟩) (sv [dS ii,⟨#[48]⟩]))=>((get_t (arrT va j vc (itemsT j)) (some ⟨g,0,none⟩) 2 2 [dS ii,⟨#[48]⟩] W (HTR.out W h) rfl hr (by decide) (by decide) (by intro x hx;simp at hx;rcases hx with rfl | rfl;(have:=dS_size hi150;omega);decide)).mono (by
        rintro e W' ⟨hd,hb⟩
        refine ⟨?_,hb⟩
        rw [get_deep _ hi150] at hd
        rcases hd with ⟨u,h1,h2⟩ | ⟨h1,h2⟩
        · cases h1
        · rw [h2];rfl):Calls Tryd.prog 22 #[(arrC va j vc).val,.slice (some ⟨g,0,none⟩) 2 2] W fun e W'=>e=.returned (.tuple #[(leafC 0 false ⟨#[]⟩).val,.bool false])∧Below W.heap.size W W'))
      have KG3:=Lib.hid (fun (s:ByteArray) (hs:BadS s) W (h:Below wr.heap.size wr W) g (hr:RdV W (some ⟨g,0,none⟩) (sv [s]))=>((get_t (arrT va j vc (itemsT j)) (some ⟨g,0,none⟩) 1 1 [s] W (HTR.out W h) rfl hr (by decide) (by decide) (by intro x hx;simp at hx;subst hx;have:=hs.2;omega)).mono (by
        rintro e W' ⟨hd,hb⟩
        refine ⟨?_,hb⟩
        rw [get_bad hs.1 (by omega)] at hd
        rcases hd with ⟨u,h1,h2⟩ | ⟨h1,h2⟩
        · cases h1
        · rw [h2];rfl):Calls Tryd.prog 22 #[(arrC va j vc).val,.slice (some ⟨g,0,none⟩) 1 1] W fun e W'=>e=.returned (.tuple #[(leafC 0 false ⟨#[]⟩).val,.bool false])∧Below W.heap.size W W'))
      clear hcx
      go_upto_region 8 with fail
      go_cut [11,12] from 40 to 47 (fun p q W=>Cut8 ii j wr p q W)
      case first =>
        rename_i J K hJ hK
        have HJ:=Lib.hid hJ
        refine rc_first J hK ?_
        clear hJ hK
        refine rl_start (S:=fun _ W=>Below wr.heap.size wr W) (by kernel_rfl) (below_drew (Below.refl _ _)) (fun hC hS=>?_)
        have hB:=hS
        refine rl_loadM 0 _ 28 (.tmp 8) b8 0 (arrC va j vc).cells _ (some 41) rfl (by kernel_rfl) (by kernel_rfl) (by kernel_rfl) (by kernel_rfl) (fun _ _ _ h=>h) (fun _ _=>Iff.rfl) (by kernel_rfl) rfl (by kernel_rfl) Tryd.underlying28 rfl (by kernel_rfl) (fun L W hC h1 hS=>box_range (HBX.out W hS)) hC hS (fun hC hS=>?_)
        refine rl_pure 1 _ (.int .i64 (ii:Int)) (some 42) rfl (by kernel_rfl) (by kernel_rfl) (by kernel_rfl) (by kernel_rfl) (fun _ _ _ h=>h) (fun _ _=>Iff.rfl) (by kernel_rfl) (fun w=>by kernel_rfl) hC hS (fun hC hS=>?_)
        refine rl_all [2,8] (by kernel_rfl) (by simp) hC (rl_two _ _ ?_ ?_)
        · skip
          refine rc_call 2 _ 32 _ _ _ _ #[.int .i64 (ii:Int)] (some 43) rfl (by kernel_rfl) (by kernel_rfl) rfl (by kernel_rfl) Tryd.func32 (by kernel_rfl) (by kernel_rfl) (by kernel_rfl) (KD.out ii hi150 _) ?_
          rintro r' w' ⟨rfl,hw'⟩
          replace hw':=hw'.symm
          subst hw'
          refine ⟨_,rfl,?_⟩
          refine rl_and hB (fun hS hC=>?_)
          refine rl_all [3,8] (by kernel_rfl) (by simp) hC (rl_two _ _ ?_ ?_)
          · skip
            have hq2:Below wr.drew.heap.size wr.drew (wr.drew.alloc (.cells #[.string (dS ii)] 9)):=(Below.refl _ _).alloc (Nat.le_refl _) _
            have hsl:=rd_lit (wr.drew.alloc (.cells #[.string (dS ii)] 9)) wr.drew.heap.size [.string (dS ii)] 9 (heap_alloc_new wr.drew (.cells #[.string (dS ii)] 9))
            replace hB:=hB.trans (hq2.mono hB.size)
            refine rl_val 3 _ (.slice (some ⟨wr.drew.heap.size,0,none⟩) 1 1) (wr.drew.alloc (.cells #[.string (dS ii)] 9)) (some 44) rfl (by kernel_rfl) (by kernel_rfl) (by kernel_rfl) ?_
            refine rl_and hB (fun hS hC=>?_)
            generalize wr.drew.alloc (.cells #[.string (dS ii)] 9)=W2 at *
            generalize wr.drew.heap.size=g2 at *
            refine rl_all [4,8] (by kernel_rfl) (by simp) hC (rl_two _ _ ?_ ?_)
            · skip
              refine rc_call 4 _ 22 _ _ _ _ #[(arrC va j vc).val,.slice (some ⟨g2,0,none⟩) 1 1] (some 45) rfl (by kernel_rfl) (by kernel_rfl) rfl (by kernel_rfl) Tryd.func22 (by kernel_rfl) (by kernel_rfl) (by kernel_rfl) (KG.out _ hB _ hsl) ?_
              rintro r' W3 ⟨rfl,hq3⟩
              replace hsl:=hsl.on hq3
              replace hB:=hB.trans (hq3.mono hB.size)
              refine ⟨_,rfl,?_⟩
              refine rl_and hB (fun hS hC=>?_)
              refine rl_pure 5 _ (.tuple #[cx.val,.bool (decide (ii<j))]) (some 40) rfl (by kernel_rfl) (by kernel_rfl) (by kernel_rfl) (by kernel_rfl) (fun _ _ _ h=>h) (fun _ _=>Iff.rfl) (by kernel_rfl) (fun w=>by kernel_rfl) hC hS (fun hC hS=>?_)
              refine rl_pure 6 _ (cx.val) (some 46) rfl (by kernel_rfl) (by kernel_rfl) (by kernel_rfl) (by kernel_rfl) (fun _ _ _ h=>h) (fun _ _=>Iff.rfl) (by kernel_rfl) (fun w=>by kernel_rfl) hC hS (fun hC hS=>?_)
              refine rl_pure 7 _ (.bool (decide (ii<j))) (some 47) rfl (by kernel_rfl) (by kernel_rfl) (by kernel_rfl) (by kernel_rfl) (fun _ _ _ h=>h) (fun _ _=>Iff.rfl) (by kernel_rfl) (fun w=>by kernel_rfl) hC hS (fun hC hS=>?_)
              refine rl_all [8] (by kernel_rfl) (by simp) hC (rl_one _ ?_)
              have hq4:Below W3.heap.size W3 (W3.alloc (.cells #[.int .i64 0,.bool false,.bool false,.slice none 0 0,.int .i64 0,.string ⟨#[]⟩,.slice none 0 0,.slice none 0 0] 28)):=(Below.refl _ _).alloc (Nat.le_refl _) _
              have hbs:=hB.size
              replace hsl:=hsl.on hq4
              replace hB:=hB.trans (hq4.mono hB.size)
              have hbox:BoxT (W3.alloc (.cells #[.int .i64 0,.bool false,.bool false,.slice none 0 0,.int .i64 0,.string ⟨#[]⟩,.slice none 0 0,.slice none 0 0] 28)) W3.heap.size (leafC 0 false ⟨#[]⟩):=heap_alloc_new W3 (.cells #[.int .i64 0,.bool false,.bool false,.slice none 0 0,.int .i64 0,.string ⟨#[]⟩,.slice none 0 0,.slice none 0 0] 28)
              refine rl_val 8 _ (.pointer (some ⟨W3.heap.size,0,none⟩)) (W3.alloc (.cells #[.int .i64 0,.bool false,.bool false,.slice none 0 0,.int .i64 0,.string ⟨#[]⟩,.slice none 0 0,.slice none 0 0] 28)) (some 11) rfl (by kernel_rfl) (by kernel_rfl) (by kernel_rfl) ?_
              refine rl_and hB (fun hS hC=>?_)
              generalize W3.alloc (.cells #[.int .i64 0,.bool false,.bool false,.slice none 0 0,.int .i64 0,.string ⟨#[]⟩,.slice none 0 0,.slice none 0 0] 28)=W4 at *
              generalize W3.heap.size=bx at *
              refine rl_all [9] (by kernel_rfl) (by simp) hC (rl_one _ ?_)
              refine rl_storeT 9 _ 28 (.tmp 11) (.tmp 46) bx cx (leafC 0 false ⟨#[]⟩) (TypeDesc.struct #[]) rfl (by kernel_rfl) (by kernel_rfl) rfl (by kernel_rfl) (by kernel_rfl) (by kernel_rfl) hbox ?_
              have hbx2:=put0_box hbox (c:=cx)
              replace hB:=hB.trans ((put0_but W4 bx cx).below hbs hB.size)
              refine rl_and hB (fun hS hC=>?_)
              refine rl_pure 10 _ (.bool (decide (ii<j))) (some 12) rfl (by kernel_rfl) (by kernel_rfl) (by kernel_rfl) (by kernel_rfl) (fun _ _ _ h=>h) (fun _ _=>Iff.rfl) (by kernel_rfl) (fun w=>by kernel_rfl) hC hS (fun hC hS=>?_)
              refine rl_done (by kernel_rfl) ?_ _
              refine HJ.out _ _ ?_
              clear HJ
              simp only [Act.put,List.setIfInBounds_toArray,List.set_cons_zero,List.set_cons_succ]
              (repeat apply Exists.intro)
              exact ⟨⟨bx,cx,rfl,rfl,hbx2,HCX.out,hbs,hB⟩,rfl⟩
            · skip
              have hq6:Below W2.heap.size W2 (W2.alloc (.cells #[.int .i64 0,.bool false,.bool false,.slice none 0 0,.int .i64 0,.string ⟨#[]⟩,.slice none 0 0,.slice none 0 0] 28)):=(Below.refl _ _).alloc (Nat.le_refl _) _
              have hbs:=hB.size
              replace hsl:=hsl.on hq6
              replace hB:=hB.trans (hq6.mono hB.size)
              have hbox:BoxT (W2.alloc (.cells #[.int .i64 0,.bool false,.bool false,.slice none 0 0,.int .i64 0,.string ⟨#[]⟩,.slice none 0 0,.slice none 0 0] 28)) W2.heap.size (leafC 0 false ⟨#[]⟩):=heap_alloc_new W2 (.cells #[.int .i64 0,.bool false,.bool false,.slice none 0 0,.int .i64 0,.string ⟨#[]⟩,.slice none 0 0,.slice none 0 0] 28)
              refine rl_val 8 _ (.pointer (some ⟨W2.heap.size,0,none⟩)) (W2.alloc (.cells #[.int .i64 0,.bool false,.bool false,.slice none 0 0,.int .i64 0,.string ⟨#[]⟩,.slice none 0 0,.slice none 0 0] 28)) (some 11) rfl (by kernel_rfl) (by kernel_rfl) (by kernel_rfl) ?_
              refine rl_and hB (fun hS hC=>?_)
              generalize W2.alloc (.cells #[.int .i64 0,.bool false,.bool false,.slice none 0 0,.int .i64 0,.string ⟨#[]⟩,.slice none 0 0,.slice none 0 0] 28)=W6 at *
              generalize W2.heap.size=bx at *
              refine rl_all [4] (by kernel_rfl) (by simp) hC (rl_one _ ?_)
              refine rc_call 4 _ 22 _ _ _ _ #[(arrC va j vc).val,.slice (some ⟨g2,0,none⟩) 1 1] (some 45) rfl (by kernel_rfl) (by kernel_rfl) rfl (by kernel_rfl) Tryd.func22 (by kernel_rfl) (by kernel_rfl) (by kernel_rfl) (KG.out _ hB _ hsl) ?_
              rintro r' W7 ⟨rfl,hq7⟩
              replace hbox:=hbox.on (hq7.block _ hbox.lt)
              replace hsl:=hsl.on hq7
              replace hB:=hB.trans (hq7.mono hB.size)
              refine ⟨_,rfl,?_⟩
              refine rl_and hB (fun hS hC=>?_)
              refine rl_pure 5 _ (.tuple #[cx.val,.bool (decide (ii<j))]) (some 40) rfl (by kernel_rfl) (by kernel_rfl) (by kernel_rfl) (by kernel_rfl) (fun _ _ _ h=>h) (fun _ _=>Iff.rfl) (by kernel_rfl) (fun w=>by kernel_rfl) hC hS (fun hC hS=>?_)
              refine rl_pure 6 _ (cx.val) (some 46) rfl (by kernel_rfl) (by kernel_rfl) (by kernel_rfl) (by kernel_rfl) (fun _ _ _ h=>h) (fun _ _=>Iff.rfl) (by kernel_rfl) (fun w=>by kernel_rfl) hC hS (fun hC hS=>?_)
              refine rl_pure 7 _ (.bool (decide (ii<j))) (some 47) rfl (by kernel_rfl) (by kernel_rfl) (by kernel_rfl) (by kernel_rfl) (fun _ _ _ h=>h) (fun _ _=>Iff.rfl) (by kernel_rfl) (fun w=>by kernel_rfl) hC hS (fun hC hS=>?_)
              refine rl_all [9] (by kernel_rfl) (by simp) hC (rl_one _ ?_)
              refine rl_storeT 9 _ 28 (.tmp 11) (.tmp 46) bx cx (leafC 0 false ⟨#[]⟩) (TypeDesc.struct #[]) rfl (by kernel_rfl) (by kernel_rfl) rfl (by kernel_rfl) (by kernel_rfl) (by kernel_rfl) hbox ?_
              have hbx2:=put0_box hbox (c:=cx)
              replace hB:=hB.trans ((put0_but W7 bx cx).below hbs hB.size)
              refine rl_and hB (fun hS hC=>?_)
              refine rl_pure 10 _ (.bool (decide (ii<j))) (some 12) rfl (by kernel_rfl) (by kernel_rfl) (by kernel_rfl) (by kernel_rfl) (fun _ _ _ h=>h) (fun _ _=>Iff.rfl) (by kernel_rfl) (fun w=>by kernel_rfl) hC hS (fun hC hS=>?_)
              refine rl_done (by kernel_rfl) ?_ _
              refine HJ.out _ _ ?_
              clear HJ
              simp only [Act.put,List.setIfInBounds_toArray,List.set_cons_zero,List.set_cons_succ]
              (repeat apply Exists.intro)
              exact ⟨⟨bx,cx,rfl,rfl,hbx2,HCX.out,hbs,hB⟩,rfl⟩
          · skip
            have hq9:Below wr.drew.heap.size wr.drew (wr.drew.alloc (.cells #[.int .i64 0,.bool false,.bool false,.slice none 0 0,.int .i64 0,.string ⟨#[]⟩,.slice none 0 0,.slice none 0 0] 28)):=(Below.refl _ _).alloc (Nat.le_refl _) _
            have hbs:=hB.size
            replace hB:=hB.trans (hq9.mono hB.size)
            have hbox:BoxT (wr.drew.alloc (.cells #[.int .i64 0,.bool false,.bool false,.slice none 0 0,.int .i64 0,.string ⟨#[]⟩,.slice none 0 0,.slice none 0 0] 28)) wr.drew.heap.size (leafC 0 false ⟨#[]⟩):=heap_alloc_new wr.drew (.cells #[.int .i64 0,.bool false,.bool false,.slice none 0 0,.int .i64 0,.string ⟨#[]⟩,.slice none 0 0,.slice none 0 0] 28)
            refine rl_val 8 _ (.pointer (some ⟨wr.drew.heap.size,0,none⟩)) (wr.drew.alloc (.cells #[.int .i64 0,.bool false,.bool false,.slice none 0 0,.int .i64 0,.string ⟨#[]⟩,.slice none 0 0,.slice none 0 0] 28)) (some 11) rfl (by kernel_rfl) (by kernel_rfl) (by kernel_rfl) ?_
            refine rl_and hB (fun hS hC=>?_)
            generalize wr.drew.alloc (.cells #[.int .i64 0,.bool false,.bool false,.slice none 0 0,.int .i64 0,.string ⟨#[]⟩,.slice none 0 0,.slice none 0 0] 28)=W9 at *
            generalize wr.drew.heap.size=bx at *
            refine rl_all [3] (by kernel_rfl) (by simp) hC (rl_one _ ?_)
            have hq10:Below W9.heap.size W9 (W9.alloc (.cells #[.string (dS ii)] 9)):=(Below.refl _ _).alloc (Nat.le_refl _) _
            have hsl:=rd_lit (W9.alloc (.cells #[.string (dS ii)] 9)) W9.heap.size [.string (dS ii)] 9 (heap_alloc_new W9 (.cells #[.string (dS ii)] 9))
            replace hbox:=hbox.on (hq10.block _ hbox.lt)
            replace hB:=hB.trans (hq10.mono hB.size)
            refine rl_val 3 _ (.slice (some ⟨W9.heap.size,0,none⟩) 1 1) (W9.alloc (.cells #[.string (dS ii)] 9)) (some 44) rfl (by kernel_rfl) (by kernel_rfl) (by kernel_rfl) ?_
            refine rl_and hB (fun hS hC=>?_)
            generalize W9.alloc (.cells #[.string (dS ii)] 9)=W10 at *
            generalize W9.heap.size=g10 at *
            refine rl_all [4] (by kernel_rfl) (by simp) hC (rl_one _ ?_)
            refine rc_call 4 _ 22 _ _ _ _ #[(arrC va j vc).val,.slice (some ⟨g10,0,none⟩) 1 1] (some 45) rfl (by kernel_rfl) (by kernel_rfl) rfl (by kernel_rfl) Tryd.func22 (by kernel_rfl) (by kernel_rfl) (by kernel_rfl) (KG.out _ hB _ hsl) ?_
            rintro r' W11 ⟨rfl,hq11⟩
            replace hbox:=hbox.on (hq11.block _ hbox.lt)
            replace hsl:=hsl.on hq11
            replace hB:=hB.trans (hq11.mono hB.size)
            refine ⟨_,rfl,?_⟩
            refine rl_and hB (fun hS hC=>?_)
            refine rl_pure 5 _ (.tuple #[cx.val,.bool (decide (ii<j))]) (some 40) rfl (by kernel_rfl) (by kernel_rfl) (by kernel_rfl) (by kernel_rfl) (fun _ _ _ h=>h) (fun _ _=>Iff.rfl) (by kernel_rfl) (fun w=>by kernel_rfl) hC hS (fun hC hS=>?_)
            refine rl_pure 6 _ (cx.val) (some 46) rfl (by kernel_rfl) (by kernel_rfl) (by kernel_rfl) (by kernel_rfl) (fun _ _ _ h=>h) (fun _ _=>Iff.rfl) (by kernel_rfl) (fun w=>by kernel_rfl) hC hS (fun hC hS=>?_)
            refine rl_pure 7 _ (.bool (decide (ii<j))) (some 47) rfl (by kernel_rfl) (by kernel_rfl) (by kernel_rfl) (by kernel_rfl) (fun _ _ _ h=>h) (fun _ _=>Iff.rfl) (by kernel_rfl) (fun w=>by kernel_rfl) hC hS (fun hC hS=>?_)
            refine rl_all [9] (by kernel_rfl) (by simp) hC (rl_one _ ?_)
            refine rl_storeT 9 _ 28 (.tmp 11) (.tmp 46) bx cx (leafC 0 false ⟨#[]⟩) (TypeDesc.struct #[]) rfl (by kernel_rfl) (by kernel_rfl) rfl (by kernel_rfl) (by kernel_rfl) (by kernel_rfl) hbox ?_
            have hbx2:=put0_box hbox (c:=cx)
            replace hB:=hB.trans ((put0_but W11 bx cx).below hbs hB.size)
            refine rl_and hB (fun hS hC=>?_)
            refine rl_pure 10 _ (.bool (decide (ii<j))) (some 12) rfl (by kernel_rfl) (by kernel_rfl) (by kernel_rfl) (by kernel_rfl) (fun _ _ _ h=>h) (fun _ _=>Iff.rfl) (by kernel_rfl) (fun w=>by kernel_rfl) hC hS (fun hC hS=>?_)
            refine rl_done (by kernel_rfl) ?_ _
            refine HJ.out _ _ ?_
            clear HJ
            simp only [Act.put,List.setIfInBounds_toArray,List.set_cons_zero,List.set_cons_succ]
            (repeat apply Exists.intro)
            exact ⟨⟨bx,cx,rfl,rfl,hbx2,HCX.out,hbs,hB⟩,rfl⟩
        · skip
          have hq13:Below wr.drew.heap.size wr.drew (wr.drew.alloc (.cells #[.int .i64 0,.bool false,.bool false,.slice none 0 0,.int .i64 0,.string ⟨#[]⟩,.slice none 0 0,.slice none 0 0] 28)):=(Below.refl _ _).alloc (Nat.le_refl _) _
          have hbs:=hB.size
          replace hB:=hB.trans (hq13.mono hB.size)
          have hbox:BoxT (wr.drew.alloc (.cells #[.int .i64 0,.bool false,.bool false,.slice none 0 0,.int .i64 0,.string ⟨#[]⟩,.slice none 0 0,.slice none 0 0] 28)) wr.drew.heap.size (leafC 0 false ⟨#[]⟩):=heap_alloc_new wr.drew (.cells #[.int .i64 0,.bool false,.bool false,.slice none 0 0,.int .i64 0,.string ⟨#[]⟩,.slice none 0 0,.slice none 0 0] 28)
          refine rl_val 8 _ (.pointer (some ⟨wr.drew.heap.size,0,none⟩)) (wr.drew.alloc (.cells #[.int .i64 0,.bool false,.bool false,.slice none 0 0,.int .i64 0,.string ⟨#[]⟩,.slice none 0 0,.slice none 0 0] 28)) (some 11) rfl (by kernel_rfl) (by kernel_rfl) (by kernel_rfl) ?_
          refine rl_and hB (fun hS hC=>?_)
          generalize wr.drew.alloc (.cells #[.int .i64 0,.bool false,.bool false,.slice none 0 0,.int .i64 0,.string ⟨#[]⟩,.slice none 0 0,.slice none 0 0] 28)=W13 at *
          generalize wr.drew.heap.size=bx at *
          refine rl_all [2] (by kernel_rfl) (by simp) hC (rl_one _ ?_)
          refine rc_call 2 _ 32 _ _ _ _ #[.int .i64 (ii:Int)] (some 43) rfl (by kernel_rfl) (by kernel_rfl) rfl (by kernel_rfl) Tryd.func32 (by kernel_rfl) (by kernel_rfl) (by kernel_rfl) (KD.out ii hi150 _) ?_
          rintro r' w' ⟨rfl,hw'⟩
          replace hw':=hw'.symm
          subst hw'
          refine ⟨_,rfl,?_⟩
          refine rl_and hB (fun hS hC=>?_)
          refine rl_all [3] (by kernel_rfl) (by simp) hC (rl_one _ ?_)
          have hq15:Below W13.heap.size W13 (W13.alloc (.cells #[.string (dS ii)] 9)):=(Below.refl _ _).alloc (Nat.le_refl _) _
          have hsl:=rd_lit (W13.alloc (.cells #[.string (dS ii)] 9)) W13.heap.size [.string (dS ii)] 9 (heap_alloc_new W13 (.cells #[.string (dS ii)] 9))
          replace hbox:=hbox.on (hq15.block _ hbox.lt)
          replace hB:=hB.trans (hq15.mono hB.size)
          refine rl_val 3 _ (.slice (some ⟨W13.heap.size,0,none⟩) 1 1) (W13.alloc (.cells #[.string (dS ii)] 9)) (some 44) rfl (by kernel_rfl) (by kernel_rfl) (by kernel_rfl) ?_
          refine rl_and hB (fun hS hC=>?_)
          generalize W13.alloc (.cells #[.string (dS ii)] 9)=W15 at *
          generalize W13.heap.size=g15 at *
          refine rl_all [4] (by kernel_rfl) (by simp) hC (rl_one _ ?_)
          refine rc_call 4 _ 22 _ _ _ _ #[(arrC va j vc).val,.slice (some ⟨g15,0,none⟩) 1 1] (some 45) rfl (by kernel_rfl) (by kernel_rfl) rfl (by kernel_rfl) Tryd.func22 (by kernel_rfl) (by kernel_rfl) (by kernel_rfl) (KG.out _ hB _ hsl) ?_
          rintro r' W16 ⟨rfl,hq16⟩
          replace hbox:=hbox.on (hq16.block _ hbox.lt)
          replace hsl:=hsl.on hq16
          replace hB:=hB.trans (hq16.mono hB.size)
          refine ⟨_,rfl,?_⟩
          refine rl_and hB (fun hS hC=>?_)
          refine rl_pure 5 _ (.tuple #[cx.val,.bool (decide (ii<j))]) (some 40) rfl (by kernel_rfl) (by kernel_rfl) (by kernel_rfl) (by kernel_rfl) (fun _ _ _ h=>h) (fun _ _=>Iff.rfl) (by kernel_rfl) (fun w=>by kernel_rfl) hC hS (fun hC hS=>?_)
          refine rl_pure 6 _ (cx.val) (some 46) rfl (by kernel_rfl) (by kernel_rfl) (by kernel_rfl) (by kernel_rfl) (fun _ _ _ h=>h) (fun _ _=>Iff.rfl) (by kernel_rfl) (fun w=>by kernel_rfl) hC hS (fun hC hS=>?_)
          refine rl_pure 7 _ (.bool (decide (ii<j))) (some 47) rfl (by kernel_rfl) (by kernel_rfl) (by kernel_rfl) (by kernel_rfl) (fun _ _ _ h=>h) (fun _ _=>Iff.rfl) (by kernel_rfl) (fun w=>by kernel_rfl) hC hS (fun hC hS=>?_)
          refine rl_all [9] (by kernel_rfl) (by simp) hC (rl_one _ ?_)
          refine rl_storeT 9 _ 28 (.tmp 11) (.tmp 46) bx cx (leafC 0 false ⟨#[]⟩) (TypeDesc.struct #[]) rfl (by kernel_rfl) (by kernel_rfl) rfl (by kernel_rfl) (by kernel_rfl) (by kernel_rfl) hbox ?_
          have hbx2:=put0_box hbox (c:=cx)
          replace hB:=hB.trans ((put0_but W16 bx cx).below hbs hB.size)
          refine rl_and hB (fun hS hC=>?_)
          refine rl_pure 10 _ (.bool (decide (ii<j))) (some 12) rfl (by kernel_rfl) (by kernel_rfl) (by kernel_rfl) (by kernel_rfl) (fun _ _ _ h=>h) (fun _ _=>Iff.rfl) (by kernel_rfl) (fun w=>by kernel_rfl) hC hS (fun hC hS=>?_)
          refine rl_done (by kernel_rfl) ?_ _
          refine HJ.out _ _ ?_
          clear HJ
          simp only [Act.put,List.setIfInBounds_toArray,List.set_cons_zero,List.set_cons_succ]
          (repeat apply Exists.intro)
          exact ⟨⟨bx,cx,rfl,rfl,hbx2,HCX.out,hbs,hB⟩,rfl⟩
      case rest =>
        obtain ⟨b11,c11,rfl,rfl,hx11,hs11,hb11,hbV⟩:=hcut
        obtain ⟨okv,hok⟩:∃ b,decide (ii<j)=b:=⟨_,rfl⟩
        obtain ⟨jv,hjv⟩:∃ z,idxV (if ii<j then some ii else none)=z:=⟨_,rfl⟩
        have KIX:=Lib.hid (fun W=>(by
          have:=ptIndex_any (dS ii) ((j:Int) - 1) W (by omega) (by have:=dS_size hi150;omega)
          unfold IdxP at this
          rw [show (dS ii).data.toList=decP ii from mkB_list _,idxL_item hi150,hjv,show (if ii<j then some ii else none:Option Nat).isSome=okv by rw [← hok];by_cases h:ii<j <;> simp [h]] at this
          exact this:Calls Tryd.prog 13 #[.string (dS ii),.int .i64 ((j:Int) - 1)] W fun e W'=>e=.returned (.tuple #[.int .i64 jv,.bool okv])∧Below W.heap.size W W'))
        have HJV:=Lib.hid (show okv=true→jv=(ii:Int) by intro h;rw [h] at hok;rw [← hjv,if_pos (of_decide_eq_true hok)];rfl)
        have HSV:=Lib.hid (show okv=true→c11.s=dS ii by intro h;rw [h] at hok;exact hs11 (of_decide_eq_true hok))
        have HOK:=Lib.hid hok
        have KIB:=Lib.hid (fun (s:ByteArray) (hs:BadS s) W=>(by
          have:=ptIndex_any s 9999 W (by omega) (by have:=hs.2;omega)
          unfold IdxP at this
          rw [hs.1] at this
          exact this:Calls Tryd.prog 13 #[.string s,.int .i64 9999] W fun e W'=>e=.returned (.tuple #[.int .i64 0,.bool false])∧Below W.heap.size W W'))
        have hBI:=bad_item hi150
        have hds:=dS_size hi150
        rw [hok]
        have HX:=Lib.hid hx11
        have HV:=Lib.hid hbV
        have hj1:-9223372036854775808≤(j:Int) - 1∧(j:Int) - 1≤9223372036854775807:=by omega
        clear hok hjv hx11 hs11 hbV hb11
        have hj6:how % 6=0∨how % 6=1∨how % 6=2∨how % 6=3∨how % 6=4∨how % 6=5:=by omega
        generalize how % 6=hw at *
        go_wp2_with fail
        refine (KD.out ii hi150 _).mono ?_
        rintro r w2 ⟨rfl,hw2⟩
        replace hw2:=hw2.symm
        subst hw2
        go_wp2_with fail
        refine (KIX.out _).mono ?_
        rintro r w3 ⟨rfl,hb3⟩
        have HV3:=Lib.hid (HV.out.trans (hb3.mono HV.out.size))
        have HX3:=Lib.hid (HX.out.on (hb3.block _ HX.out.lt))
        clear hb3
        have hz1:¬ 9223372036854775807<1+(dS ii).size:=by omega
        have hz2:¬ 9223372036854775807<(dS ii).size+1:=by omega
        go_upto_region 10 with fail
        go_cut [15] from 56 to 71 (fun p W=>Cut10 w3 p W)
        case first =>
          go_wp2_with fail
          refine (KD.out ii hi150 _).mono ?_
          rintro r w4 ⟨rfl,hw4⟩
          replace hw4:=hw4.symm
          subst hw4
          go_wp2_with fail
          refine (KD.out ii hi150 _).mono ?_
          rintro r w4 ⟨rfl,hw4⟩
          replace hw4:=hw4.symm
          subst hw4
          go_wp2_with fail
          refine (KD.out ii hi150 _).mono ?_
          rintro r w4 ⟨rfl,hw4⟩
          replace hw4:=hw4.symm
          subst hw4
          go_wp2_with fail
          refine (KD.out ii hi150 _).mono ?_
          rintro r w4 ⟨rfl,hw4⟩
          replace hw4:=hw4.symm
          subst hw4
          go_wp2_with fail
          refine (KP3.out _).mono ?_
          rintro r w4 ⟨rfl,hw4⟩
          replace hw4:=hw4.symm
          subst hw4
          rcases hj6 with rfl | rfl | rfl | rfl | rfl | rfl
          · have hix:=idx6_0 (.string ((⟨#[48]⟩:ByteArray)++dS ii)) (.string ⟨#[45]⟩) (.string ⟨#[]⟩) (.string ((⟨#[43]⟩:ByteArray)++dS ii)) (.string (dS ii++(⟨#[46]⟩:ByteArray))) (.string ((⟨#[32]⟩:ByteArray)++dS ii)) w3
            go_wp2
            go_meet
            exact ⟨_,rfl,hBI.1,rfl⟩
          · have hix:=idx6_1 (.string ((⟨#[48]⟩:ByteArray)++dS ii)) (.string ⟨#[45]⟩) (.string ⟨#[]⟩) (.string ((⟨#[43]⟩:ByteArray)++dS ii)) (.string (dS ii++(⟨#[46]⟩:ByteArray))) (.string ((⟨#[32]⟩:ByteArray)++dS ii)) w3
            go_wp2
            go_meet
            exact ⟨_,rfl,⟨by decide,by decide⟩,rfl⟩
          · have hix:=idx6_2 (.string ((⟨#[48]⟩:ByteArray)++dS ii)) (.string ⟨#[45]⟩) (.string ⟨#[]⟩) (.string ((⟨#[43]⟩:ByteArray)++dS ii)) (.string (dS ii++(⟨#[46]⟩:ByteArray))) (.string ((⟨#[32]⟩:ByteArray)++dS ii)) w3
            go_wp2
            go_meet
            exact ⟨_,rfl,⟨by decide,by decide⟩,rfl⟩
          · have hix:=idx6_3 (.string ((⟨#[48]⟩:ByteArray)++dS ii)) (.string ⟨#[45]⟩) (.string ⟨#[]⟩) (.string ((⟨#[43]⟩:ByteArray)++dS ii)) (.string (dS ii++(⟨#[46]⟩:ByteArray))) (.string ((⟨#[32]⟩:ByteArray)++dS ii)) w3
            go_wp2
            go_meet
            exact ⟨_,rfl,hBI.2.1,rfl⟩
          · have hix:=idx6_4 (.string ((⟨#[48]⟩:ByteArray)++dS ii)) (.string ⟨#[45]⟩) (.string ⟨#[]⟩) (.string ((⟨#[43]⟩:ByteArray)++dS ii)) (.string (dS ii++(⟨#[46]⟩:ByteArray))) (.string ((⟨#[32]⟩:ByteArray)++dS ii)) w3
            go_wp2
            go_meet
            exact ⟨_,rfl,hBI.2.2.1,rfl⟩
          · have hix:=idx6_5 (.string ((⟨#[48]⟩:ByteArray)++dS ii)) (.string ⟨#[45]⟩) (.string ⟨#[]⟩) (.string ((⟨#[43]⟩:ByteArray)++dS ii)) (.string (dS ii++(⟨#[46]⟩:ByteArray))) (.string ((⟨#[32]⟩:ByteArray)++dS ii)) w3
            go_wp2
            go_meet
            exact ⟨_,rfl,hBI.2.2.2,rfl⟩
        case rest =>
          obtain ⟨bad,rfl,hbad,hwc⟩:=hcut
          replace hwc:=hwc.symm
          subst hwc
          have KGB:=Lib.hid (KG3.out bad hbad)
          have KIX2:=Lib.hid (KIB.out bad hbad)
          have hbs:=hbad.2
          have HBX3:=Lib.hid ((HBX.out _ HV3.out).cells)
          clear hbad hBI hj6 KIX KIB KG3 KG
          obtain ⟨w5,hw5⟩:∃ W,w3.alloc (.cells #[.string bad] 9)=W:=⟨_,rfl⟩
          have hb5:Below w3.heap.size w3 w5:=by rw [← hw5];exact (Below.refl _ _).alloc (Nat.le_refl _) _
          have hr5:RdV w5 (some ⟨w3.heap.size,0,none⟩) (sv [bad]):=by rw [← hw5];exact rd_lit _ _ _ _ (heap_alloc_new w3 _)
          have hv5:=HV3.out.trans (hb5.mono HV3.out.size)
          have KG4:=Lib.hid (KGB.out w5 hv5 _ hr5)
          have HV5:=Lib.hid hv5
          have HX5:=Lib.hid (HX3.out.on (hb5.block _ HX3.out.lt))
          have HW5:=Lib.hid hw5
          clear hb5 hr5 hv5 hw5 KGB HX HV
          obtain ⟨y0,y1,y2,y3,y4,y5,y6,y7⟩:=HBX3.out
          simp only [arrC] at y0 y1 y2 y3 y4 y5 y6 y7
          unfold arrC Cel.val leafC at KG4
          simp only at KG4
          go_wp2_with fail
          rw [HW5.out]
          refine KG4.out.mono ?_
          rintro r w6 ⟨rfl,hb6⟩
          have HX6:=Lib.hid (HX5.out.on (hb6.block _ HX5.out.lt))
          have HV6:=Lib.hid (HV5.out.trans (hb6.mono HV5.out.size))
          clear hb6 y0 y1 y2 y3 y4 y5 y6 y7 KG4
          obtain ⟨w7,hw7⟩:∃ W,w6.alloc (.cells #[.int .i64 0,.bool false,.bool false,.slice none 0 0,.int .i64 0,.string ⟨#[]⟩,.slice none 0 0,.slice none 0 0] 28)=W:=⟨_,rfl⟩
          have hb7:Below w6.heap.size w6 w7:=by rw [← hw7];exact (Below.refl _ _).alloc (Nat.le_refl _) _
          have HX7:=Lib.hid (HX6.out.on (hb7.block _ HX6.out.lt))
          have HV7:=Lib.hid (HV6.out.trans (hb7.mono HV6.out.size))
          have HW7:=Lib.hid hw7
          clear hb7 hw7
          go_wp2_with fail
          rw [HW7.out]
          refine (KIX2.out _).mono ?_
          rintro r w9 ⟨rfl,hb9⟩
          have HX9:=Lib.hid (HX7.out.on (hb9.block _ HX7.out.lt))
          have HV9:=Lib.hid (HV7.out.trans (hb9.mono HV7.out.size))
          have HBX9:=Lib.hid (fun W (h:Below w9.heap.size w9 W)=>HBX.out W (HV9.out.trans (h.mono HV9.out.size)))
          have KG5:=Lib.hid (fun W (h:Below w9.heap.size w9 W)=>KG2.out W (HV9.out.trans (h.mono HV9.out.size)))
          clear hb9 KIX2 KG2
          go_upto_region 13 with fail
          go_cut [20,21] from 84 to 91 (fun p q W=>Cut13 w9 q W)
          case first =>
            rename_i J K hJ hK
            have HJ:=Lib.hid hJ
            refine rc_first J hK ?_
            clear hJ hK
            refine rl_start (S:=fun _ W=>Below w9.heap.size w9 W) (by kernel_rfl) (below_drew (Below.refl _ _)) (fun hC hS=>?_)
            have hB:=hS
            refine rl_loadM 0 _ 28 (.tmp 8) b8 0 (arrC va j vc).cells _ (some 85) rfl (by kernel_rfl) (by kernel_rfl) (by kernel_rfl) (by kernel_rfl) (fun _ _ _ h=>h) (fun _ _=>Iff.rfl) (by kernel_rfl) rfl (by kernel_rfl) Tryd.underlying28 rfl (by kernel_rfl) (fun L W hC h1 hS=>box_range (HBX9.out W hS)) hC hS (fun hC hS=>?_)
            refine rl_pure 1 _ (.int .i64 (ii:Int)) (some 86) rfl (by kernel_rfl) (by kernel_rfl) (by kernel_rfl) (by kernel_rfl) (fun _ _ _ h=>h) (fun _ _=>Iff.rfl) (by kernel_rfl) (fun w=>by kernel_rfl) hC hS (fun hC hS=>?_)
            refine rl_all [2,8] (by kernel_rfl) (by simp) hC (rl_two _ _ ?_ ?_)
            · skip
              refine rc_call 2 _ 32 _ _ _ _ #[.int .i64 (ii:Int)] (some 87) rfl (by kernel_rfl) (by kernel_rfl) rfl (by kernel_rfl) Tryd.func32 (by kernel_rfl) (by kernel_rfl) (by kernel_rfl) (KD.out ii hi150 _) ?_
              rintro r' w' ⟨rfl,hw'⟩
              replace hw':=hw'.symm
              subst hw'
              refine ⟨_,rfl,?_⟩
              refine rl_and hB (fun hS hC=>?_)
              refine rl_all [3,8] (by kernel_rfl) (by simp) hC (rl_two _ _ ?_ ?_)
              · skip
                have hq2:Below w9.drew.heap.size w9.drew (w9.drew.alloc (.cells #[.string (dS ii),.string ⟨#[48]⟩] 9)):=(Below.refl _ _).alloc (Nat.le_refl _) _
                have hsl:=rd_lit (w9.drew.alloc (.cells #[.string (dS ii),.string ⟨#[48]⟩] 9)) w9.drew.heap.size [.string (dS ii),.string ⟨#[48]⟩] 9 (heap_alloc_new w9.drew (.cells #[.string (dS ii),.string ⟨#[48]⟩] 9))
                replace hB:=hB.trans (hq2.mono hB.size)
                refine rl_val 3 _ (.slice (some ⟨w9.drew.heap.size,0,none⟩) 2 2) (w9.drew.alloc (.cells #[.string (dS ii),.string ⟨#[48]⟩] 9)) (some 88) rfl (by kernel_rfl) (by kernel_rfl) (by kernel_rfl) ?_
                refine rl_and hB (fun hS hC=>?_)
                generalize w9.drew.alloc (.cells #[.string (dS ii),.string ⟨#[48]⟩] 9)=W2 at *
                generalize w9.drew.heap.size=g2 at *
                refine rl_all [4,8] (by kernel_rfl) (by simp) hC (rl_two _ _ ?_ ?_)
                · skip
                  refine rc_call 4 _ 22 _ _ _ _ #[(arrC va j vc).val,.slice (some ⟨g2,0,none⟩) 2 2] (some 89) rfl (by kernel_rfl) (by kernel_rfl) rfl (by kernel_rfl) Tryd.func22 (by kernel_rfl) (by kernel_rfl) (by kernel_rfl) (KG5.out _ hB _ hsl) ?_
                  rintro r' W3 ⟨rfl,hq3⟩
                  replace hsl:=hsl.on hq3
                  replace hB:=hB.trans (hq3.mono hB.size)
                  refine ⟨_,rfl,?_⟩
                  refine rl_and hB (fun hS hC=>?_)
                  refine rl_pure 5 _ (.tuple #[(leafC 0 false ⟨#[]⟩).val,.bool (false)]) (some 84) rfl (by kernel_rfl) (by kernel_rfl) (by kernel_rfl) (by kernel_rfl) (fun _ _ _ h=>h) (fun _ _=>Iff.rfl) (by kernel_rfl) (fun w=>by kernel_rfl) hC hS (fun hC hS=>?_)
                  refine rl_pure 6 _ ((leafC 0 false ⟨#[]⟩).val) (some 90) rfl (by kernel_rfl) (by kernel_rfl) (by kernel_rfl) (by kernel_rfl) (fun _ _ _ h=>h) (fun _ _=>Iff.rfl) (by kernel_rfl) (fun w=>by kernel_rfl) hC hS (fun hC hS=>?_)
                  refine rl_pure 7 _ (.bool (false)) (some 91) rfl (by kernel_rfl) (by kernel_rfl) (by kernel_rfl) (by kernel_rfl) (fun _ _ _ h=>h) (fun _ _=>Iff.rfl) (by kernel_rfl) (fun w=>by kernel_rfl) hC hS (fun hC hS=>?_)
                  refine rl_all [8] (by kernel_rfl) (by simp) hC (rl_one _ ?_)
                  have hq4:Below W3.heap.size W3 (W3.alloc (.cells #[.int .i64 0,.bool false,.bool false,.slice none 0 0,.int .i64 0,.string ⟨#[]⟩,.slice none 0 0,.slice none 0 0] 28)):=(Below.refl _ _).alloc (Nat.le_refl _) _
                  have hbs:=hB.size
                  replace hsl:=hsl.on hq4
                  replace hB:=hB.trans (hq4.mono hB.size)
                  have hbox:BoxT (W3.alloc (.cells #[.int .i64 0,.bool false,.bool false,.slice none 0 0,.int .i64 0,.string ⟨#[]⟩,.slice none 0 0,.slice none 0 0] 28)) W3.heap.size (leafC 0 false ⟨#[]⟩):=heap_alloc_new W3 (.cells #[.int .i64 0,.bool false,.bool false,.slice none 0 0,.int .i64 0,.string ⟨#[]⟩,.slice none 0 0,.slice none 0 0] 28)
                  refine rl_val 8 _ (.pointer (some ⟨W3.heap.size,0,none⟩)) (W3.alloc (.cells #[.int .i64 0,.bool false,.bool false,.slice none 0 0,.int .i64 0,.string ⟨#[]⟩,.slice none 0 0,.slice none 0 0] 28)) (some 20) rfl (by kernel_rfl) (by kernel_rfl) (by kernel_rfl) ?_
                  refine rl_and hB (fun hS hC=>?_)
                  generalize W3.alloc (.cells #[.int .i64 0,.bool false,.bool false,.slice none 0 0,.int .i64 0,.string ⟨#[]⟩,.slice none 0 0,.slice none 0 0] 28)=W4 at *
                  generalize W3.heap.size=bx at *
                  refine rl_all [9] (by kernel_rfl) (by simp) hC (rl_one _ ?_)
                  refine rl_storeT 9 _ 28 (.tmp 20) (.tmp 90) bx (leafC 0 false ⟨#[]⟩) (leafC 0 false ⟨#[]⟩) (TypeDesc.struct #[]) rfl (by kernel_rfl) (by kernel_rfl) rfl (by kernel_rfl) (by kernel_rfl) (by kernel_rfl) hbox ?_
                  have hbx2:=put0_box hbox (c:=(leafC 0 false ⟨#[]⟩))
                  replace hB:=hB.trans ((put0_but W4 bx (leafC 0 false ⟨#[]⟩)).below hbs hB.size)
                  refine rl_and hB (fun hS hC=>?_)
                  refine rl_pure 10 _ (.bool (false)) (some 21) rfl (by kernel_rfl) (by kernel_rfl) (by kernel_rfl) (by kernel_rfl) (fun _ _ _ h=>h) (fun _ _=>Iff.rfl) (by kernel_rfl) (fun w=>by kernel_rfl) hC hS (fun hC hS=>?_)
                  refine rl_done (by kernel_rfl) ?_ _
                  refine HJ.out _ _ ?_
                  clear HJ
                  simp only [Act.put,List.setIfInBounds_toArray,List.set_cons_zero,List.set_cons_succ]
                  (repeat apply Exists.intro)
                  exact ⟨⟨rfl,hB⟩,rfl⟩
                · skip
                  have hq6:Below W2.heap.size W2 (W2.alloc (.cells #[.int .i64 0,.bool false,.bool false,.slice none 0 0,.int .i64 0,.string ⟨#[]⟩,.slice none 0 0,.slice none 0 0] 28)):=(Below.refl _ _).alloc (Nat.le_refl _) _
                  have hbs:=hB.size
                  replace hsl:=hsl.on hq6
                  replace hB:=hB.trans (hq6.mono hB.size)
                  have hbox:BoxT (W2.alloc (.cells #[.int .i64 0,.bool false,.bool false,.slice none 0 0,.int .i64 0,.string ⟨#[]⟩,.slice none 0 0,.slice none 0 0] 28)) W2.heap.size (leafC 0 false ⟨#[]⟩):=heap_alloc_new W2 (.cells #[.int .i64 0,.bool false,.bool false,.slice none 0 0,.int .i64 0,.string ⟨#[]⟩,.slice none 0 0,.slice none 0 0] 28)
                  refine rl_val 8 _ (.pointer (some ⟨W2.heap.size,0,none⟩)) (W2.alloc (.cells #[.int .i64 0,.bool false,.bool false,.slice none 0 0,.int .i64 0,.string ⟨#[]⟩,.slice none 0 0,.slice none 0 0] 28)) (some 20) rfl (by kernel_rfl) (by kernel_rfl) (by kernel_rfl) ?_
                  refine rl_and hB (fun hS hC=>?_)
                  generalize W2.alloc (.cells #[.int .i64 0,.bool false,.bool false,.slice none 0 0,.int .i64 0,.string ⟨#[]⟩,.slice none 0 0,.slice none 0 0] 28)=W6 at *
                  generalize W2.heap.size=bx at *
                  refine rl_all [4] (by kernel_rfl) (by simp) hC (rl_one _ ?_)
                  refine rc_call 4 _ 22 _ _ _ _ #[(arrC va j vc).val,.slice (some ⟨g2,0,none⟩) 2 2] (some 89) rfl (by kernel_rfl) (by kernel_rfl) rfl (by kernel_rfl) Tryd.func22 (by kernel_rfl) (by kernel_rfl) (by kernel_rfl) (KG5.out _ hB _ hsl) ?_
                  rintro r' W7 ⟨rfl,hq7⟩
                  replace hbox:=hbox.on (hq7.block _ hbox.lt)
                  replace hsl:=hsl.on hq7
                  replace hB:=hB.trans (hq7.mono hB.size)
                  refine ⟨_,rfl,?_⟩
                  refine rl_and hB (fun hS hC=>?_)
                  refine rl_pure 5 _ (.tuple #[(leafC 0 false ⟨#[]⟩).val,.bool (false)]) (some 84) rfl (by kernel_rfl) (by kernel_rfl) (by kernel_rfl) (by kernel_rfl) (fun _ _ _ h=>h) (fun _ _=>Iff.rfl) (by kernel_rfl) (fun w=>by kernel_rfl) hC hS (fun hC hS=>?_)
                  refine rl_pure 6 _ ((leafC 0 false ⟨#[]⟩).val) (some 90) rfl (by kernel_rfl) (by kernel_rfl) (by kernel_rfl) (by kernel_rfl) (fun _ _ _ h=>h) (fun _ _=>Iff.rfl) (by kernel_rfl) (fun w=>by kernel_rfl) hC hS (fun hC hS=>?_)
                  refine rl_pure 7 _ (.bool (false)) (some 91) rfl (by kernel_rfl) (by kernel_rfl) (by kernel_rfl) (by kernel_rfl) (fun _ _ _ h=>h) (fun _ _=>Iff.rfl) (by kernel_rfl) (fun w=>by kernel_rfl) hC hS (fun hC hS=>?_)
                  refine rl_all [9] (by kernel_rfl) (by simp) hC (rl_one _ ?_)
                  refine rl_storeT 9 _ 28 (.tmp 20) (.tmp 90) bx (leafC 0 false ⟨#[]⟩) (leafC 0 false ⟨#[]⟩) (TypeDesc.struct #[]) rfl (by kernel_rfl) (by kernel_rfl) rfl (by kernel_rfl) (by kernel_rfl) (by kernel_rfl) hbox ?_
                  have hbx2:=put0_box hbox (c:=(leafC 0 false ⟨#[]⟩))
                  replace hB:=hB.trans ((put0_but W7 bx (leafC 0 false ⟨#[]⟩)).below hbs hB.size)
                  refine rl_and hB (fun hS hC=>?_)
                  refine rl_pure 10 _ (.bool (false)) (some 21) rfl (by kernel_rfl) (by kernel_rfl) (by kernel_rfl) (by kernel_rfl) (fun _ _ _ h=>h) (fun _ _=>Iff.rfl) (by kernel_rfl) (fun w=>by kernel_rfl) hC hS (fun hC hS=>?_)
                  refine rl_done (by kernel_rfl) ?_ _
                  refine HJ.out _ _ ?_
                  clear HJ
                  simp only [Act.put,List.setIfInBounds_toArray,List.set_cons_zero,List.set_cons_succ]
                  (repeat apply Exists.intro)
                  exact ⟨⟨rfl,hB⟩,rfl⟩
              · skip
                have hq9:Below w9.drew.heap.size w9.drew (w9.drew.alloc (.cells #[.int .i64 0,.bool false,.bool false,.slice none 0 0,.int .i64 0,.string ⟨#[]⟩,.slice none 0 0,.slice none 0 0] 28)):=(Below.refl _ _).alloc (Nat.le_refl _) _
                have hbs:=hB.size
                replace hB:=hB.trans (hq9.mono hB.size)
                have hbox:BoxT (w9.drew.alloc (.cells #[.int .i64 0,.bool false,.bool false,.slice none 0 0,.int .i64 0,.string ⟨#[]⟩,.slice none 0 0,.slice none 0 0] 28)) w9.drew.heap.size (leafC 0 false ⟨#[]⟩):=heap_alloc_new w9.drew (.cells #[.int .i64 0,.bool false,.bool false,.slice none 0 0,.int .i64 0,.string ⟨#[]⟩,.slice none 0 0,.slice none 0 0] 28)
                refine rl_val 8 _ (.pointer (some ⟨w9.drew.heap.size,0,none⟩)) (w9.drew.alloc (.cells #[.int .i64 0,.bool false,.bool false,.slice none 0 0,.int .i64 0,.string ⟨#[]⟩,.slice none 0 0,.slice none 0 0] 28)) (some 20) rfl (by kernel_rfl) (by kernel_rfl) (by kernel_rfl) ?_
                refine rl_and hB (fun hS hC=>?_)
                generalize w9.drew.alloc (.cells #[.int .i64 0,.bool false,.bool false,.slice none 0 0,.int .i64 0,.string ⟨#[]⟩,.slice none 0 0,.slice none 0 0] 28)=W9 at *
                generalize w9.drew.heap.size=bx at *
                refine rl_all [3] (by kernel_rfl) (by simp) hC (rl_one _ ?_)
                have hq10:Below W9.heap.size W9 (W9.alloc (.cells #[.string (dS ii),.string ⟨#[48]⟩] 9)):=(Below.refl _ _).alloc (Nat.le_refl _) _
                have hsl:=rd_lit (W9.alloc (.cells #[.string (dS ii),.string ⟨#[48]⟩] 9)) W9.heap.size [.string (dS ii),.string ⟨#[48]⟩] 9 (heap_alloc_new W9 (.cells #[.string (dS ii),.string ⟨#[48]⟩] 9))
                replace hbox:=hbox.on (hq10.block _ hbox.lt)
                replace hB:=hB.trans (hq10.mono hB.size)
                refine rl_val 3 _ (.slice (some ⟨W9.heap.size,0,none⟩) 2 2) (W9.alloc (.cells #[.string (dS ii),.string ⟨#[48]⟩] 9)) (some 88) rfl (by kernel_rfl) (by kernel_rfl) (by kernel_rfl) ?_
                refine rl_and hB (fun hS hC=>?_)
                generalize W9.alloc (.cells #[.string (dS ii),.string ⟨#[48]⟩] 9)=W10 at *
                generalize W9.heap.size=g10 at *
                refine rl_all [4] (by kernel_rfl) (by simp) hC (rl_one _ ?_)
                refine rc_call 4 _ 22 _ _ _ _ #[(arrC va j vc).val,.slice (some ⟨g10,0,none⟩) 2 2] (some 89) rfl (by kernel_rfl) (by kernel_rfl) rfl (by kernel_rfl) Tryd.func22 (by kernel_rfl) (by kernel_rfl) (by kernel_rfl) (KG5.out _ hB _ hsl) ?_
                rintro r' W11 ⟨rfl,hq11⟩
                replace hbox:=hbox.on (hq11.block _ hbox.lt)
                replace hsl:=hsl.on hq11
                replace hB:=hB.trans (hq11.mono hB.size)
                refine ⟨_,rfl,?_⟩
                refine rl_and hB (fun hS hC=>?_)
                refine rl_pure 5 _ (.tuple #[(leafC 0 false ⟨#[]⟩).val,.bool (false)]) (some 84) rfl (by kernel_rfl) (by kernel_rfl) (by kernel_rfl) (by kernel_rfl) (fun _ _ _ h=>h) (fun _ _=>Iff.rfl) (by kernel_rfl) (fun w=>by kernel_rfl) hC hS (fun hC hS=>?_)
                refine rl_pure 6 _ ((leafC 0 false ⟨#[]⟩).val) (some 90) rfl (by kernel_rfl) (by kernel_rfl) (by kernel_rfl) (by kernel_rfl) (fun _ _ _ h=>h) (fun _ _=>Iff.rfl) (by kernel_rfl) (fun w=>by kernel_rfl) hC hS (fun hC hS=>?_)
                refine rl_pure 7 _ (.bool (false)) (some 91) rfl (by kernel_rfl) (by kernel_rfl) (by kernel_rfl) (by kernel_rfl) (fun _ _ _ h=>h) (fun _ _=>Iff.rfl) (by kernel_rfl) (fun w=>by kernel_rfl) hC hS (fun hC hS=>?_)
                refine rl_all [9] (by kernel_rfl) (by simp) hC (rl_one _ ?_)
                refine rl_storeT 9 _ 28 (.tmp 20) (.tmp 90) bx (leafC 0 false ⟨#[]⟩) (leafC 0 false ⟨#[]⟩) (TypeDesc.struct #[]) rfl (by kernel_rfl) (by kernel_rfl) rfl (by kernel_rfl) (by kernel_rfl) (by kernel_rfl) hbox ?_
                have hbx2:=put0_box hbox (c:=(leafC 0 false ⟨#[]⟩))
                replace hB:=hB.trans ((put0_but W11 bx (leafC 0 false ⟨#[]⟩)).below hbs hB.size)
                refine rl_and hB (fun hS hC=>?_)
                refine rl_pure 10 _ (.bool (false)) (some 21) rfl (by kernel_rfl) (by kernel_rfl) (by kernel_rfl) (by kernel_rfl) (fun _ _ _ h=>h) (fun _ _=>Iff.rfl) (by kernel_rfl) (fun w=>by kernel_rfl) hC hS (fun hC hS=>?_)
                refine rl_done (by kernel_rfl) ?_ _
                refine HJ.out _ _ ?_
                clear HJ
                simp only [Act.put,List.setIfInBounds_toArray,List.set_cons_zero,List.set_cons_succ]
                (repeat apply Exists.intro)
                exact ⟨⟨rfl,hB⟩,rfl⟩
            · skip
              have hq13:Below w9.drew.heap.size w9.drew (w9.drew.alloc (.cells #[.int .i64 0,.bool false,.bool false,.slice none 0 0,.int .i64 0,.string ⟨#[]⟩,.slice none 0 0,.slice none 0 0] 28)):=(Below.refl _ _).alloc (Nat.le_refl _) _
              have hbs:=hB.size
              replace hB:=hB.trans (hq13.mono hB.size)
              have hbox:BoxT (w9.drew.alloc (.cells #[.int .i64 0,.bool false,.bool false,.slice none 0 0,.int .i64 0,.string ⟨#[]⟩,.slice none 0 0,.slice none 0 0] 28)) w9.drew.heap.size (leafC 0 false ⟨#[]⟩):=heap_alloc_new w9.drew (.cells #[.int .i64 0,.bool false,.bool false,.slice none 0 0,.int .i64 0,.string ⟨#[]⟩,.slice none 0 0,.slice none 0 0] 28)
              refine rl_val 8 _ (.pointer (some ⟨w9.drew.heap.size,0,none⟩)) (w9.drew.alloc (.cells #[.int .i64 0,.bool false,.bool false,.slice none 0 0,.int .i64 0,.string ⟨#[]⟩,.slice none 0 0,.slice none 0 0] 28)) (some 20) rfl (by kernel_rfl) (by kernel_rfl) (by kernel_rfl) ?_
              refine rl_and hB (fun hS hC=>?_)
              generalize w9.drew.alloc (.cells #[.int .i64 0,.bool false,.bool false,.slice none 0 0,.int .i64 0,.string ⟨#[]⟩,.slice none 0 0,.slice none 0 0] 28)=W13 at *
              generalize w9.drew.heap.size=bx at *
              refine rl_all [2] (by kernel_rfl) (by simp) hC (rl_one _ ?_)
              refine rc_call 2 _ 32 _ _ _ _ #[.int .i64 (ii:Int)] (some 87) rfl (by kernel_rfl) (by kernel_rfl) rfl (by kernel_rfl) Tryd.func32 (by kernel_rfl) (by kernel_rfl) (by kernel_rfl) (KD.out ii hi150 _) ?_
              rintro r' w' ⟨rfl,hw'⟩
              replace hw':=hw'.symm
              subst hw'
              refine ⟨_,rfl,?_⟩
              refine rl_and hB (fun hS hC=>?_)
              refine rl_all [3] (by kernel_rfl) (by simp) hC (rl_one _ ?_)
              have hq15:Below W13.heap.size W13 (W13.alloc (.cells #[.string (dS ii),.string ⟨#[48]⟩] 9)):=(Below.refl _ _).alloc (Nat.le_refl _) _
              have hsl:=rd_lit (W13.alloc (.cells #[.string (dS ii),.string ⟨#[48]⟩] 9)) W13.heap.size [.string (dS ii),.string ⟨#[48]⟩] 9 (heap_alloc_new W13 (.cells #[.string (dS ii),.string ⟨#[48]⟩] 9))
              replace hbox:=hbox.on (hq15.block _ hbox.lt)
              replace hB:=hB.trans (hq15.mono hB.size)
              refine rl_val 3 _ (.slice (some ⟨W13.heap.size,0,none⟩) 2 2) (W13.alloc (.cells #[.string (dS ii),.string ⟨#[48]⟩] 9)) (some 88) rfl (by kernel_rfl) (by kernel_rfl) (by kernel_rfl) ?_
              refine rl_and hB (fun hS hC=>?_)
              generalize W13.alloc (.cells #[.string (dS ii),.string ⟨#[48]⟩] 9)=W15 at *
              generalize W13.heap.size=g15 at *
              refine rl_all [4] (by kernel_rfl) (by simp) hC (rl_one _ ?_)
              refine rc_call 4 _ 22 _ _ _ _ #[(arrC va j vc).val,.slice (some ⟨g15,0,none⟩) 2 2] (some 89) rfl (by kernel_rfl) (by kernel_rfl) rfl (by kernel_rfl) Tryd.func22 (by kernel_rfl) (by kernel_rfl) (by kernel_rfl) (KG5.out _ hB _ hsl) ?_
              rintro r' W16 ⟨rfl,hq16⟩
              replace hbox:=hbox.on (hq16.block _ hbox.lt)
              replace hsl:=hsl.on hq16
              replace hB:=hB.trans (hq16.mono hB.size)
              refine ⟨_,rfl,?_⟩
              refine rl_and hB (fun hS hC=>?_)
              refine rl_pure 5 _ (.tuple #[(leafC 0 false ⟨#[]⟩).val,.bool (false)]) (some 84) rfl (by kernel_rfl) (by kernel_rfl) (by kernel_rfl) (by kernel_rfl) (fun _ _ _ h=>h) (fun _ _=>Iff.rfl) (by kernel_rfl) (fun w=>by kernel_rfl) hC hS (fun hC hS=>?_)
              refine rl_pure 6 _ ((leafC 0 false ⟨#[]⟩).val) (some 90) rfl (by kernel_rfl) (by kernel_rfl) (by kernel_rfl) (by kernel_rfl) (fun _ _ _ h=>h) (fun _ _=>Iff.rfl) (by kernel_rfl) (fun w=>by kernel_rfl) hC hS (fun hC hS=>?_)
              refine rl_pure 7 _ (.bool (false)) (some 91) rfl (by kernel_rfl) (by kernel_rfl) (by kernel_rfl) (by kernel_rfl) (fun _ _ _ h=>h) (fun _ _=>Iff.rfl) (by kernel_rfl) (fun w=>by kernel_rfl) hC hS (fun hC hS=>?_)
              refine rl_all [9] (by kernel_rfl) (by simp) hC (rl_one _ ?_)
              refine rl_storeT 9 _ 28 (.tmp 20) (.tmp 90) bx (leafC 0 false ⟨#[]⟩) (leafC 0 false ⟨#[]⟩) (TypeDesc.struct #[]) rfl (by kernel_rfl) (by kernel_rfl) rfl (by kernel_rfl) (by kernel_rfl) (by kernel_rfl) hbox ?_
              have hbx2:=put0_box hbox (c:=(leafC 0 false ⟨#[]⟩))
              replace hB:=hB.trans ((put0_but W16 bx (leafC 0 false ⟨#[]⟩)).below hbs hB.size)
              refine rl_and hB (fun hS hC=>?_)
              refine rl_pure 10 _ (.bool (false)) (some 21) rfl (by kernel_rfl) (by kernel_rfl) (by kernel_rfl) (by kernel_rfl) (fun _ _ _ h=>h) (fun _ _=>Iff.rfl) (by kernel_rfl) (fun w=>by kernel_rfl) hC hS (fun hC hS=>?_)
              refine rl_done (by kernel_rfl) ?_ _
              refine HJ.out _ _ ?_
              clear HJ
              simp only [Act.put,List.setIfInBounds_toArray,List.set_cons_zero,List.set_cons_succ]
              (repeat apply Exists.intro)
              exact ⟨⟨rfl,hB⟩,rfl⟩
          case rest =>
            obtain ⟨rfl,hb13⟩:=hcut
            have HXA:=Lib.hid (HX9.out.on (hb13.block _ HX9.out.lt))
            have hva:=HV9.out.trans (hb13.mono HV9.out.size)
            have HVA:=Lib.hid (HBW.out.trans (hva.mono HBW.out.size))
            have hsz:=HVA.out.size
            clear hb13 hva KG5 HBX9
            cases okv with
            | true =>
              have KAW2:=Lib.hid (fun W (h:Below wc.heap.size wc W)=>KAW.out W (HVA.out.trans (h.mono hsz)))
              have hjv:=HJV.out rfl
              subst hjv
              have HLD:=Lib.hid (fun W (h:Below wc.heap.size wc W)=>((by have:=(HXA.out.on (h.block _ HXA.out.lt)).cells.2.2.2.2.2.1;rw [HSV.out rfl] at this;exact this):W.cell? ⟨b11,5,none⟩=some (.string (dS ii))))
              go_upto_region 14 with fail
              refine rg_norm (fun J hJ=>?_)
              have HJ:=Lib.hid hJ
              clear hJ
              refine wp_region_held_drew (S:=fun W=>Below wc.heap.size wc W) (by kernel_rfl) (below_drew (Below.refl _ _)) (fun hH=>?_)
              refine rg_pure 0 _ (.bool true) (some 92) rfl (by kernel_rfl) (by kernel_rfl) (by kernel_rfl) (by kernel_rfl) (fun _ _ _ h=>h) (by kernel_rfl) (fun w=>by kernel_rfl) hH ?_
              refine rg_pure 1 _ (.int .i64 (ii:Int)) (some 93) rfl (by kernel_rfl) (by kernel_rfl) (by kernel_rfl) (by kernel_rfl) (fun _ _ _ h=>h) (by kernel_rfl) (fun w=>by kernel_rfl) hH ?_
              refine rg_pure 2 _ (.int .i64 (j:Int)) (some 94) rfl (by kernel_rfl) (by kernel_rfl) (by kernel_rfl) (by kernel_rfl) (fun _ _ _ h=>h) (by kernel_rfl) (fun w=>by kernel_rfl) hH ?_
              refine rg_pure 3 _ (.bool true) (some 95) rfl (by kernel_rfl) (by kernel_rfl) (by kernel_rfl) (by kernel_rfl) (fun _ _ _ h=>h) (by kernel_rfl) (fun w=>pi_lss w _ _ _ _ _ _ _ _ true rfl (by kernel_rfl) (by kernel_rfl) HOK.out) hH ?_
              refine rg_pure 4 _ (.bool true) (some 96) rfl (by kernel_rfl) (by kernel_rfl) (by kernel_rfl) (by kernel_rfl) (fun _ _ _ h=>h) (by kernel_rfl) (fun w=>rg_eqB w _ _ 4 _ _ _ true Tryd.underlying4 rfl (by kernel_rfl) (by kernel_rfl)) hH ?_
              refine rg_pure 5 _ (.bool true) (some 97) rfl (by kernel_rfl) (by kernel_rfl) (by kernel_rfl) (by kernel_rfl) (fun _ _ _ h=>h) (by kernel_rfl) (fun w=>by kernel_rfl) hH ?_
              refine rg_pure 6 _ (.bool true) (some 98) rfl (by kernel_rfl) (by kernel_rfl) (by kernel_rfl) (by kernel_rfl) (fun _ _ _ h=>h) (by kernel_rfl) (fun w=>by kernel_rfl) hH ?_
              refine rg_pure 7 _ (.bool true) (some 99) rfl (by kernel_rfl) (by kernel_rfl) (by kernel_rfl) (by kernel_rfl) (fun _ _ _ h=>h) (by kernel_rfl) (fun w=>by kernel_rfl) hH ?_
              refine rg_pure 8 _ (.bool true) (some 100) rfl (by kernel_rfl) (by kernel_rfl) (by kernel_rfl) (by kernel_rfl) (fun _ _ _ h=>h) (by kernel_rfl) (fun w=>rg_eqB w _ _ 4 _ _ _ true Tryd.underlying4 rfl (by kernel_rfl) (by kernel_rfl)) hH ?_
              refine rg_pure 9 _ (.bool true) (some 101) rfl (by kernel_rfl) (by kernel_rfl) (by kernel_rfl) (by kernel_rfl) (fun _ _ _ h=>h) (by kernel_rfl) (fun w=>by kernel_rfl) hH ?_
              refine rg_pure 10 _ (.bool true) (some 102) rfl (by kernel_rfl) (by kernel_rfl) (by kernel_rfl) (by kernel_rfl) (fun _ _ _ h=>h) (by kernel_rfl) (fun w=>by kernel_rfl) hH ?_
              refine rg_pure 11 _ (.bool true) (some 103) rfl (by kernel_rfl) (by kernel_rfl) (by kernel_rfl) (by kernel_rfl) (fun _ _ _ h=>h) (by kernel_rfl) (fun w=>by kernel_rfl) hH ?_
              refine rg_pure 12 _ (.bool false) (some 104) rfl (by kernel_rfl) (by kernel_rfl) (by kernel_rfl) (by kernel_rfl) (fun _ _ _ h=>h) (by kernel_rfl) (fun w=>by kernel_rfl) hH ?_
              refine rg_pure 13 _ (.bool false) (some 105) rfl (by kernel_rfl) (by kernel_rfl) (by kernel_rfl) (by kernel_rfl) (fun _ _ _ h=>h) (by kernel_rfl) (fun w=>by kernel_rfl) hH ?_
              refine rg_pure 14 _ (.pointer (some ⟨b11,5,none⟩)) (some 106) rfl (by kernel_rfl) (by kernel_rfl) (by kernel_rfl) (by kernel_rfl) (fun _ _ _ h=>h) (by kernel_rfl) (fun w=>by kernel_rfl) hH ?_
              refine rg_load1 15 _ 9 (.tmp 106) ⟨b11,5,none⟩ (.string (dS ii)) _ (some 107) rfl (by kernel_rfl) (by kernel_rfl) (by kernel_rfl) (by kernel_rfl) (fun _ _ _ h=>h) (by kernel_rfl) rfl (by kernel_rfl) Tryd.underlying9 rfl (fun W hW=>HLD.out W hW) hH ?_
              refine rg_pure 16 _ (.int .i64 (ii:Int)) (some 108) rfl (by kernel_rfl) (by kernel_rfl) (by kernel_rfl) (by kernel_rfl) (fun _ _ _ h=>h) (by kernel_rfl) (fun w=>by kernel_rfl) hH ?_
              refine rg_call 17 _ 32 _ _ _ _ #[.int .i64 (ii:Int)] (some 109) rfl (by kernel_rfl) (by kernel_rfl) (by kernel_rfl) rfl (by kernel_rfl) Tryd.func32 (by kernel_rfl) (by kernel_rfl) (by kernel_rfl) (KD.out ii hi150 _) ?_
              rintro r' w' ⟨rfl,hw'⟩
              replace hw':=hw'.symm
              subst hw'
              replace hH:=hH
              refine ⟨_,rfl,hH,?_⟩
              refine rg_pure 18 _ (.bool true) (some 110) rfl (by kernel_rfl) (by kernel_rfl) (by kernel_rfl) (by kernel_rfl) (fun _ _ _ h=>h) (by kernel_rfl) (fun w=>rg_eqS w _ _ _ _ _ _ (dS ii) rfl (by kernel_rfl) (by kernel_rfl)) hH ?_
              refine rg_pure 19 _ (.bool true) (some 111) rfl (by kernel_rfl) (by kernel_rfl) (by kernel_rfl) (by kernel_rfl) (fun _ _ _ h=>h) (by kernel_rfl) (fun w=>by kernel_rfl) hH ?_
              refine rg_pure 20 _ (.int .i64 (ii:Int)) (some 112) rfl (by kernel_rfl) (by kernel_rfl) (by kernel_rfl) (by kernel_rfl) (fun _ _ _ h=>h) (by kernel_rfl) (fun w=>by kernel_rfl) hH ?_
              refine rg_pure 21 _ (.int .i64 (ii:Int)) (some 113) rfl (by kernel_rfl) (by kernel_rfl) (by kernel_rfl) (by kernel_rfl) (fun _ _ _ h=>h) (by kernel_rfl) (fun w=>by kernel_rfl) hH ?_
              refine rg_pure 22 _ (.bool true) (some 114) rfl (by kernel_rfl) (by kernel_rfl) (by kernel_rfl) (by kernel_rfl) (fun _ _ _ h=>h) (by kernel_rfl) (fun w=>rg_eqI w _ _ _ _ _ _ .i64 (ii:Int) rfl (by kernel_rfl) (by kernel_rfl)) hH ?_
              refine rg_pure 23 _ (.bool true) (some 115) rfl (by kernel_rfl) (by kernel_rfl) (by kernel_rfl) (by kernel_rfl) (fun _ _ _ h=>h) (by kernel_rfl) (fun w=>by kernel_rfl) hH ?_
              refine rg_pure 24 _ (.bool true) (some 116) rfl (by kernel_rfl) (by kernel_rfl) (by kernel_rfl) (by kernel_rfl) (fun _ _ _ h=>h) (by kernel_rfl) (fun w=>by kernel_rfl) hH ?_
              refine rg_pure 25 _ (.bool true) (some 117) rfl (by kernel_rfl) (by kernel_rfl) (by kernel_rfl) (by kernel_rfl) (fun _ _ _ h=>h) (by kernel_rfl) (fun w=>by kernel_rfl) hH ?_
              refine rg_pure 26 _ (.bool true) (some 118) rfl (by kernel_rfl) (by kernel_rfl) (by kernel_rfl) (by kernel_rfl) (fun _ _ _ h=>h) (by kernel_rfl) (fun w=>by kernel_rfl) hH ?_
              refine rg_pure 27 _ (.bool false) (some 119) rfl (by kernel_rfl) (by kernel_rfl) (by kernel_rfl) (by kernel_rfl) (fun _ _ _ h=>h) (by kernel_rfl) (fun w=>by kernel_rfl) hH ?_
              refine rg_pure 28 _ (.bool true) (some 120) rfl (by kernel_rfl) (by kernel_rfl) (by kernel_rfl) (by kernel_rfl) (fun _ _ _ h=>h) (by kernel_rfl) (fun w=>by kernel_rfl) hH ?_
              refine rg_pure 29 _ (.bool true) (some 121) rfl (by kernel_rfl) (by kernel_rfl) (by kernel_rfl) (by kernel_rfl) (fun _ _ _ h=>h) (by kernel_rfl) (fun w=>by kernel_rfl) hH ?_
              refine rg_pure 30 _ (.bool true) (some 122) rfl (by kernel_rfl) (by kernel_rfl) (by kernel_rfl) (by kernel_rfl) (fun _ _ _ h=>h) (by kernel_rfl) (fun w=>by kernel_rfl) hH ?_
              refine rg_pure 31 _ (.bool false) (some 123) rfl (by kernel_rfl) (by kernel_rfl) (by kernel_rfl) (by kernel_rfl) (fun _ _ _ h=>h) (by kernel_rfl) (fun w=>by kernel_rfl) hH ?_
              refine rg_pure 32 _ (.bool true) (some 124) rfl (by kernel_rfl) (by kernel_rfl) (by kernel_rfl) (by kernel_rfl) (fun _ _ _ h=>h) (by kernel_rfl) (fun w=>by kernel_rfl) hH ?_
              refine rg_pure 33 _ (.bool true) (some 125) rfl (by kernel_rfl) (by kernel_rfl) (by kernel_rfl) (by kernel_rfl) (fun _ _ _ h=>h) (by kernel_rfl) (fun w=>by kernel_rfl) hH ?_
              refine rg_pure 34 _ (.bool true) (some 126) rfl (by kernel_rfl) (by kernel_rfl) (by kernel_rfl) (by kernel_rfl) (fun _ _ _ h=>h) (by kernel_rfl) (fun w=>by kernel_rfl) hH ?_
              refine rg_pure 35 _ (.bool false) (some 127) rfl (by kernel_rfl) (by kernel_rfl) (by kernel_rfl) (by kernel_rfl) (fun _ _ _ h=>h) (by kernel_rfl) (fun w=>by kernel_rfl) hH ?_
              refine rg_pure 36 _ (.bool true) (some 128) rfl (by kernel_rfl) (by kernel_rfl) (by kernel_rfl) (by kernel_rfl) (fun _ _ _ h=>h) (by kernel_rfl) (fun w=>by kernel_rfl) hH ?_
              refine rg_pure 37 _ (.bool true) (some 129) rfl (by kernel_rfl) (by kernel_rfl) (by kernel_rfl) (by kernel_rfl) (fun _ _ _ h=>h) (by kernel_rfl) (fun w=>by kernel_rfl) hH ?_
              refine rg_pure 38 _ (.bool true) (some 130) rfl (by kernel_rfl) (by kernel_rfl) (by kernel_rfl) (by kernel_rfl) (fun _ _ _ h=>h) (by kernel_rfl) (fun w=>by kernel_rfl) hH ?_
              refine rg_call 39 _ 10 _ _ _ _ #[] (some 131) rfl (by kernel_rfl) (by kernel_rfl) (by kernel_rfl) rfl (by kernel_rfl) Tryd.func10 (by kernel_rfl) (by kernel_rfl) (by kernel_rfl) (KAW2.out _ hH) ?_
              rintro r' w' ⟨rfl,hA⟩
              replace hH:=hH.trans (hA.mono hH.size)
              refine ⟨_,rfl,hH,?_⟩
              refine rg_pure 40 _ (.bool true) (some 132) rfl (by kernel_rfl) (by kernel_rfl) (by kernel_rfl) (by kernel_rfl) (fun _ _ _ h=>h) (by kernel_rfl) (fun w=>by kernel_rfl) hH ?_
              refine rg_pure 41 _ (.bool true) (some 6) rfl (by kernel_rfl) (by kernel_rfl) (by kernel_rfl) (by kernel_rfl) (fun _ _ _ h=>h) (by kernel_rfl) (fun w=>by kernel_rfl) hH ?_
              refine wpAnyH_done (by kernel_rfl) ?_ _
              refine HJ.out _ _ ?_
              clear HJ
              simp only [Act.put,List.setIfInBounds_toArray,List.set_cons_zero,List.set_cons_succ]
              have HF:=Lib.hid (HVA.out.trans (hH.mono hsz))
              clear hH
              go_wp2_with fail
              go_ret
              exact ⟨rfl,HF.out⟩
            | false =>
              have KAW2:=Lib.hid (fun W (h:Below wc.heap.size wc W)=>KAW.out W (HVA.out.trans (h.mono hsz)))
              go_upto_region 14 with fail
              refine rg_norm (fun J hJ=>?_)
              have HJ:=Lib.hid hJ
              clear hJ
              refine wp_region_held_drew (S:=fun W=>Below wc.heap.size wc W) (by kernel_rfl) (below_drew (Below.refl _ _)) (fun hH=>?_)
              refine rg_pure 0 _ (.bool false) (some 92) rfl (by kernel_rfl) (by kernel_rfl) (by kernel_rfl) (by kernel_rfl) (fun _ _ _ h=>h) (by kernel_rfl) (fun w=>by kernel_rfl) hH ?_
              refine rg_pure 1 _ (.int .i64 (ii:Int)) (some 93) rfl (by kernel_rfl) (by kernel_rfl) (by kernel_rfl) (by kernel_rfl) (fun _ _ _ h=>h) (by kernel_rfl) (fun w=>by kernel_rfl) hH ?_
              refine rg_pure 2 _ (.int .i64 (j:Int)) (some 94) rfl (by kernel_rfl) (by kernel_rfl) (by kernel_rfl) (by kernel_rfl) (fun _ _ _ h=>h) (by kernel_rfl) (fun w=>by kernel_rfl) hH ?_
              refine rg_pure 3 _ (.bool false) (some 95) rfl (by kernel_rfl) (by kernel_rfl) (by kernel_rfl) (by kernel_rfl) (fun _ _ _ h=>h) (by kernel_rfl) (fun w=>pi_lss w _ _ _ _ _ _ _ _ false rfl (by kernel_rfl) (by kernel_rfl) HOK.out) hH ?_
              refine rg_pure 4 _ (.bool true) (some 96) rfl (by kernel_rfl) (by kernel_rfl) (by kernel_rfl) (by kernel_rfl) (fun _ _ _ h=>h) (by kernel_rfl) (fun w=>rg_eqB w _ _ 4 _ _ _ false Tryd.underlying4 rfl (by kernel_rfl) (by kernel_rfl)) hH ?_
              refine rg_pure 5 _ (.bool true) (some 97) rfl (by kernel_rfl) (by kernel_rfl) (by kernel_rfl) (by kernel_rfl) (fun _ _ _ h=>h) (by kernel_rfl) (fun w=>by kernel_rfl) hH ?_
              refine rg_pure 6 _ (.bool false) (some 98) rfl (by kernel_rfl) (by kernel_rfl) (by kernel_rfl) (by kernel_rfl) (fun _ _ _ h=>h) (by kernel_rfl) (fun w=>by kernel_rfl) hH ?_
              refine rg_pure 7 _ (.bool false) (some 99) rfl (by kernel_rfl) (by kernel_rfl) (by kernel_rfl) (by kernel_rfl) (fun _ _ _ h=>h) (by kernel_rfl) (fun w=>by kernel_rfl) hH ?_
              refine rg_pure 8 _ (.bool true) (some 100) rfl (by kernel_rfl) (by kernel_rfl) (by kernel_rfl) (by kernel_rfl) (fun _ _ _ h=>h) (by kernel_rfl) (fun w=>rg_eqB w _ _ 4 _ _ _ false Tryd.underlying4 rfl (by kernel_rfl) (by kernel_rfl)) hH ?_
              refine rg_pure 9 _ (.bool true) (some 101) rfl (by kernel_rfl) (by kernel_rfl) (by kernel_rfl) (by kernel_rfl) (fun _ _ _ h=>h) (by kernel_rfl) (fun w=>by kernel_rfl) hH ?_
              refine rg_pure 10 _ (.bool true) (some 102) rfl (by kernel_rfl) (by kernel_rfl) (by kernel_rfl) (by kernel_rfl) (fun _ _ _ h=>h) (by kernel_rfl) (fun w=>by kernel_rfl) hH ?_
              refine rg_pure 11 _ (.bool false) (some 103) rfl (by kernel_rfl) (by kernel_rfl) (by kernel_rfl) (by kernel_rfl) (fun _ _ _ h=>h) (by kernel_rfl) (fun w=>by kernel_rfl) hH ?_
              refine rg_pure 12 _ (.bool true) (some 104) rfl (by kernel_rfl) (by kernel_rfl) (by kernel_rfl) (by kernel_rfl) (fun _ _ _ h=>h) (by kernel_rfl) (fun w=>by kernel_rfl) hH ?_
              refine rg_pure 13 _ (.bool true) (some 105) rfl (by kernel_rfl) (by kernel_rfl) (by kernel_rfl) (by kernel_rfl) (fun _ _ _ h=>h) (by kernel_rfl) (fun w=>by kernel_rfl) hH ?_
              refine rg_skip 14 _ (some 106) rfl (by kernel_rfl) (by kernel_rfl) (by kernel_rfl) (by kernel_rfl) (fun _ _ _ h=>h) (by kernel_rfl) hH ?_
              refine rg_skip 15 _ (some 107) rfl (by kernel_rfl) (by kernel_rfl) (by kernel_rfl) (by kernel_rfl) (fun _ _ _ h=>h) (by kernel_rfl) hH ?_
              refine rg_skip 16 _ (some 108) rfl (by kernel_rfl) (by kernel_rfl) (by kernel_rfl) (by kernel_rfl) (fun _ _ _ h=>h) (by kernel_rfl) hH ?_
              refine rg_skip 17 _ (some 109) rfl (by kernel_rfl) (by kernel_rfl) (by kernel_rfl) (by kernel_rfl) (fun _ _ _ h=>h) (by kernel_rfl) hH ?_
              refine rg_skip 18 _ (some 110) rfl (by kernel_rfl) (by kernel_rfl) (by kernel_rfl) (by kernel_rfl) (fun _ _ _ h=>h) (by kernel_rfl) hH ?_
              refine rg_skip 19 _ (some 111) rfl (by kernel_rfl) (by kernel_rfl) (by kernel_rfl) (by kernel_rfl) (fun _ _ _ h=>h) (by kernel_rfl) hH ?_
              refine rg_skip 20 _ (some 112) rfl (by kernel_rfl) (by kernel_rfl) (by kernel_rfl) (by kernel_rfl) (fun _ _ _ h=>h) (by kernel_rfl) hH ?_
              refine rg_skip 21 _ (some 113) rfl (by kernel_rfl) (by kernel_rfl) (by kernel_rfl) (by kernel_rfl) (fun _ _ _ h=>h) (by kernel_rfl) hH ?_
              refine rg_skip 22 _ (some 114) rfl (by kernel_rfl) (by kernel_rfl) (by kernel_rfl) (by kernel_rfl) (fun _ _ _ h=>h) (by kernel_rfl) hH ?_
              refine rg_skip 23 _ (some 115) rfl (by kernel_rfl) (by kernel_rfl) (by kernel_rfl) (by kernel_rfl) (fun _ _ _ h=>h) (by kernel_rfl) hH ?_
              refine rg_pure 24 _ (.bool true) (some 116) rfl (by kernel_rfl) (by kernel_rfl) (by kernel_rfl) (by kernel_rfl) (fun _ _ _ h=>h) (by kernel_rfl) (fun w=>by kernel_rfl) hH ?_
              refine rg_pure 25 _ (.bool true) (some 117) rfl (by kernel_rfl) (by kernel_rfl) (by kernel_rfl) (by kernel_rfl) (fun _ _ _ h=>h) (by kernel_rfl) (fun w=>by kernel_rfl) hH ?_
              refine rg_pure 26 _ (.bool true) (some 118) rfl (by kernel_rfl) (by kernel_rfl) (by kernel_rfl) (by kernel_rfl) (fun _ _ _ h=>h) (by kernel_rfl) (fun w=>by kernel_rfl) hH ?_
              refine rg_pure 27 _ (.bool false) (some 119) rfl (by kernel_rfl) (by kernel_rfl) (by kernel_rfl) (by kernel_rfl) (fun _ _ _ h=>h) (by kernel_rfl) (fun w=>by kernel_rfl) hH ?_
              refine rg_pure 28 _ (.bool true) (some 120) rfl (by kernel_rfl) (by kernel_rfl) (by kernel_rfl) (by kernel_rfl) (fun _ _ _ h=>h) (by kernel_rfl) (fun w=>by kernel_rfl) hH ?_
              refine rg_pure 29 _ (.bool true) (some 121) rfl (by kernel_rfl) (by kernel_rfl) (by kernel_rfl) (by kernel_rfl) (fun _ _ _ h=>h) (by kernel_rfl) (fun w=>by kernel_rfl) hH ?_
              refine rg_pure 30 _ (.bool true) (some 122) rfl (by kernel_rfl) (by kernel_rfl) (by kernel_rfl) (by kernel_rfl) (fun _ _ _ h=>h) (by kernel_rfl) (fun w=>by kernel_rfl) hH ?_
              refine rg_pure 31 _ (.bool false) (some 123) rfl (by kernel_rfl) (by kernel_rfl) (by kernel_rfl) (by kernel_rfl) (fun _ _ _ h=>h) (by kernel_rfl) (fun w=>by kernel_rfl) hH ?_
              refine rg_pure 32 _ (.bool true) (some 124) rfl (by kernel_rfl) (by kernel_rfl) (by kernel_rfl) (by kernel_rfl) (fun _ _ _ h=>h) (by kernel_rfl) (fun w=>by kernel_rfl) hH ?_
              refine rg_pure 33 _ (.bool true) (some 125) rfl (by kernel_rfl) (by kernel_rfl) (by kernel_rfl) (by kernel_rfl) (fun _ _ _ h=>h) (by kernel_rfl) (fun w=>by kernel_rfl) hH ?_
              refine rg_pure 34 _ (.bool true) (some 126) rfl (by kernel_rfl) (by kernel_rfl) (by kernel_rfl) (by kernel_rfl) (fun _ _ _ h=>h) (by kernel_rfl) (fun w=>by kernel_rfl) hH ?_
              refine rg_pure 35 _ (.bool false) (some 127) rfl (by kernel_rfl) (by kernel_rfl) (by kernel_rfl) (by kernel_rfl) (fun _ _ _ h=>h) (by kernel_rfl) (fun w=>by kernel_rfl) hH ?_
              refine rg_pure 36 _ (.bool true) (some 128) rfl (by kernel_rfl) (by kernel_rfl) (by kernel_rfl) (by kernel_rfl) (fun _ _ _ h=>h) (by kernel_rfl) (fun w=>by kernel_rfl) hH ?_
              refine rg_pure 37 _ (.bool true) (some 129) rfl (by kernel_rfl) (by kernel_rfl) (by kernel_rfl) (by kernel_rfl) (fun _ _ _ h=>h) (by kernel_rfl) (fun w=>by kernel_rfl) hH ?_
              refine rg_pure 38 _ (.bool true) (some 130) rfl (by kernel_rfl) (by kernel_rfl) (by kernel_rfl) (by kernel_rfl) (fun _ _ _ h=>h) (by kernel_rfl) (fun w=>by kernel_rfl) hH ?_
              refine rg_call 39 _ 10 _ _ _ _ #[] (some 131) rfl (by kernel_rfl) (by kernel_rfl) (by kernel_rfl) rfl (by kernel_rfl) Tryd.func10 (by kernel_rfl) (by kernel_rfl) (by kernel_rfl) (KAW2.out _ hH) ?_
              rintro r' w' ⟨rfl,hA⟩
              replace hH:=hH.trans (hA.mono hH.size)
              refine ⟨_,rfl,hH,?_⟩
              refine rg_pure 40 _ (.bool true) (some 132) rfl (by kernel_rfl) (by kernel_rfl) (by kernel_rfl) (by kernel_rfl) (fun _ _ _ h=>h) (by kernel_rfl) (fun w=>by kernel_rfl) hH ?_
              refine rg_pure 41 _ (.bool true) (some 6) rfl (by kernel_rfl) (by kernel_rfl) (by kernel_rfl) (by kernel_rfl) (fun _ _ _ h=>h) (by kernel_rfl) (fun w=>by kernel_rfl) hH ?_
              refine wpAnyH_done (by kernel_rfl) ?_ _
              refine HJ.out _ _ ?_
              clear HJ
              simp only [Act.put,List.setIfInBounds_toArray,List.set_cons_zero,List.set_cons_succ]
              have HF:=Lib.hid (HVA.out.trans (hH.mono hsz))
              clear hH
              go_wp2_with fail
              go_ret
              exact ⟨rfl,HF.out⟩
end Go.Proofs.YtapicpdfdjofaaaDoor
