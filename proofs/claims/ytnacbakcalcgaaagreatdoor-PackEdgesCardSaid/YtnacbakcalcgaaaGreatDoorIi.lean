/- Texts of the claim. -/
import Derived.Test.YtnacbakcalcgaaaGreatDoorIh
import Derived.Lib.AppendZerosOnto
import Derived.Lib.EndianBits
set_option linter.unusedVariables false
set_option linter.unusedSimpArgs false
set_option maxHeartbeats 4000000
set_option maxRecDepth 100000
namespace Go.Proofs.YtnacbakcalcgaaaGreatDoor
open Go.RowKit Go.Shelf
attribute [local go_sem] Oper.semAt_some
theorem all_any (c:Cel) (w:World) :
    Calls Tryz.prog 65 #[c.val] w (fun e w'=>e=.returned (.func (.func 101) #[] #[.pointer (some ⟨w.heap.size,0,none⟩)])∧w'=w.alloc (.cells c.cells.toArray 29)):=by
  obtain ⟨k,b,neg,ma,mn,mc,e,s,ka,kn,kc,va,vn,vc⟩:=c
  unfold Cel.val
  go_enter Tryz.func65,Tryz.ntmps65
  go_wp2
  go_ret
  exact ⟨rfl,rfl⟩
theorem below_pre {w00 w W:World} (hb:Below w00.heap.size w00 w) {V:Nat→Prop} (hV:∀ k,V k→w00.heap.size≤k) (h:KeepB V w W):Below w00.heap.size w00 W:=hb.trans (h.below hb.size hV)
def OneB (W:World) (b:Nat) (t:TypeId) (v:Value):Prop:=W.heap[b]? = some (.cells #[v] t)
theorem OneB.cell {W:World} {b t v} (h:OneB W b t v):W.cell? ⟨b,0,none⟩=some v:=by unfold OneB at h;simp [World.cell?,h]
theorem OneB.free {W:World} {b t v} (h:OneB W b t v):W.frozen? ⟨b,0,none⟩=false:=by unfold OneB at h;simp [World.frozen?,h]
theorem OneB.on {W W':World} {b t v} (h:OneB W b t v) (hk:W'.heap[b]? = W.heap[b]?):OneB W' b t v:=by unfold OneB;rw [hk];exact h
theorem OneB.set {W:World} {b t v} (h:OneB W b t v) (u:Value):OneB (W.setCell ⟨b,0,none⟩ u) b t u:=by
  unfold OneB at h ⊢;simp [World.setCell,Array.getElem?_modify,h]
theorem OneB.lt {W:World} {b t v} (h:OneB W b t v):b<W.heap.size:=(Array.getElem?_eq_some_iff.1 h).1
def checkB (t:MT):Bool:=decide (t.nodes≤2000) && (t.pre 1).all (fun x=>decide (x.1≤64) && soundB x.2)
theorem checkB_yes {t:MT} {pre:List (Nat × MT)} (he:pre=t.pre 1) (hp:pre.length≤2000) (ha:pre.all (fun x=>decide (x.1≤64) && soundB x.2)=true):checkB t=true:=by
  subst he
  unfold checkB
  rw [← t.pre_len 1,decide_eq_true hp,ha];rfl
theorem checkB_many {t:MT} {pre:List (Nat × MT)} (he:pre <+: t.pre 1) (hp:2000<pre.length):checkB t=false:=by
  have:=he.length_le
  rw [t.pre_len 1] at this
  unfold checkB
  rw [decide_eq_false (by omega),Bool.false_and]
theorem checkB_no {t:MT} {pre:List (Nat × MT)} {x:Nat × MT} (he:pre++[x] <+: t.pre 1) (hp:(decide (x.1≤64) && soundB x.2)=false):checkB t=false:=by
  have hm:x∈t.pre 1:=he.subset (by simp)
  unfold checkB
  cases hb:(t.pre 1).all (fun x=>decide (x.1≤64) && soundB x.2)
  · rw [Bool.and_false]
  · rw [List.all_eq_true.1 hb x hm] at hp;cases hp
theorem checkT_any (t:MT) (w:World) (hR:Rep w t) (hT:UT w) :
    Calls Tryz.prog 38 #[t.c.val] w (BoolBelow (checkB t) w):=by
  have KA:=Lib.hid (all_any t.c)
  have HS:=Lib.hid (fun W tb m=>all1_seq t tb w W m hR)
  generalize hc:t.c=c at *
  obtain ⟨k,b,neg,ma,mn,mc,e,s,ka,kn,kc,va,vn,vc⟩:=c
  unfold Cel.val at KA ⊢
  refine (callsIn_wide (n:=6)).1 ?_
  refine callsIn_of_wp_marks Tryz.func38 rfl trivial ?_ rfl
  simp only [Tryz.ntmps38,List.size_toArray,List.length_cons,List.length_nil,Nat.reduceAdd,Nat.reduceSub,Array.replicate_succ,Array.replicate_zero,List.push_toArray,List.append_toArray,List.nil_append,List.cons_append]
  gi_wp2_with (refine ⟨trivial,?_⟩;gi_at_call 65;refine (callsIn_wide.2 (KA.out _)).mono ?_;rintro e w' ⟨rfl,rfl⟩)
  obtain ⟨W0,hW0⟩:∃ W0,(((w.alloc (.cells #[.int .i64 k,.bool b,.bool neg,.slice ma mn mc,.int .i64 e,.string s,.slice ka kn kc,.slice va vn vc] 29)).alloc (.cells #[.bool false] 4)).alloc (.cells #[.int .i64 0] 3)).alloc (.cells (Cel.cells ⟨k,b,neg,ma,mn,mc,e,s,ka,kn,kc,va,vn,vc⟩).toArray 29)=W0:=⟨_,rfl⟩
  have hb0:Below w.heap.size w W0:=by rw [← hW0];exact ((((Below.refl _ w).alloc (Nat.le_refl _) _).alloc (by simp) _).alloc (by simp;omega) _).alloc (by simp;omega) _
  have hs0:W0.heap.size=w.heap.size+4:=by rw [← hW0];simp
  have hr0:OneB W0 (w.heap.size+1) 4 (.bool false):=by
    rw [← hW0];unfold OneB
    rw [Below.heap_alloc _ _ _ (by simp <;> omega),Below.heap_alloc _ _ _ (by simp)]
    have:=heap_alloc_new (w.alloc (.cells #[.int .i64 k,.bool b,.bool neg,.slice ma mn mc,.int .i64 e,.string s,.slice ka kn kc,.slice va vn vc] 29)) (.cells #[.bool false] 4)
    rw [World.size_alloc] at this;exact this
  have ho0:OneB W0 (w.heap.size+1+1) 3 (.int .i64 0):=by
    rw [← hW0];unfold OneB
    rw [Below.heap_alloc _ _ _ (by simp)]
    have:=heap_alloc_new ((w.alloc (.cells #[.int .i64 k,.bool b,.bool neg,.slice ma mn mc,.int .i64 e,.string s,.slice ka kn kc,.slice va vn vc] 29)).alloc (.cells #[.bool false] 4)) (.cells #[.int .i64 0] 3)
    rw [World.size_alloc,World.size_alloc] at this;exact this
  have hx0:BoxT W0 (w.heap.size+1+1+1) t.c:=by
    rw [← hW0,hc];unfold BoxT
    have:=heap_alloc_new (((w.alloc (.cells #[.int .i64 k,.bool b,.bool neg,.slice ma mn mc,.int .i64 e,.string s,.slice ka kn kc,.slice va vn vc] 29)).alloc (.cells #[.bool false] 4)).alloc (.cells #[.int .i64 0] 3)) (.cells (Cel.cells ⟨k,b,neg,ma,mn,mc,e,s,ka,kn,kc,va,vn,vc⟩).toArray 29)
    rw [World.size_alloc,World.size_alloc,World.size_alloc] at this;exact this
  have HSQ:=HS.out W0 (w.heap.size+1+1+1) 4 hb0 (by rw [← hc];exact hx0) (by omega)
  have HT:=Lib.hid hT
  have HR:=Lib.hid hR
  rw [hW0]
  clear HS KA hT hR
  have hVs:∀ k,(k=w.heap.size+1∨k=w.heap.size+1+1)→w.heap.size≤k∧k<W0.heap.size∧k ≠ w.heap.size+1+1+1:=fun k h=>by omega
  clear hW0
  refine wpIn_range_all (n:=4) (gf:=101) (lb:=#[.pointer (some ⟨w.heap.size+1+1+1,0,none⟩)]) rfl (enters_of Tryz.func101 (by kernel_rfl) rfl) HSQ rfl
    (fun k=>k=w.heap.size+1∨k=w.heap.size+1+1) hVs (by omega)
    (fun pre W=>OneB W (w.heap.size+1) 4 (.bool false)∧OneB W (w.heap.size+1+1) 3 (.int .i64 (pre.length:Int))∧pre.length≤2000∧pre.all (fun x=>decide (x.1≤64) && soundB x.2)=true)
    (fun c _ W=>c=.ret∧OneB W (w.heap.size+1) 4 (.bool false)∧checkB t=false)
    (fun pre A B hk h=>⟨h.1.on (hk _ (.inl rfl)),h.2.1.on (hk _ (.inr rfl)),h.2.2⟩) (fun c pre A B hk h=>⟨h.1,h.2.1.on (hk _ (.inl rfl)),h.2.2⟩) (fun _ _ h=>by have:=h.2.2.1;omega) ⟨hr0,ho0,by simp,by simp⟩
    (fun x a' W=>∃ Bx,Bx ≠ W0.heap.size+1∧Bx ≠ w.heap.size+1∧Bx ≠ w.heap.size+1+1∧BoxT W Bx x.2.c∧a' = { tmps:=#[.agg #[.int .i64 k,.bool b,.bool neg,.slice ma mn mc,.int .i64 e,.string s,.slice ka kn kc,.slice va vn vc],.pointer (some ⟨w.heap.size,0,none⟩),.pointer (some ⟨w.heap.size+1,0,none⟩),.pointer (some ⟨w.heap.size+1+1,0,none⟩),.int .i64 (x.1:Int),.pointer (some ⟨Bx,0,none⟩),.agg #[.int .i64 k,.bool b,.bool neg,.slice ma mn mc,.int .i64 e,.string s,.slice ka kn kc,.slice va vn vc],.func (.func 101) #[] #[.pointer (some ⟨w.heap.size+1+1+1,0,none⟩)],.int .i64 (x.1:Int),x.2.c.val,undef,undef,undef,undef,undef,undef,undef,undef,undef,undef,undef,undef,undef],defers:=[] })
    (fun x a' A B hk h=>by obtain ⟨Bx,h1,h2,h2',h3,h4⟩:=h;exact ⟨Bx,h1,h2,h2',h3.on (hk _ h1),h4⟩) (by omega) ?assign ?body ?done ?stop
  case assign =>
    rintro pre x W K hx hk hs hi hK
    have hh:=fun a'=>hK a' (W.alloc (.cells x.2.c.cells.toArray 29)) ((KeepB.refl _ W).alloc _) ⟨hi.1.on (Below.heap_alloc _ _ _ (by omega)),hi.2.1.on (Below.heap_alloc _ _ _ (by omega)),hi.2.2⟩
    generalize hcx:x.2.c=cx at *
    simp only [encT,hcx]
    obtain ⟨xk,xb,xneg,xma,xmn,xmc,xe,xs,xka,xkn,xkc,xva,xvn,xvc⟩:=cx
    simp only [Cel.val]
    gi_wp2
    exact ⟨W.heap.size,by omega,by omega,by omega,heap_alloc_new W _,rfl⟩
  case body =>
    rintro pre x a' W hx hk ⟨hr1,ho1,hp,hall⟩ ⟨Bx,hn1,hn2,hn3,hbx,rfl⟩
    have hsub:t.sub x.2:=MT.sub_of_pre (n:=x.1) (hx.subset (by simp))
    have hbw:=below_pre hb0 (fun k h=>(hVs k h).1) hk
    obtain ⟨W1,hW1⟩:∃ W1,W.setCell ⟨w.heap.size+1+1,0,none⟩ (.int .i64 ((pre.length:Int)+1))=W1:=⟨_,rfl⟩
    have hk1:KeepB (fun k=>k=w.heap.size+1∨k=w.heap.size+1+1) W W1:=by rw [← hW1];exact (KeepB.refl (fun k=>k=w.heap.size+1∨k=w.heap.size+1+1) W).setCell (p:=⟨w.heap.size+1+1,0,none⟩) (.inl (.inr rfl)) _
    have hb1:Below w.heap.size w W1:=below_pre hbw (fun k h=>(hVs k h).1) hk1
    have hr2:OneB W1 (w.heap.size+1) 4 (.bool false):=hr1.on (by rw [← hW1];exact Below.heap_setCell _ _ _ _ (by simp))
    have ho2:OneB W1 (w.heap.size+1+1) 3 (.int .i64 ((pre.length:Int)+1)):=by rw [← hW1];exact ho1.set _
    have hbx1:BoxT W1 Bx x.2.c:=hbx.on (by rw [← hW1];exact Below.heap_setCell _ _ _ _ hn3)
    have KS:=Lib.hid (sound_any x.2 W1 ((HR.out x.2 hsub).on hb1) (HT.out.below hb1))
    have HNO:=Lib.hid (fun h=>checkB_no hx h)
    have HMANY:=Lib.hid (fun h=>checkB_many hx (by simpa using h))
    have HRR:=Lib.hid (⟨hr2,hk1⟩:OneB W1 (w.heap.size+1) 4 (.bool false)∧KeepB (fun k=>k=w.heap.size+1∨k=w.heap.size+1+1) W W1)
    have HX:=Lib.hid (fun w1 (h1:Below W1.heap.size W1 w1) (hp1:pre.length+1≤2000) (hs1:(decide (x.1≤64) && soundB x.2)=true)=>(⟨hk1.trans (KeepB.of_below h1),hr2.on (h1.block _ hr2.lt),by have:=ho2.on (h1.block _ ho2.lt);simpa using this,by simpa using hp1,by rw [List.all_append,hall,List.all_cons,hs1];rfl⟩ :
      KeepB (fun k=>k=w.heap.size+1∨k=w.heap.size+1+1) W w1∧(OneB w1 (w.heap.size+1) 4 (.bool false)∧OneB w1 (w.heap.size+1+1) 3 (.int .i64 ((pre++[x]).length:Int))∧(pre++[x]).length≤2000∧(pre++[x]).all (fun x=>decide (x.1≤64) && soundB x.2)=true)))
    have c1:=ho1.cell
    have f1:=ho1.free
    have c2:=ho2.cell
    obtain ⟨g0,g1,g2,g3,g4,g5,g6,g7⟩:=hbx1.cells
    clear hall hx hk hsub hbw hk1 hb1 hr2 ho2 hbx1 hbx hr1 ho1
    generalize hcx:x.2.c=cx at *
    generalize pre.length=pl at *
    generalize soundB x.2=sb at *
    generalize x.1=dx at *
    obtain ⟨xk,xb,xneg,xma,xmn,xmc,xe,xs,xka,xkn,xkc,xva,xvn,xvc⟩:=cx
    simp only [Cel.val] at KS ⊢
    by_cases h1:pl+1≤2000
    · have d1:¬ (2000:Int)<(pl:Int)+1:=by omega
      by_cases h2:dx≤64
      · have d2:¬ (64:Int)<(dx:Int):=by omega
        have D2:=Lib.hid (decide_eq_true h2)
        rw [D2.out,Bool.true_and] at HNO HX
        cases sb
        · have HF:=Lib.hid (HNO.out rfl)
          have HZ:=Lib.hid (fun w1 (h1:Below W1.heap.size W1 w1)=>(by
            have hr9:=HRR.out.1.on (h1.block _ HRR.out.1.lt)
            exact ⟨hr9.cell,hr9.free,(HRR.out.2.trans (KeepB.of_below h1)).setCell (p:=⟨w.heap.size+1,0,none⟩) (.inl (.inl rfl)) _,hr9.set _⟩ :
            w1.cell? ⟨w.heap.size+1,0,none⟩=some (.bool false)∧w1.frozen? ⟨w.heap.size+1,0,none⟩=false∧KeepB (fun k=>k=w.heap.size+1∨k=w.heap.size+1+1) W (w1.setCell ⟨w.heap.size+1,0,none⟩ (.bool false))∧OneB (w1.setCell ⟨w.heap.size+1,0,none⟩ (.bool false)) (w.heap.size+1) 4 (.bool false)))
          clear HNO HX HMANY
          gi_wp2_with (refine ⟨trivial,?_⟩;gi_at_call 66;refine (CallsIn.inRound _ (callsIn_wide.2 KS.out)).mono ?_;rintro e w1 ⟨rfl,h1⟩;obtain ⟨c9,f9,hz9⟩:=HZ.out w1 h1)
          exact ⟨hz9.1,rfl,hz9.2,HF.out⟩
        · clear HNO HMANY
          gi_wp2_with (refine ⟨trivial,?_⟩;gi_at_call 66;refine (CallsIn.inRound _ (callsIn_wide.2 KS.out)).mono ?_;rintro e w1 ⟨rfl,h1⟩;have hz9:=HX.out w1 h1 (by assumption) rfl)
          exact hz9
      · have d2:(64:Int)<(dx:Int):=by omega
        have D2:=Lib.hid (decide_eq_false h2)
        rw [D2.out,Bool.false_and] at HNO
        have HF:=Lib.hid (HNO.out rfl)
        have c9:=HRR.out.1.cell
        have f9:=HRR.out.1.free
        have HZ:=Lib.hid (show KeepB (fun k=>k=w.heap.size+1∨k=w.heap.size+1+1) W (W1.setCell ⟨w.heap.size+1,0,none⟩ (.bool false))∧OneB (W1.setCell ⟨w.heap.size+1,0,none⟩ (.bool false)) (w.heap.size+1) 4 (.bool false) from
            ⟨HRR.out.2.setCell (p:=⟨w.heap.size+1,0,none⟩) (.inl (.inl rfl)) _,HRR.out.1.set _⟩)
        clear HNO HX HMANY h2 KS
        gi_wp2
        refine ⟨trivial,?_⟩
        gi_wp2
        exact ⟨HZ.out.1,rfl,HZ.out.2,HF.out⟩
    · have d1:(2000:Int)<(pl:Int)+1:=by omega
      have HF:=Lib.hid (HMANY.out (by omega))
      have c9:=HRR.out.1.cell
      have f9:=HRR.out.1.free
      have HZ:=Lib.hid (show KeepB (fun k=>k=w.heap.size+1∨k=w.heap.size+1+1) W (W1.setCell ⟨w.heap.size+1,0,none⟩ (.bool false))∧OneB (W1.setCell ⟨w.heap.size+1,0,none⟩ (.bool false)) (w.heap.size+1) 4 (.bool false) from
          ⟨HRR.out.2.setCell (p:=⟨w.heap.size+1,0,none⟩) (.inl (.inl rfl)) _,HRR.out.1.set _⟩)
      clear HNO HX HMANY h1 KS
      gi_wp2
      refine ⟨trivial,?_⟩
      gi_wp2
      exact ⟨HZ.out.1,rfl,HZ.out.2,HF.out⟩
  case done =>
    rintro W hk ⟨hr1,ho1,hp,hall⟩ hK
    have HY:=Lib.hid (checkB_yes rfl hp hall)
    have HB:=Lib.hid ((below_pre hb0 (fun k h=>(hVs k h).1) hk).setCell (p:=⟨w.heap.size+1,0,none⟩) (by simp) (.bool true))
    have HR1:=Lib.hid (hr1.set (.bool true))
    have hK':(W.setCell ⟨w.heap.size+1,0,none⟩ (.bool true)).heap[W0.heap.size]? = some (.deferred (some [])):=by
      rw [Below.heap_setCell _ _ _ _ (by simp;omega)];exact hK
    have HK:=Lib.hid hK'
    have c1:=hr1.cell
    have f1:=hr1.free
    clear hr1 ho1 hp hall hK hK' hk
    gi_wp2
    refine ⟨by simp,.inl ⟨_,_,rfl,run_takeDeferred HK.out,?_⟩⟩
    have c5:=(HR1.out.on (W':=(W.setCell ⟨w.heap.size+1,0,none⟩ (.bool true)).putObj W0.heap.size (.deferred none)) (World.putObj_heap_other (by omega))).cell
    refine ⟨.bool true,by simp [results,Tryz.f38,go_sem,c5],?_⟩
    exact BoolBelow.mk (by rw [HY.out]) (HB.out.trans (belowK_b (w:=w) (Nat.le_refl _) _ W0.heap.size _ _ (by omega) HK.out rfl rfl))
  case stop =>
    rintro c pre W _ hk ⟨rfl,hr1,hf⟩ hK
    have HB:=Lib.hid (below_pre hb0 (fun k h=>(hVs k h).1) hk)
    have HR1:=Lib.hid hr1
    have HK:=Lib.hid hK
    have HF:=Lib.hid hf
    clear hr1 hK hk hf
    gi_wp2
    refine ⟨by simp,.inl ⟨_,_,rfl,run_takeDeferred HK.out,?_⟩⟩
    have c5:=(HR1.out.on (W':=W.putObj W0.heap.size (.deferred none)) (World.putObj_heap_other (by omega))).cell
    refine ⟨.bool false,by simp [results,Tryz.f38,go_sem,c5],?_⟩
    exact BoolBelow.mk (by rw [HF.out]) (HB.out.trans (belowK_b (w:=w) (Nat.le_refl _) _ W0.heap.size _ _ (by omega) HK.out rfl rfl))
end Go.Proofs.YtnacbakcalcgaaaGreatDoor
namespace Go.Proofs.YtnacbakcalcgaaaGreatDoor
open Go.RowKit
section
variable {t e : TypeId} {z : Value} {size bytes : Nat}
theorem wp_appV (ht:Tryz.prog.underlying t=some (.slice e)) (hi:(Tryz.prog.info? e).map (fun i=>(i.zero,i.size,i.bytes))=some (some z,size,bytes)) (hzs:z.cells.size=size) (hsz:0<size) (hby:bytes≤1000) (w:World) {o:Oper} {a:Act} {K:Act→World→Prop} {Q:Exit→Act→World→Prop}
    (s x:Operand) (hop:o.op=.call { callee:=.builtin .append,args:=#[s,x],argTypes:=#[t,t] })
    (B:Nat) (v:Value) (n:Nat) (xs:List Value) (hs:a.eval s=v) (hown:w.ownsRow B e size v n xs) (ad:Option Addr) (m c:Nat) (news:List Value) (hx:a.eval x=.slice ad m c) (hl:news.length=m*size) (hr:RdV w ad news) (h1:∀ u∈news,u.oneCell'=true) (h0:ad=none→c=0)
    (hn:n+m≤1000000000) (hB:B≤w.heap.size)
    (h:∀ v' w',w'.ownsRow B e size v' (n+m) (xs++news)→w.grownBy w' v.ownBlock→K (a.put o.dst v') w'):o.wp Tryz.prog a w K Q:=by
  obtain ⟨i0,hi,hz0,hz1,hz2⟩:=info_parts hi
  cases ad with
  | none =>
    have hnil:news=[]:=by
      rcases Nat.eq_zero_or_pos news.length with h0 | h0
      · exact List.eq_nil_of_length_eq_zero h0
      · obtain ⟨_,_,e,_⟩:=hr 0 h0
        cases e
    subst hnil
    obtain rfl:m=0:=by
      rcases Nat.eq_zero_or_pos m with h | h
      · exact h
      · have:=Nat.mul_pos h hsz;simp at hl;omega
    obtain rfl:=h0 rfl
    have hrun:=run_append_owned_none (P:=Tryz.prog) (w:=w) B t o.type e i0 size ht hi v n xs hown
    unfold Oper.wp execOp
    simp only [hop,resolve,invoke,builtin,Sem.run_bind,Sem.run_pure,Result.andThen_ok,List.map_toArray,List.map_cons,List.map_nil,hs,hx,hrun]
    exact h v w (by simpa using hown) (World.grownBy.refl _ _)
  | some ad =>
    refine wp_append_own w s x t hop B e i0 z size bytes ht hi hz0 hz1 hz2 hzs hsz v n xs hs hown ad m c news hx hl ?_ h1 (by unfold maxLen;omega) (by
      have:(n+m)*bytes≤(n+m)*1000:=Nat.mul_le_mul_left _ hby
      omega) hB (fun v' w' h1 h2 _=>h v' w' h1 h2)
    intro j u hj
    have hjl:j<news.length:=(List.getElem?_eq_some_iff.1 hj).1
    obtain ⟨b,o',e,_,hc⟩:=hr j hjl
    cases e
    have hadd:(⟨b,o',none⟩:Addr).add j=⟨b,o'+j,none⟩:=by unfold Addr.add;split <;> simp_all
    rw [hadd,hc,hj]
theorem wpl_appV (ht:Tryz.prog.underlying t=some (.slice e)) (hi:(Tryz.prog.info? e).map (fun i=>(i.zero,i.size,i.bytes))=some (some z,size,bytes)) (hzs:z.cells.size=size) (hsz:0<size) (hby:bytes≤1000) (w:World) {ops:Array Oper} {rest:List Oper} {o:Oper} {a:Act} {Q:Exit→Act→World→Prop}
    (hg:o.guard=none) (s x:Operand) (hop:o.op=.call { callee:=.builtin .append,args:=#[s,x],argTypes:=#[t,t] })
    (B:Nat) (v:Value) (n:Nat) (xs:List Value) (hs:a.eval s=v) (hown:w.ownsRow B e size v n xs) (ad:Option Addr) (m c:Nat) (news:List Value) (hx:a.eval x=.slice ad m c) (hl:news.length=m*size) (hr:RdV w ad news) (h1:∀ u∈news,u.oneCell'=true) (h0:ad=none→c=0)
    (hn:n+m≤1000000000) (hB:B≤w.heap.size)
    (h:∀ v' w',w'.ownsRow B e size v' (n+m) (xs++news)→w.grownBy w' v.ownBlock→wpList Tryz.prog ops Q rest (a.put o.dst v') w') :
    wpList Tryz.prog ops Q (o::rest) a w:=by
  refine wpList_plain hg fun K hK=>?_
  exact wp_appV ht hi hzs hsz hby w s x hop B v n xs hs hown ad m c news hx hl hr h1 h0 hn hB (fun v' w' h1 h2=>hK _ _ (h v' w' h1 h2))
end
theorem own_viewN {w:World} {B:Nat} {e:TypeId} {size:Nat} {v:Value} {n:Nat} {vs:List Value} (h:w.ownsRow B e size v n vs) :
    ∃ ad cap,v=.slice ad n cap∧n≤cap∧RdV w ad vs∧vs.length=n*size∧(∀ a,ad=some a→B≤a.block∧a.block<w.heap.size)∧(ad=none→cap=0∧n=0):=by
  have hl:vs.length=n*size:=h.1
  rcases h.2 with ⟨rfl,h0⟩ | ⟨g,cap,cur,rfl,hB,hg,hc,hm,hs,ht⟩
  · subst h0
    have:vs=[]:=List.eq_nil_of_length_eq_zero (by simpa using hl)
    subst this
    exact ⟨none,0,rfl,Nat.le_refl _,RdV.nil _ _,by simp,(fun a h=>by cases h),fun _=>⟨rfl,rfl⟩⟩
  · have hlt:g<w.heap.size:=(Array.getElem?_eq_some_iff.1 hg).1
    refine ⟨_,cap,rfl,hc,?_,hl,(fun a h=>by cases h;exact ⟨hB,hlt⟩),fun h=>by cases h⟩
    intro i hi
    refine ⟨g,0,rfl,hlt,?_⟩
    have hv:vs[i]? = some vs[i]:=List.getElem?_eq_getElem hi
    have:=World.ownsRow.cells h (g:=g) rfl i vs[i] hv
    have hadd:(⟨g,0,none⟩:Addr).add i=⟨g,0+i,none⟩:=by unfold Addr.add;split <;> simp_all
    rw [hadd] at this
    rw [this,hv]
theorem own_onN {w w':World} {B:Nat} {e:TypeId} {size:Nat} {v:Value} {n:Nat} {xs:List Value} (h:w.ownsRow B e size v n xs) (hb:Below w.heap.size w w'):w'.ownsRow B e size v n xs:=by
  refine ⟨h.1,?_⟩
  rcases h.2 with h2 | ⟨g,cap,cur,rfl,hB,hg,rest⟩
  · exact .inl h2
  · refine .inr ⟨g,cap,cur,rfl,hB,?_,rest⟩
    rw [hb.block g (Array.getElem?_eq_some_iff.1 hg).1];exact hg
end Go.Proofs.YtnacbakcalcgaaaGreatDoor
namespace Go.Proofs.YtnacbakcalcgaaaGreatDoor
open Go.RowKit Go.Shelf
theorem lm0:(0:Nat)≤1000000000000000:=Nat.zero_le _
theorem li0:-9223372036854775808≤(0:Int)∧(0:Int)≤9223372036854775807:=by decide
theorem li3:-9223372036854775808≤(3:Int)∧(3:Int)≤9223372036854775807:=by decide
theorem li6:-9223372036854775808≤(6:Int)∧(6:Int)≤9223372036854775807:=by decide
def leafC (k:Int) (b:Bool) (s:ByteArray):Cel:=⟨k,b,false,none,0,0,0,s,none,0,0,none,0,0⟩
def leafT (k:Int) (b:Bool) (s:ByteArray):MT:=.mk (leafC k b s) [] [] []
theorem leafT_rep (w:World) (k:Int) (b:Bool) (s:ByteArray) (hk:-9223372036854775808≤k∧k≤9223372036854775807) (hs:s.size≤maxLen):Rep w (leafT k b s) :=
  Rep.mk ⟨rfl,Nat.le_refl _,Okl.nil,Rd.nil _ _,rfl,Nat.le_refl _,RdV.nil _ _,rfl,Nat.le_refl _,RdV.nil _ _,⟨lm0,lm0,lm0⟩,hs,nofun,li0,hk⟩ nofun
def arrC (va:Option Addr) (n cap:Nat):Cel:=⟨6,false,false,none,0,0,0,⟨#[]⟩,none,0,0,va,n,cap⟩
def arrT (va:Option Addr) (n cap:Nat) (l:List MT):MT:=.mk (arrC va n cap) [] [] l
theorem arrT_rep {w:World} {va:Option Addr} {n cap:Nat} {l:List MT} (hl:l.length=n) (hc:n≤cap) (hm:n≤1000000000000000) (hr:RdV w va (flat (l.map MT.c))) (hp:∀ t∈l,Rep w t):Rep w (arrT va n cap l) :=
  Rep.mk ⟨rfl,Nat.le_refl _,Okl.nil,Rd.nil _ _,rfl,Nat.le_refl _,RdV.nil _ _,hl,hc,hr,⟨lm0,lm0,hm⟩,Nat.zero_le _,nofun,li0,li6⟩ hp
def objC7 (ka:Option Addr) (kn kc:Nat) (va:Option Addr) (n cap:Nat):Cel:=⟨7,false,false,none,0,0,0,⟨#[]⟩,ka,kn,kc,va,n,cap⟩
def objT (ka:Option Addr) (kn kc:Nat) (va:Option Addr) (n cap:Nat) (ks:List ByteArray) (l:List MT):MT:=.mk (objC7 ka kn kc va n cap) [] ks l
def numC (neg:Bool) (ma:Option Addr) (mn mc:Nat) (e:Int):Cel:=⟨3,false,neg,ma,mn,mc,e,⟨#[]⟩,none,0,0,none,0,0⟩
def numT (neg:Bool) (ma:Option Addr) (mn mc:Nat) (e:Int) (m:List Nat):MT:=.mk (numC neg ma mn mc e) m [] []
theorem numT_rep {w:World} {neg:Bool} {ma:Option Addr} {mn mc:Nat} {e:Int} {m:List Nat} (hl:m.length=mn) (hc:mn≤mc) (hm:mn≤1000000000000000) (ho:Okl m) (hr:Rd w ma m) (he:-9223372036854775808≤e∧e≤9223372036854775807):Rep w (numT neg ma mn mc e m) :=
  Rep.mk ⟨hl,hc,ho,hr,rfl,Nat.le_refl _,RdV.nil _ _,rfl,Nat.le_refl _,RdV.nil _ _,⟨hm,lm0,lm0⟩,Nat.zero_le _,nofun,he,li3⟩ nofun
end Go.Proofs.YtnacbakcalcgaaaGreatDoor
namespace Go.Proofs.YtnacbakcalcgaaaGreatDoor
open Go.RowKit
def infoN (n:Nat):Nat:=if n<24 then n else if n<256 then 24 else if n<65536 then 25 else if n<4294967296 then 26 else 27
def tailN (n:Nat):List Nat :=
  if n<24 then [] else if n<256 then [n] else if n<65536 then [n / 256,n % 256]
  else if n<4294967296 then [n / 16777216,n / 65536 % 256,n / 256 % 256,n % 256]
  else [n / 72057594037927936,n / 281474976710656 % 256,n / 1099511627776 % 256,n / 4294967296 % 256,n / 16777216 % 256,n / 65536 % 256,n / 256 % 256,n % 256]
def hd (m n:Nat):List Nat:=(m*32+infoN n)::tailN n
def bc (l:List Nat):List Value:=l.map fun (x:Nat)=>Value.int .u8 (x:Int)
theorem bc_len (l:List Nat):(bc l).length=l.length:=by simp [bc]
theorem bc_app (l k:List Nat):bc (l++k)=bc l++bc k:=by simp [bc]
theorem bc_one (l:List Nat):∀ v∈bc l,v.oneCell'=true:=by
  intro v hv;simp only [bc,List.mem_map] at hv;obtain ⟨s,_,rfl⟩:=hv;rfl
theorem bc_get (l:List Nat) (i:Nat) (hi:i<l.length):(bc l)[i]? = some (.int .u8 ((l.getD i 0:Nat):Int)):=by
  simp [bc,List.getD,hi]
theorem bc_take (l:List Nat) (k:Nat):(bc l).take k=bc (l.take k):=by simp [bc,List.map_take]
theorem bc_drop (l:List Nat) (k:Nat):(bc l).drop k=bc (l.drop k):=by simp [bc,List.map_drop]
def natB (l:List Nat):Nat:=l.foldl (fun a x=>a*256+x) 0
theorem u64_wrap (n:Int) (h0:0≤n) (h:n<18446744073709551616):IntKind.u64.wrap n=n:=by
  rw [IntKind.wrap_u64];omega
theorem rd_newH (w:World) (e:TypeId) (vs:List Value):RdV (w.alloc (.cells vs.toArray e)) (some ⟨w.heap.size,0,none⟩) vs:=by
  have h:BlkV (w.alloc (.cells vs.toArray e)) w.heap.size e vs:=by unfold BlkV;rw [heap_alloc_new]
  exact h.all
theorem zero_u8 (k:Nat):Builtin.zeroCells (Value.cells (.int .u8 0)) k=(List.replicate k (Value.int .u8 0)).toArray:=by
  apply Array.ext'
  simp only [Builtin.zeroCells]
  apply List.ext_getElem
  · simp [Value.cells]
  · intro i h1 h2;simp [Value.cells,Nat.mod_one]
end Go.Proofs.YtnacbakcalcgaaaGreatDoor
namespace Go.Proofs.YtnacbakcalcgaaaGreatDoor
open Go.RowKit Go.Lib
def GrowPost (l:List Nat) (w:World) (e:Ending) (w':World):Prop:=∃ v,e=.returned v∧w'.ownsRow w.heap.size 5 1 v l.length (bc l)∧Below w.heap.size w w'
theorem firstCells_bv {w:World} {ad:Option Addr} {l:List Nat} {n c:Nat} (hl:l.length=n) (hr:RdV w ad (bc l)) :
    (Builtin.firstCells 1 n (.slice ad n c)).run Tryz.prog w=.ok (bc l).toArray w:=by
  cases ad with
  | none =>
    have h0:l=[]:=by
      rcases Nat.eq_zero_or_pos (bc l).length with h0 | h0
      · rw [bc_len] at h0;exact List.eq_nil_of_length_eq_zero h0
      · obtain ⟨_,_,e,_⟩:=hr 0 h0
        cases e
    subst h0
    exact run_firstCells_none ..
  | some a =>
    refine run_firstCells_some (w:=w) 1 n a n c (bc l) (by rw [bc_len];omega) ?_
    intro j v hj
    have hjl:j<(bc l).length:=(List.getElem?_eq_some_iff.1 hj).1
    obtain ⟨b,o',e,_,hc⟩:=hr j hjl
    cases e
    have hadd:(⟨b,o',none⟩:Addr).add j=⟨b,o'+j,none⟩:=by unfold Addr.add;split <;> simp_all
    rw [hadd,hc,hj]
theorem grown_cells (w:World) (l:List Nat) (n G:Nat) (hl:l.length=n) (hG:n+9≤G) (hm:G≤maxLen) (W:World) (hW:W.heap.size=w.heap.size) :
    (W.alloc (.cells ((bc l).toArray++Builtin.zeroCells (Value.cells (.int .u8 0)) 9++Builtin.zeroCells (Value.cells (.int .u8 0)) (G - (n+9))) 5)).ownsRow w.heap.size 5 1 (.slice (some ⟨w.heap.size,0,none⟩) n G) l.length (bc l):=by
  refine ⟨by rw [bc_len];omega,.inr ⟨w.heap.size,G,_,by rw [hl],Nat.le_refl _,by rw [← hW,heap_alloc_new],by omega,hm,?_,?_⟩⟩
  · simp [zero_u8,bc_len];omega
  · simp [zero_u8]
    rw [List.take_append_of_le_length (by rw [bc_len];omega),List.take_of_length_le (by rw [bc_len];omega)]
theorem wpl_grow9 (w:World) {ops:Array Oper} {rest:List Oper} {o:Oper} {a:Act} {Q:Exit→Act→World→Prop}
    (hg:o.guard=none) (s x:Operand) (hop:o.op=.call { callee:=.builtin .append,args:=#[s,x],argTypes:=#[22,3] })
    (ad:Option Addr) (n:Nat) (l:List Nat) (hs:a.eval s=.slice ad n n) (hx:a.eval x=.int .i64 9) (hl:l.length=n) (hn:n≤100000000) (hr:RdV w ad (bc l))
    (h:∀ G w',n+9≤G→w'.ownsRow w.heap.size 5 1 (.slice (some ⟨w.heap.size,0,none⟩) n G) l.length (bc l)→Below w.heap.size w w'→wpList Tryz.prog ops Q rest (a.put o.dst (.slice (some ⟨w.heap.size,0,none⟩) (n+9) G)) w') :
    wpList Tryz.prog ops Q (o::rest) a w:=by
  obtain ⟨i0,hi,hz0,hz1,hz2⟩:=info_parts info_u8
  refine wpList_append_run w hg s x 22 3 hop _ _ hs hx _ _ (run_append_grow_zeros w 22 3 o.type 5 i0 (.int .u8 0) .i64 .i64 Tryz.underlying22 Tryz.underlying3 hi hz0 ad n n (bc l) ?_ 9 (by decide) (by omega) (by omega) (by omega) (by omega) ?_) ?_
  · rw [hz1];exact firstCells_bv (w:=w.drew) hl hr
  · rw [hz2]
    have:=nextslicecap_le (need:=n+9) (old:=n) (by omega)
    omega
  · refine h _ _ (grownCap_ge ..) (grown_cells w l n _ hl (grownCap_ge ..) (grownCap_le_maxLen _ _ _ _ (by unfold maxLen;omega)) w.drew rfl) ((Below.refl _ _).drew.alloc (Nat.le_refl _) _)
theorem grow_any (ad:Option Addr) (l:List Nat) (n:Nat) (w:World) (hl:l.length=n) (hn:n≤100000000) (hr:RdV w ad (bc l)) :
    Calls Tryz.prog 88 #[.slice ad n n,.int .i64 9] w (GrowPost l w):=by
  have HL:=Lib.hid hl;have HR:=Lib.hid hr;have HN:=Lib.hid hn
  clear hl hr hn
  have s1:IntKind.i64.wrap ((n:Int) - (n:Int))=0:=by rw [Int.sub_self];rfl
  go_enter Tryz.func88,Tryz.ntmps88
  go_wp2_with (at_builtin;refine wpl_grow9 _ rfl _ _ rfl ad n l rfl rfl HL.out HN.out HR.out ?_)
  intro G w1 hG ho hb
  have HO:=Lib.hid ho;have HB:=Lib.hid hb
  clear ho hb
  have hG2:n≤G:=by omega
  clear hG
  go_wp2
  go_ret
  exact ⟨_,rfl,HO.out,HB.out⟩
theorem clip_any (ad:Option Addr) (n cap:Nat) (w:World) (hn:n≤cap) :
    Calls Tryz.prog 89 #[.slice ad n cap] w fun e w'=>e=.returned (.slice ad n n)∧w'=w:=by
  go_enter Tryz.func89,Tryz.ntmps89
  go_wp2_with fail
  go_ret
  exact ⟨rfl,rfl⟩
theorem wpl_put (W:World) (news:List Value) {ops:Array Oper} {rest:List Oper} {o:Oper} {a:Act} {Q:Exit→Act→World→Prop}
    (hg:o.guard=none) (s x:Operand) (hop:o.op=.call { callee:=.builtin .append,args:=#[s,x],argTypes:=#[22,22] })
    (w0:World) (v:Value) (n:Nat) (xs:List Nat) (hs:a.eval s=v) (hown:W.ownsRow w0.heap.size 5 1 v n (bc xs)) (hb:Below w0.heap.size w0 W) (k:Nat) (hx:a.eval x=.slice (some ⟨W.heap.size,0,none⟩) k k) (hk:news.length=k)
    (ys:List Nat) (hy:news=bc ys) (zs:List Nat) (hz:xs++ys=zs) (hn:n+k≤1000000000)
    (h:∀ v' w',w'.ownsRow w0.heap.size 5 1 v' (n+k) (bc zs)→Below w0.heap.size w0 w'→wpList Tryz.prog ops Q rest (a.put o.dst v') w') :
    wpList Tryz.prog ops Q (o::rest) a (W.alloc (.cells news.toArray 5)):=by
  have hbs:=hb.size
  refine wpl_appV Tryz.underlying22 info_u8 rfl (by decide) (by decide) _ hg s x hop w0.heap.size v n (bc xs) hs (hown.alloc _) _ k k news hx (by omega) (rd_newH _ _ _) (by rw [hy];exact bc_one _) (fun h=>by cases h) hn (by simp;omega) ?_
  intro v' w' h1 h2
  refine h v' w' (by rw [← hz,bc_app,← hy];exact h1) ((hb.alloc hbs _).grown h2 (by simp;omega) (fun g hg=>(hown.lt g hg).1))
def PutL (l:List Nat) (w:World) (e:Ending) (w':World):Prop:=∃ v,e=.returned v∧w'.ownsRow w.heap.size 5 1 v l.length (bc l)∧Below w.heap.size w w'
def strB (l:List Nat):ByteArray:=⟨(l.map fun x=>UInt8.ofNat x).toArray⟩
theorem strB_nums (l:List Nat):strOfNums (l.map fun (x:Nat)=>(x:Int))=strB l:=by
  unfold strOfNums strB;simp
theorem conv_bv (w:World) (ad:Option Addr) (n c:Nat) (l:List Nat) (hl:l.length=n) (hr:RdV w ad (bc l)) :
    Sem.run Tryz.prog (convert 22 9 (.slice ad n c)) w=.ok (.string (strB l)) w:=by
  rw [← strB_nums]
  cases ad with
  | none =>
    have h0:l=[]:=by
      rcases Nat.eq_zero_or_pos (bc l).length with h0 | h0
      · rw [bc_len] at h0;exact List.eq_nil_of_length_eq_zero h0
      · obtain ⟨_,_,e,_⟩:=hr 0 h0
        cases e
    subst h0
    exact run_convert_bytes_nil w 22 5 Tryz.underlying22 Tryz.underlying5 _ _ 9 Tryz.underlying9
  | some a =>
    have hsp:∀ i,i<n→w.cell? ⟨a.block,a.off+i,none⟩=some (.int .u8 ((l.map fun (x:Nat)=>(x:Int)).getD i 0))∧a.spot=none:=by
      intro i hi
      obtain ⟨b,o,e,_,hc⟩:=hr i (by rw [bc_len];omega)
      cases e
      refine ⟨?_,rfl⟩
      rw [hc,bc_get l i (by omega)]
      simp [List.getD,show i<l.length by omega]
    rcases Nat.eq_zero_or_pos n with h0 | h0
    · subst h0
      have:l=[]:=List.eq_nil_of_length_eq_zero hl
      subst this
      rw [run_convert_bytes_string w 22 9 5 _ _ _ Tryz.underlying22 Tryz.underlying5 Tryz.underlying9]
      simp [Conv.bytesToString,loadCells,strOfNums]
      rfl
    · obtain ⟨_,hs⟩:=hsp 0 h0
      obtain ⟨b,o,sp⟩:=a
      simp at hs;subst hs
      exact run_convert_bytes_arg w 22 5 Tryz.underlying22 Tryz.underlying5 b o n c _ (by simpa using hl) (fun i hi=>(hsp i hi).1) 9 Tryz.underlying9
theorem PutL.view {l:List Nat} {w w':World} {e:Ending} (h:PutL l w e w'):∃ ad cap,e=.returned (.slice ad l.length cap)∧l.length≤cap∧RdV w' ad (bc l)∧Below w.heap.size w w'∧(ad=none→cap=0):=by
  obtain ⟨v,rfl,ho,hb⟩:=h
  obtain ⟨ad,cap,rfl,hc,hr,_,_,h0⟩:=own_viewN ho
  exact ⟨ad,cap,rfl,hc,hr,hb,fun h=>(h0 h).1⟩
theorem orJ (i:Nat) (x y:Int) (h0:0≤x) (h1:x % 2 ^ i=0) (h2:x<18446744073709551616) (h3:0≤y) (h4:y<2 ^ i) (h5:y<18446744073709551616):bits .or .u64 x y=x+y :=
  bits_join .u64 64 (by decide) wraps_u64 i x y h0 h1 h2 h3 h4 h5
theorem or0 (y:Int) (h3:0≤y) (h5:y<18446744073709551616):bits .or .u64 0 y=y:=by
  rw [bits_join .u64 64 (by decide) wraps_u64 64 0 y (by decide) (by decide) (by decide) h3 h5 h5];omega

end Go.Proofs.YtnacbakcalcgaaaGreatDoor
namespace Go.Proofs.YtnacbakcalcgaaaGreatDoor
open Go.RowKit
theorem place_any (v n:Int) (w:World) (hv:-9223372036854775808≤v∧v≤9223372036854775807) (hn:0<n∧n≤100000000) :
    Calls Tryz.prog 21 #[.int .i64 v,.int .i64 n] w fun e w'=>e=.returned (.int .i64 (v % n))∧w'=w:=by
  have h1:=Int.emod_nonneg v (show n ≠ 0 by omega)
  have h2:=Int.emod_lt_of_pos v hn.1
  have ht:v.tmod n=if 0≤v∨v % n=0 then v % n else v % n - n:=by
    rw [Int.tmod_eq_emod]
    by_cases h0:0≤v∨n ∣ v
    · rw [if_pos h0,if_pos (h0.imp id Int.emod_eq_zero_of_dvd)];omega
    · rw [if_neg h0,if_neg (fun h=>h0 (h.imp id Int.dvd_of_emod_eq_zero))];omega
  have hne:n ≠ 0:=by omega
  have hnb:(n == 0)=false:=by rw [beq_eq_false_iff_ne];exact hne
  generalize v % n=r at *
  by_cases hv0:0≤v∨r=0
  · rw [if_pos hv0] at ht
    have hlt:¬ (r<0):=by omega
    clear hv0
    go_enter Tryz.func21,Tryz.ntmps21
    go_wp2_with fail
    go_ret
    exact ⟨rfl,rfl⟩
  · rw [if_neg hv0] at ht
    clear hv0
    go_enter Tryz.func21,Tryz.ntmps21
    go_wp2_with fail
    go_ret
    exact ⟨rfl,rfl⟩
end Go.Proofs.YtnacbakcalcgaaaGreatDoor
