/- Texts of the claim. -/
import Derived.Test.YtijaphbccnadbaaGreatDoorUk
import Derived.Deep.RegionLaw
import Derived.Test.YtijaphbccnadbaaGreatDoorUa
import Derived.Test.YtijaphbccnadbaaGreatDoorShelf
import Derived.Shelf.Strings.SlTrimAscii
import Derived.RegionTactic
import Derived.Deep.RegionHeld3
import Derived.StillTailTactics
set_option linter.unusedVariables false
set_option linter.unusedSimpArgs false
set_option maxHeartbeats 4000000
set_option maxRecDepth 100000
namespace Go.Proofs.YtijaphbccnadbaaGreatDoor
open Go.RowKit Go.Shelf
attribute [local go_sem] Oper.semAt_some
theorem all_any (c:Cel) (w:World) :
    Calls Tryz.prog 57 #[c.val] w (fun e w'=>e=.returned (.func (.func 89) #[] #[.pointer (some ⟨w.heap.size,0,none⟩)])∧w'=w.alloc (.cells c.cells.toArray 28)):=by
  obtain ⟨k,b,neg,ma,mn,mc,e,s,ka,kn,kc,va,vn,vc⟩:=c
  unfold Cel.val
  go_enter Tryz.func57,Tryz.ntmps57
  go_wp2
  go_ret
  exact ⟨rfl,rfl⟩
theorem below_pre {w00 w W:World} (hb:Below w00.heap.size w00 w) {V:Nat→Prop} (hV:∀ k,V k→w00.heap.size≤k) (h:KeepB V w W):Below w00.heap.size w00 W:=hb.trans (h.below hb.size hV)
def OneB (W:World) (b:Nat) (t:TypeId) (v:Value):Prop:=W.heap[b]? = some (.cells #[v] t)
theorem OneB.cell {W:World} {b t v} (h:OneB W b t v):W.cell? ⟨b,0,none⟩=some v:=by unfold OneB at h;simp [World.cell?,h]
theorem OneB.free {W:World} {b t v} (h:OneB W b t v):W.frozen? ⟨b,0,none⟩=false:=by unfold OneB at h;simp [World.frozen?,h]
theorem OneB.on {W W':World} {b t v} (h:OneB W b t v) (hk:W'.heap[b]? = W.heap[b]?):OneB W' b t v:=by unfold OneB;rw [hk];exact h
theorem OneB.set {W:World} {b t v} (h:OneB W b t v) (u:Value):OneB (W.setCell ⟨b,0,none⟩ u) b t u:=by
  unfold OneB at h ⊢;simp [World.setCell,Array.getElem?_modify,h]
theorem OneB.lt {W:World} {b t v} (h:OneB W b t v):b<W.heap.size:=(Array.getElem?_eq_some_iff.1 h).1
def checkB (t:MT):Bool:=decide (t.nodes≤2000) && (t.pre 1).all (fun x=>decide (x.1≤64) && soundB x.2)
theorem checkB_yes {t:MT} {pre:List (Nat × MT)} (he:pre=t.pre 1) (hp:pre.length≤2000) (ha:pre.all (fun x=>decide (x.1≤64) && soundB x.2)=true):checkB t=true:=by
  subst he
  unfold checkB
  rw [← t.pre_len 1,decide_eq_true hp,ha];rfl
theorem checkB_many {t:MT} {pre:List (Nat × MT)} (he:pre <+: t.pre 1) (hp:2000<pre.length):checkB t=false:=by
  have:=he.length_le
  rw [t.pre_len 1] at this
  unfold checkB
  rw [decide_eq_false (by omega),Bool.false_and]
theorem checkB_no {t:MT} {pre:List (Nat × MT)} {x:Nat × MT} (he:pre++[x] <+: t.pre 1) (hp:(decide (x.1≤64) && soundB x.2)=false):checkB t=false:=by
  have hm:x∈t.pre 1:=he.subset (by simp)
  unfold checkB
  cases hb:(t.pre 1).all (fun x=>decide (x.1≤64) && soundB x.2)
  · rw [Bool.and_false]
  · rw [List.all_eq_true.1 hb x hm] at hp;cases hp
theorem checkT_any (t:MT) (w:World) (hR:Rep w t) (hT:UT w) :
    Calls Tryz.prog 31 #[t.c.val] w (BoolBelow (checkB t) w):=by
  have KA:=Lib.hid (all_any t.c)
  have HS:=Lib.hid (fun W tb m=>all1_seq t tb w W m hR)
  generalize hc:t.c=c at *
  obtain ⟨k,b,neg,ma,mn,mc,e,s,ka,kn,kc,va,vn,vc⟩:=c
  unfold Cel.val at KA ⊢
  refine (callsIn_wide (n:=6)).1 ?_
  refine callsIn_of_wp_marks Tryz.func31 rfl trivial ?_ rfl
  simp only [Tryz.ntmps31,List.size_toArray,List.length_cons,List.length_nil,Nat.reduceAdd,Nat.reduceSub,Array.replicate_succ,Array.replicate_zero,List.push_toArray,List.append_toArray,List.nil_append,List.cons_append]
  gi_wp2_with (refine ⟨trivial,?_⟩;gi_at_call 57;refine (callsIn_wide.2 (KA.out _)).mono ?_;rintro e w' ⟨rfl,rfl⟩)
  obtain ⟨W0,hW0⟩:∃ W0,(((w.alloc (.cells #[.int .i64 k,.bool b,.bool neg,.slice ma mn mc,.int .i64 e,.string s,.slice ka kn kc,.slice va vn vc] 28)).alloc (.cells #[.bool false] 4)).alloc (.cells #[.int .i64 0] 3)).alloc (.cells (Cel.cells ⟨k,b,neg,ma,mn,mc,e,s,ka,kn,kc,va,vn,vc⟩).toArray 28)=W0:=⟨_,rfl⟩
  have hb0:Below w.heap.size w W0:=by rw [← hW0];exact ((((Below.refl _ w).alloc (Nat.le_refl _) _).alloc (by simp) _).alloc (by simp;omega) _).alloc (by simp;omega) _
  have hs0:W0.heap.size=w.heap.size+4:=by rw [← hW0];simp
  have hr0:OneB W0 (w.heap.size+1) 4 (.bool false):=by
    rw [← hW0];unfold OneB
    rw [Below.heap_alloc _ _ _ (by simp <;> omega),Below.heap_alloc _ _ _ (by simp)]
    have:=heap_alloc_new (w.alloc (.cells #[.int .i64 k,.bool b,.bool neg,.slice ma mn mc,.int .i64 e,.string s,.slice ka kn kc,.slice va vn vc] 28)) (.cells #[.bool false] 4)
    rw [World.size_alloc] at this;exact this
  have ho0:OneB W0 (w.heap.size+1+1) 3 (.int .i64 0):=by
    rw [← hW0];unfold OneB
    rw [Below.heap_alloc _ _ _ (by simp)]
    have:=heap_alloc_new ((w.alloc (.cells #[.int .i64 k,.bool b,.bool neg,.slice ma mn mc,.int .i64 e,.string s,.slice ka kn kc,.slice va vn vc] 28)).alloc (.cells #[.bool false] 4)) (.cells #[.int .i64 0] 3)
    rw [World.size_alloc,World.size_alloc] at this;exact this
  have hx0:BoxT W0 (w.heap.size+1+1+1) t.c:=by
    rw [← hW0,hc];unfold BoxT
    have:=heap_alloc_new (((w.alloc (.cells #[.int .i64 k,.bool b,.bool neg,.slice ma mn mc,.int .i64 e,.string s,.slice ka kn kc,.slice va vn vc] 28)).alloc (.cells #[.bool false] 4)).alloc (.cells #[.int .i64 0] 3)) (.cells (Cel.cells ⟨k,b,neg,ma,mn,mc,e,s,ka,kn,kc,va,vn,vc⟩).toArray 28)
    rw [World.size_alloc,World.size_alloc,World.size_alloc] at this;exact this
  have HSQ:=HS.out W0 (w.heap.size+1+1+1) 4 hb0 (by rw [← hc];exact hx0) (by omega)
  have HT:=Lib.hid hT
  have HR:=Lib.hid hR
  rw [hW0]
  clear HS KA hT hR
  have hVs:∀ k,(k=w.heap.size+1∨k=w.heap.size+1+1)→w.heap.size≤k∧k<W0.heap.size∧k ≠ w.heap.size+1+1+1:=fun k h=>by omega
  clear hW0
  refine wpIn_range_all (n:=4) (gf:=89) (lb:=#[.pointer (some ⟨w.heap.size+1+1+1,0,none⟩)]) rfl (enters_of Tryz.func89 (by kernel_rfl) rfl) HSQ rfl
    (fun k=>k=w.heap.size+1∨k=w.heap.size+1+1) hVs (by omega)
    (fun pre W=>OneB W (w.heap.size+1) 4 (.bool false)∧OneB W (w.heap.size+1+1) 3 (.int .i64 (pre.length:Int))∧pre.length≤2000∧pre.all (fun x=>decide (x.1≤64) && soundB x.2)=true)
    (fun c _ W=>c=.ret∧OneB W (w.heap.size+1) 4 (.bool false)∧checkB t=false)
    (fun pre A B hk h=>⟨h.1.on (hk _ (.inl rfl)),h.2.1.on (hk _ (.inr rfl)),h.2.2⟩) (fun c pre A B hk h=>⟨h.1,h.2.1.on (hk _ (.inl rfl)),h.2.2⟩) (fun _ _ h=>by have:=h.2.2.1;omega) ⟨hr0,ho0,by simp,by simp⟩
    (fun x a' W=>∃ Bx,Bx ≠ W0.heap.size+1∧Bx ≠ w.heap.size+1∧Bx ≠ w.heap.size+1+1∧BoxT W Bx x.2.c∧a' = { tmps:=#[.agg #[.int .i64 k,.bool b,.bool neg,.slice ma mn mc,.int .i64 e,.string s,.slice ka kn kc,.slice va vn vc],.pointer (some ⟨w.heap.size,0,none⟩),.pointer (some ⟨w.heap.size+1,0,none⟩),.pointer (some ⟨w.heap.size+1+1,0,none⟩),.int .i64 (x.1:Int),.pointer (some ⟨Bx,0,none⟩),.agg #[.int .i64 k,.bool b,.bool neg,.slice ma mn mc,.int .i64 e,.string s,.slice ka kn kc,.slice va vn vc],.func (.func 89) #[] #[.pointer (some ⟨w.heap.size+1+1+1,0,none⟩)],.int .i64 (x.1:Int),x.2.c.val,undef,undef,undef,undef,undef,undef,undef,undef,undef,undef,undef,undef,undef],defers:=[] })
    (fun x a' A B hk h=>by obtain ⟨Bx,h1,h2,h2',h3,h4⟩:=h;exact ⟨Bx,h1,h2,h2',h3.on (hk _ h1),h4⟩) (by omega) ?assign ?body ?done ?stop
  case assign =>
    rintro pre x W K hx hk hs hi hK
    have hh:=fun a'=>hK a' (W.alloc (.cells x.2.c.cells.toArray 28)) ((KeepB.refl _ W).alloc _) ⟨hi.1.on (Below.heap_alloc _ _ _ (by omega)),hi.2.1.on (Below.heap_alloc _ _ _ (by omega)),hi.2.2⟩
    generalize hcx:x.2.c=cx at *
    simp only [encT,hcx]
    obtain ⟨xk,xb,xneg,xma,xmn,xmc,xe,xs,xka,xkn,xkc,xva,xvn,xvc⟩:=cx
    simp only [Cel.val]
    gi_wp2
    exact ⟨W.heap.size,by omega,by omega,by omega,heap_alloc_new W _,rfl⟩
  case body =>
    rintro pre x a' W hx hk ⟨hr1,ho1,hp,hall⟩ ⟨Bx,hn1,hn2,hn3,hbx,rfl⟩
    have hsub:t.sub x.2:=MT.sub_of_pre (n:=x.1) (hx.subset (by simp))
    have hbw:=below_pre hb0 (fun k h=>(hVs k h).1) hk
    obtain ⟨W1,hW1⟩:∃ W1,W.setCell ⟨w.heap.size+1+1,0,none⟩ (.int .i64 ((pre.length:Int)+1))=W1:=⟨_,rfl⟩
    have hk1:KeepB (fun k=>k=w.heap.size+1∨k=w.heap.size+1+1) W W1:=by rw [← hW1];exact (KeepB.refl (fun k=>k=w.heap.size+1∨k=w.heap.size+1+1) W).setCell (p:=⟨w.heap.size+1+1,0,none⟩) (.inl (.inr rfl)) _
    have hb1:Below w.heap.size w W1:=below_pre hbw (fun k h=>(hVs k h).1) hk1
    have hr2:OneB W1 (w.heap.size+1) 4 (.bool false):=hr1.on (by rw [← hW1];exact Below.heap_setCell _ _ _ _ (by simp))
    have ho2:OneB W1 (w.heap.size+1+1) 3 (.int .i64 ((pre.length:Int)+1)):=by rw [← hW1];exact ho1.set _
    have hbx1:BoxT W1 Bx x.2.c:=hbx.on (by rw [← hW1];exact Below.heap_setCell _ _ _ _ hn3)
    have KS:=Lib.hid (sound_any x.2 W1 ((HR.out x.2 hsub).on hb1) (HT.out.below hb1))
    have HNO:=Lib.hid (fun h=>checkB_no hx h)
    have HMANY:=Lib.hid (fun h=>checkB_many hx (by simpa using h))
    have HRR:=Lib.hid (⟨hr2,hk1⟩:OneB W1 (w.heap.size+1) 4 (.bool false)∧KeepB (fun k=>k=w.heap.size+1∨k=w.heap.size+1+1) W W1)
    have HX:=Lib.hid (fun w1 (h1:Below W1.heap.size W1 w1) (hp1:pre.length+1≤2000) (hs1:(decide (x.1≤64) && soundB x.2)=true)=>(⟨hk1.trans (KeepB.of_below h1),hr2.on (h1.block _ hr2.lt),by have:=ho2.on (h1.block _ ho2.lt);simpa using this,by simpa using hp1,by rw [List.all_append,hall,List.all_cons,hs1];rfl⟩ :
      KeepB (fun k=>k=w.heap.size+1∨k=w.heap.size+1+1) W w1∧(OneB w1 (w.heap.size+1) 4 (.bool false)∧OneB w1 (w.heap.size+1+1) 3 (.int .i64 ((pre++[x]).length:Int))∧(pre++[x]).length≤2000∧(pre++[x]).all (fun x=>decide (x.1≤64) && soundB x.2)=true)))
    have c1:=ho1.cell
    have f1:=ho1.free
    have c2:=ho2.cell
    obtain ⟨g0,g1,g2,g3,g4,g5,g6,g7⟩:=hbx1.cells
    clear hall hx hk hsub hbw hk1 hb1 hr2 ho2 hbx1 hbx hr1 ho1
    generalize hcx:x.2.c=cx at *
    generalize pre.length=pl at *
    generalize soundB x.2=sb at *
    generalize x.1=dx at *
    obtain ⟨xk,xb,xneg,xma,xmn,xmc,xe,xs,xka,xkn,xkc,xva,xvn,xvc⟩:=cx
    simp only [Cel.val] at KS ⊢
    by_cases h1:pl+1≤2000
    · have d1:¬ (2000:Int)<(pl:Int)+1:=by omega
      by_cases h2:dx≤64
      · have d2:¬ (64:Int)<(dx:Int):=by omega
        have D2:=Lib.hid (decide_eq_true h2)
        rw [D2.out,Bool.true_and] at HNO HX
        cases sb
        · have HF:=Lib.hid (HNO.out rfl)
          have HZ:=Lib.hid (fun w1 (h1:Below W1.heap.size W1 w1)=>(by
            have hr9:=HRR.out.1.on (h1.block _ HRR.out.1.lt)
            exact ⟨hr9.cell,hr9.free,(HRR.out.2.trans (KeepB.of_below h1)).setCell (p:=⟨w.heap.size+1,0,none⟩) (.inl (.inl rfl)) _,hr9.set _⟩ :
            w1.cell? ⟨w.heap.size+1,0,none⟩=some (.bool false)∧w1.frozen? ⟨w.heap.size+1,0,none⟩=false∧KeepB (fun k=>k=w.heap.size+1∨k=w.heap.size+1+1) W (w1.setCell ⟨w.heap.size+1,0,none⟩ (.bool false))∧OneB (w1.setCell ⟨w.heap.size+1,0,none⟩ (.bool false)) (w.heap.size+1) 4 (.bool false)))
          clear HNO HX HMANY
          gi_wp2_with (refine ⟨trivial,?_⟩;gi_at_call 58;refine (CallsIn.inRound _ (callsIn_wide.2 KS.out)).mono ?_;rintro e w1 ⟨rfl,h1⟩;obtain ⟨c9,f9,hz9⟩:=HZ.out w1 h1)
          exact ⟨hz9.1,rfl,hz9.2,HF.out⟩
        · clear HNO HMANY
          gi_wp2_with (refine ⟨trivial,?_⟩;gi_at_call 58;refine (CallsIn.inRound _ (callsIn_wide.2 KS.out)).mono ?_;rintro e w1 ⟨rfl,h1⟩;have hz9:=HX.out w1 h1 (by assumption) rfl)
          exact hz9
      · have d2:(64:Int)<(dx:Int):=by omega
        have D2:=Lib.hid (decide_eq_false h2)
        rw [D2.out,Bool.false_and] at HNO
        have HF:=Lib.hid (HNO.out rfl)
        have c9:=HRR.out.1.cell
        have f9:=HRR.out.1.free
        have HZ:=Lib.hid (show KeepB (fun k=>k=w.heap.size+1∨k=w.heap.size+1+1) W (W1.setCell ⟨w.heap.size+1,0,none⟩ (.bool false))∧OneB (W1.setCell ⟨w.heap.size+1,0,none⟩ (.bool false)) (w.heap.size+1) 4 (.bool false) from
            ⟨HRR.out.2.setCell (p:=⟨w.heap.size+1,0,none⟩) (.inl (.inl rfl)) _,HRR.out.1.set _⟩)
        clear HNO HX HMANY h2 KS
        gi_wp2
        refine ⟨trivial,?_⟩
        gi_wp2
        exact ⟨HZ.out.1,rfl,HZ.out.2,HF.out⟩
    · have d1:(2000:Int)<(pl:Int)+1:=by omega
      have HF:=Lib.hid (HMANY.out (by omega))
      have c9:=HRR.out.1.cell
      have f9:=HRR.out.1.free
      have HZ:=Lib.hid (show KeepB (fun k=>k=w.heap.size+1∨k=w.heap.size+1+1) W (W1.setCell ⟨w.heap.size+1,0,none⟩ (.bool false))∧OneB (W1.setCell ⟨w.heap.size+1,0,none⟩ (.bool false)) (w.heap.size+1) 4 (.bool false) from
          ⟨HRR.out.2.setCell (p:=⟨w.heap.size+1,0,none⟩) (.inl (.inl rfl)) _,HRR.out.1.set _⟩)
      clear HNO HX HMANY h1 KS
      gi_wp2
      refine ⟨trivial,?_⟩
      gi_wp2
      exact ⟨HZ.out.1,rfl,HZ.out.2,HF.out⟩
  case done =>
    rintro W hk ⟨hr1,ho1,hp,hall⟩ hK
    have HY:=Lib.hid (checkB_yes rfl hp hall)
    have HB:=Lib.hid ((below_pre hb0 (fun k h=>(hVs k h).1) hk).setCell (p:=⟨w.heap.size+1,0,none⟩) (by simp) (.bool true))
    have HR1:=Lib.hid (hr1.set (.bool true))
    have hK':(W.setCell ⟨w.heap.size+1,0,none⟩ (.bool true)).heap[W0.heap.size]? = some (.deferred (some [])):=by
      rw [Below.heap_setCell _ _ _ _ (by simp;omega)];exact hK
    have HK:=Lib.hid hK'
    have c1:=hr1.cell
    have f1:=hr1.free
    clear hr1 ho1 hp hall hK hK' hk
    gi_wp2
    refine ⟨by simp,.inl ⟨_,_,rfl,run_takeDeferred HK.out,?_⟩⟩
    have c5:=(HR1.out.on (W':=(W.setCell ⟨w.heap.size+1,0,none⟩ (.bool true)).putObj W0.heap.size (.deferred none)) (World.putObj_heap_other (by omega))).cell
    refine ⟨.bool true,by simp [results,Tryz.f31,go_sem,c5],?_⟩
    exact BoolBelow.mk (by rw [HY.out]) (HB.out.trans (belowK_b (w:=w) (Nat.le_refl _) _ W0.heap.size _ _ (by omega) HK.out rfl rfl))
  case stop =>
    rintro c pre W _ hk ⟨rfl,hr1,hf⟩ hK
    have HB:=Lib.hid (below_pre hb0 (fun k h=>(hVs k h).1) hk)
    have HR1:=Lib.hid hr1
    have HK:=Lib.hid hK
    have HF:=Lib.hid hf
    clear hr1 hK hk hf
    gi_wp2
    refine ⟨by simp,.inl ⟨_,_,rfl,run_takeDeferred HK.out,?_⟩⟩
    have c5:=(HR1.out.on (W':=W.putObj W0.heap.size (.deferred none)) (World.putObj_heap_other (by omega))).cell
    refine ⟨.bool false,by simp [results,Tryz.f31,go_sem,c5],?_⟩
    exact BoolBelow.mk (by rw [HF.out]) (HB.out.trans (belowK_b (w:=w) (Nat.le_refl _) _ W0.heap.size _ _ (by omega) HK.out rfl rfl))
end Go.Proofs.YtijaphbccnadbaaGreatDoor
namespace Go.Proofs.YtijaphbccnadbaaGreatDoor
open Go.RowKit
section
variable {t e : TypeId} {z : Value} {size bytes : Nat}
theorem wp_appV (ht:Tryz.prog.underlying t=some (.slice e)) (hi:(Tryz.prog.info? e).map (fun i=>(i.zero,i.size,i.bytes))=some (some z,size,bytes)) (hzs:z.cells.size=size) (hsz:0<size) (hby:bytes≤1000) (w:World) {o:Oper} {a:Act} {K:Act→World→Prop} {Q:Exit→Act→World→Prop}
    (s x:Operand) (hop:o.op=.call { callee:=.builtin .append,args:=#[s,x],argTypes:=#[t,t] })
    (B:Nat) (v:Value) (n:Nat) (xs:List Value) (hs:a.eval s=v) (hown:w.ownsRow B e size v n xs) (ad:Option Addr) (m c:Nat) (news:List Value) (hx:a.eval x=.slice ad m c) (hl:news.length=m*size) (hr:RdV w ad news) (h1:∀ u∈news,u.oneCell'=true) (h0:ad=none→c=0)
    (hn:n+m≤1000000000) (hB:B≤w.heap.size)
    (h:∀ v' w',w'.ownsRow B e size v' (n+m) (xs++news)→w.grownBy w' v.ownBlock→K (a.put o.dst v') w'):o.wp Tryz.prog a w K Q:=by
  obtain ⟨i0,hi,hz0,hz1,hz2⟩:=info_parts hi
  cases ad with
  | none =>
    have hnil:news=[]:=by
      rcases Nat.eq_zero_or_pos news.length with h0 | h0
      · exact List.eq_nil_of_length_eq_zero h0
      · obtain ⟨_,_,e,_⟩:=hr 0 h0
        cases e
    subst hnil
    obtain rfl:m=0:=by
      rcases Nat.eq_zero_or_pos m with h | h
      · exact h
      · have:=Nat.mul_pos h hsz;simp at hl;omega
    obtain rfl:=h0 rfl
    have hrun:=run_append_owned_none (P:=Tryz.prog) (w:=w) B t o.type e i0 size ht hi v n xs hown
    unfold Oper.wp execOp
    simp only [hop,resolve,invoke,builtin,Sem.run_bind,Sem.run_pure,Result.andThen_ok,List.map_toArray,List.map_cons,List.map_nil,hs,hx,hrun]
    exact h v w (by simpa using hown) (World.grownBy.refl _ _)
  | some ad =>
    refine wp_append_own w s x t hop B e i0 z size bytes ht hi hz0 hz1 hz2 hzs hsz v n xs hs hown ad m c news hx hl ?_ h1 (by unfold maxLen;omega) (by
      have:(n+m)*bytes≤(n+m)*1000:=Nat.mul_le_mul_left _ hby
      omega) hB (fun v' w' h1 h2 _=>h v' w' h1 h2)
    intro j u hj
    have hjl:j<news.length:=(List.getElem?_eq_some_iff.1 hj).1
    obtain ⟨b,o',e,_,hc⟩:=hr j hjl
    cases e
    have hadd:(⟨b,o',none⟩:Addr).add j=⟨b,o'+j,none⟩:=by unfold Addr.add;split <;> simp_all
    rw [hadd,hc,hj]
end
theorem own_viewN {w:World} {B:Nat} {e:TypeId} {size:Nat} {v:Value} {n:Nat} {vs:List Value} (h:w.ownsRow B e size v n vs) :
    ∃ ad cap,v=.slice ad n cap∧n≤cap∧RdV w ad vs∧vs.length=n*size∧(∀ a,ad=some a→B≤a.block∧a.block<w.heap.size)∧(ad=none→cap=0∧n=0):=by
  have hl:vs.length=n*size:=h.1
  rcases h.2 with ⟨rfl,h0⟩ | ⟨g,cap,cur,rfl,hB,hg,hc,hm,hs,ht⟩
  · subst h0
    have:vs=[]:=List.eq_nil_of_length_eq_zero (by simpa using hl)
    subst this
    exact ⟨none,0,rfl,Nat.le_refl _,RdV.nil _ _,by simp,(fun a h=>by cases h),fun _=>⟨rfl,rfl⟩⟩
  · have hlt:g<w.heap.size:=(Array.getElem?_eq_some_iff.1 hg).1
    refine ⟨_,cap,rfl,hc,?_,hl,(fun a h=>by cases h;exact ⟨hB,hlt⟩),fun h=>by cases h⟩
    intro i hi
    refine ⟨g,0,rfl,hlt,?_⟩
    have hv:vs[i]? = some vs[i]:=List.getElem?_eq_getElem hi
    have:=World.ownsRow.cells h (g:=g) rfl i vs[i] hv
    have hadd:(⟨g,0,none⟩:Addr).add i=⟨g,0+i,none⟩:=by unfold Addr.add;split <;> simp_all
    rw [hadd] at this
    rw [this,hv]
theorem own_onN {w w':World} {B:Nat} {e:TypeId} {size:Nat} {v:Value} {n:Nat} {xs:List Value} (h:w.ownsRow B e size v n xs) (hb:Below w.heap.size w w'):w'.ownsRow B e size v n xs:=by
  refine ⟨h.1,?_⟩
  rcases h.2 with h2 | ⟨g,cap,cur,rfl,hB,hg,rest⟩
  · exact .inl h2
  · refine .inr ⟨g,cap,cur,rfl,hB,?_,rest⟩
    rw [hb.block g (Array.getElem?_eq_some_iff.1 hg).1];exact hg
end Go.Proofs.YtijaphbccnadbaaGreatDoor
namespace Go.Proofs.YtijaphbccnadbaaGreatDoor
open Go.RowKit Go.Shelf
def RpQ (R:Act→World→Prop) (T:List PanicEntry→World→Prop) (e:Exit) (a:Act) (w:World):Prop:=match e with | .normal=>R a w | .panic c=>a.defers=[]∧T c w | _=>False
theorem rp_norm {P:Program} {C:Code} {Q:Exit→Act→World→Prop} {a:Act} {w:World} (h:∀ (J:Act→World→Prop) (T:List PanicEntry→World→Prop),(∀ a' w',Q .normal a' w'→J a' w')→(∀ c w',(∀ a',a'.defers=[]→Q (.panic c) a' w')→T c w')→C.wp P (RpQ J T) a w):C.wp P Q a w :=
  Code.wp_mono (fun e a' w' hr=>by cases e <;> first | exact hr | exact hr.2 a' hr.1 | exact absurd hr id) (h (fun a w=>Q .normal a w) (fun c w=>∀ a',a'.defers=[]→Q (.panic c) a' w) (fun _ _ h=>h) (fun _ _ h=>h))
section
variable {P : Program} {ops : Array Oper} {Q : Exit → Act → World → Prop} {S : Array Bool → World → Prop}
theorem rp_call {a:Act} {w:World} {K:Act→World→Prop} (i:Nat) (o:Oper) (n:Nat) (fn:Func) (f:Operand) (args:Array Operand) (ts:Array TypeId) (vs:Array Value) (dd:Option Tmp)
    (hi:ops[i]? = some o) (hdd:o.dst=dd) (hw:Region.wanted o (yielded ops a.tmps)=true)
    (ho:o.op=.call { callee:=.value f,args:=args,argTypes:=ts }) (hff:a.eval f=.func (.func n) #[] #[]) (hfn:P.funcs[n]? = some fn) (hn:(fn.name == "runtime.NumGoroutine")=false) (hb:fn.body.isNone=false)
    (hv:args.map a.eval=vs) {Post:Ending→World→Prop} (C:Calls P n vs w Post) (h:∀ r w',Post r w'→(∃ v,r=.returned v∧K (a.put dd v) w')∨(∃ c,r=.panicked c∧Q (.panic c) a w')):wpOp P ops Q i K a w:=by
  subst hdd
  unfold wpOp
  simp only [hi]
  rw [if_pos hw]
  refine .inl ?_
  unfold Oper.wp
  rw [rg_enter w a.eval o n fn f args ts vs ho hff hfn hn hb hv,Oper.upon_enter]
  exact C.mono (fun r w' hp=>by
    rcases h r w' hp with ⟨v,rfl,hk⟩ | ⟨c,rfl,hq⟩
    · exact hk
    · exact hq)
theorem rp_storeM {a:Act} {w:World} {K:Act→World→Prop} (i:Nat) (o:Oper) (ty:TypeId) (x y:Operand) (b k:Nat) (cs:Array Value) (hi:ops[i]? = some o) (hdd:o.dst=none) (hw:Region.wanted o (yielded ops a.tmps)=true)
    (ho:o.op=.store ty x y) (hx:a.eval x=.pointer (some ⟨b,k,none⟩)) (hy:a.eval y=.agg cs) (h1:(P.info? ty).map (·.size)=some cs.size) (hone:∀ v∈cs,v.oneCell'=true)
    (hb:∀ j,j<cs.size→(w.cell? ⟨b,k+j,none⟩).isSome=true∧w.frozen? ⟨b,k+j,none⟩=false)
    (h:K a (w.setCells b k cs.toList)):wpOp P ops Q i K a w:=by
  unfold wpOp
  simp only [hi]
  rw [if_pos hw]
  refine .inl ?_
  refine wp_store_mid ty x y ho b k cs hx hy ?_ h1 ?_ ?_
  · intro j hj
    exact hb j hj
  · rw [Array.all_eq_true]
    intro j hj
    exact hone _ (Array.getElem_mem hj)
  · rw [hdd]
    exact h
end
end Go.Proofs.YtijaphbccnadbaaGreatDoor
namespace Go.Proofs.YtijaphbccnadbaaGreatDoor
open Go.Shelf Go.RowKit
theorem infoBuilder:∃ j,Tryz.prog.info? 62=some j∧j.size=2:=by
  obtain ⟨j,hj,hjs⟩:=Option.map_eq_some_iff.1 (show (Tryz.prog.info? 62).map (·.size)=some 2 by kernel_rfl)
  exact ⟨j,hj,hjs⟩
theorem lays240:Go.Proofs.Lays.n240 Tryz.prog lays166_ren:={ lays166 with }
/-- copyCheck at a fresh builder that lies in a writer: it stores its own address. -/
theorem ccW_fresh (b:Nat) (w:World) (h0:w.cell? ⟨b,0,none⟩=some (.pointer none)) (hsh:w.shape? b=some (64,2)) (hfz:w.frozen? ⟨b,0,none⟩=false) :
    Calls Tryz.prog 141 #[.pointer (some ⟨b,0,none⟩)] w fun e w'=>e=.returned (.tuple #[])∧w'=w.setCell ⟨b,0,none⟩ (.pointer (some ⟨b,0,none⟩)):=by
  obtain ⟨j,hj,hjs⟩:=infoBuilder
  go_enter Tryz.func141,Tryz.ntmps141
  go_wp2
  rw [Lib.run_to_unsafe w ⟨b,0,none⟩ Tryz.underlying59 Tryz.underlying182 hj (by rw [hjs];decide) hsh (Nat.zero_lt_succ 1)]
  simp only [Result.andThen]
  rw [Oper.upon_value]
  go_wp2
  rw [run_callFunc_extern Tryz.func177 (by kernel_rfl) (by kernel_rfl) (by kernel_rfl) (e:=Extern.AbiNoEscape.same) (by kernel_rfl)]
  rw [Lib.run_noEscape]
  simp only [Result.andThen]
  rw [Oper.upon_value]
  go_wp2
  rw [Lib.run_from_unsafe w ⟨b,0,none⟩ Tryz.underlying182 Tryz.underlying59 hj hsh (by kernel_rfl)]
  simp only [Result.andThen]
  rw [Oper.upon_value]
  go_wp2
  go_end0
  exact ⟨rfl,rfl⟩
def WrJ (B b:Nat) (l:List UInt8) (w:World):Prop:=Lib.IsBuilderF 64 5 B b (Lib.byteCells l) w
abbrev KepW (b:Nat) (w w':World):Prop:=Lib.OthersKept 5 (some b) w w'
theorem copyW (B b:Nat) (bs:List Value) (w:World) (h:Lib.IsBuilderF 64 5 B b bs w) :
    Calls Tryz.prog 141 #[.pointer (some ⟨b,0,none⟩)] w fun e w'=>e=.returned (.tuple #[])∧Lib.BuilderAtF 64 5 B b (.pointer (some ⟨b,0,none⟩)) bs w'∧Below B w w'∧KepW b w w':=by
  rcases h with h | h
  · refine (ccW_fresh b w h.cell0 h.shape h.frozen0).mono ?_
    rintro e w' ⟨rfl,rfl⟩
    exact ⟨rfl,h.used _,(Below.refl B w).setCell (p:=⟨b,0,none⟩) h.1 _,(Lib.OthersKept.refl _ _ w).setCell ⟨b,0,none⟩ rfl _⟩
  · refine (Any.Builder_copyCheck_used lays240 extra166.toX72 b w h.cell0).mono ?_
    rintro e w' ⟨rfl,rfl⟩
    exact ⟨rfl,h,Below.refl _ _,Lib.OthersKept.refl _ _ _⟩
theorem lenW (B b:Nat) (bs:List Value) (w:World) (h:Lib.IsBuilderF 64 5 B b bs w) :
    Calls Tryz.prog 94 #[.pointer (some ⟨b,0,none⟩)] w fun e w'=>e=.returned (.int .i64 bs.length)∧w'=w:=by
  obtain ⟨p,hB,v,hbk,hown,hne⟩:∃ p,Lib.BuilderAtF 64 5 B b p bs w:=by
    rcases h with h | h
    iterate 2
      · exact ⟨_,h⟩
  obtain ⟨ao,cap,rfl⟩:∃ ao cap,v=.slice ao bs.length cap:=by
    rcases hown.2 with ⟨hv,h0⟩ | ⟨g,cap,cur,fz,hv,_⟩
    · exact ⟨none,0,by rw [hv,h0]⟩
    · exact ⟨_,_,hv⟩
  have c1:w.cell? ⟨b,1,none⟩=some (.slice ao bs.length cap):=by rw [Lib.cell_of_heap hbk];rfl
  clear hown hbk hne
  go_enter Tryz.func94,Tryz.ntmps94
  go_wp2
  go_ret
  exact ⟨rfl,rfl⟩
theorem writeStringW (B b:Nat) (bs:List Value) (s:ByteArray) (w:World) (h:Lib.IsBuilderF 64 5 B b bs w) (hlen:bs.length+s.size≤140737488355328) (hBw:B≤w.heap.size) :
    Calls Tryz.prog 95 #[.pointer (some ⟨b,0,none⟩),.string s] w fun e w'=>e=.returned (.tuple #[.int .i64 s.size,.nilIface])∧Lib.BuilderAtF 64 5 B b (.pointer (some ⟨b,0,none⟩)) (bs++Lib.strCells s) w'∧Below B w w'∧KepW b w w':=by
  obtain ⟨i0,hi,hz0,hz1,hz2⟩:=info_parts extra166.infoByte
  have KC:=Lib.hid (copyW B b bs w h)
  clear h
  go_enter Tryz.func95,Tryz.ntmps95
  go_wp2_with fail
  refine KC.out.mono ?_
  rintro e w1 ⟨rfl,h1,hb1,hk1⟩
  obtain ⟨hB,v,hbk,hown,hne⟩:=h1
  have c0:w1.cell? ⟨b,0,none⟩=some (.pointer (some ⟨b,0,none⟩)):=by rw [Lib.cell_of_heap hbk];rfl
  have c1:w1.cell? ⟨b,1,none⟩=some v:=by rw [Lib.cell_of_heap hbk];rfl
  go_wp2_with (at_builtin;refine Lib.wpList_append_own_stringF _ rfl _ _ 60 9 rfl B 5 i0 Tryz.underlying60 Tryz.underlying9 hi hz0 hz1 hz2 _ _ _ rfl hown s rfl ?c3 ?c4 ?c5 ?_)
  case c3=>unfold maxLen;omega
  case c4=>omega
  case c5=>have:=hb1.size;omega
  intro v' w2 hown' hgrow _
  have hlt:b<w1.heap.size:=(Array.getElem?_eq_some_iff.1 hbk).1
  have hb2:w2.heap[b]? = some (.cells #[.pointer (some ⟨b,0,none⟩),v] 64 (0,0)):=by
    rw [hgrow.block b hlt (fun e=>hne e.symm)]
    exact hbk
  have d0:w2.cell? ⟨b,0,none⟩=some (.pointer (some ⟨b,0,none⟩)):=by rw [Lib.cell_of_heap hb2];rfl
  have d1:w2.cell? ⟨b,1,none⟩=some v:=by rw [Lib.cell_of_heap hb2];rfl
  have f1:w2.frozen? ⟨b,1,none⟩=false:=Lib.frozen_of_heap hb2 1
  obtain ⟨ao,n',cap,rfl⟩:∃ ao n' cap,v'=.slice ao n' cap:=by
    rcases hown'.2 with ⟨hv,_⟩ | ⟨g,cap,cur,fz,hv,_⟩
    iterate 2
      · exact ⟨_,_,_,hv⟩
  have HP:=Lib.hid (Lib.BuilderAtF.put (T:=64) (e:=5) hB hb2 (bs':=bs++Lib.strCells s) (by simpa [Lib.strCells_length] using hown') (by decide))
  have HBB:=Lib.hid ((hb1.grown hgrow (by have:=hb1.size;omega) (fun k hk=>(hown.lt k hk).1)).setCell (p:=⟨b,1,none⟩) hB (.slice ao n' cap))
  have HKK:=Lib.hid ((hk1.grown hgrow (Lib.ownsRowF_kind hown)).setCell ⟨b,1,none⟩ rfl (.slice ao n' cap))
  clear hown hown' hgrow hbk hb2 hb1 hk1 KC
  go_wp2
  go_ret2
  exact ⟨rfl,HP.out,HBB.out,HKK.out⟩
theorem cell_freeze (w:World) {g b j:Nat} (n:Nat) (h:b ≠ g):(w.freeze ⟨g,0,none⟩ n).cell? ⟨b,j,none⟩=w.cell? ⟨b,j,none⟩:=by
  apply World.cell?_of_block (a:=⟨b,j,none⟩)
  unfold World.freeze
  split
  · rfl
  · simp [Array.getElem?_modify,h.symm]
theorem ex_usd {P:Program} (w:World) (ev:Operand→Value) (o:Oper) (x:Operand) (ts:Array TypeId) (a:Addr) (n c:Nat) (ho:o.op=.call { callee:=.builtin .unsafeSliceData,args:=#[x],argTypes:=ts }) (hx:ev x=.slice (some a) n c) (hc:c ≠ 0) :
    (execOp ev o).run P w=.ok (.value (.pointer (some a))) w:=by
  have:=Lib.run_unsafeSliceData_row (P:=P) (w:=w) ts o.type a n c hc
  unfold execOp
  simp only [ho,resolve,invoke,builtin,Sem.run_bind,Sem.run_pure,Result.andThen_ok,List.map_toArray,List.map_cons,List.map_nil,hx,this]
theorem ex_us {P:Program} (w w':World) (ev:Operand→Value) (o:Oper) (x y:Operand) (ts:Array TypeId) (vx vy v:Value) (ho:o.op=.call { callee:=.builtin .unsafeString,args:=#[x,y],argTypes:=ts }) (hx:ev x=vx) (hy:ev y=vy) (hr:(Builtin.unsafeString_ ts o.type #[vx,vy]).run P w=.ok v w') :
    (execOp ev o).run P w=.ok (.value v) w':=by
  unfold execOp
  simp only [ho,resolve,invoke,builtin,Sem.run_bind,Sem.run_pure,Result.andThen_ok,List.map_toArray,List.map_cons,List.map_nil,hx,hy,hr]
theorem stringW (B b:Nat) (l:List UInt8) (w:World) (h:WrJ B b l w) (h0:l ≠ []) :
    Calls Tryz.prog 34 #[.pointer (some ⟨b,0,none⟩)] w fun e w'=>e=.returned (.string ⟨l.toArray⟩)∧Below B w w'∧KepW b w w':=by
  obtain ⟨p,hB,v,hbk,hown,hne⟩:∃ p,Lib.BuilderAtF 64 5 B b p (Lib.byteCells l) w:=by
    rcases h with h | h
    iterate 2
      · exact ⟨_,h⟩
  have hl0:l.length ≠ 0:=by simpa using h0
  rw [Lib.byteCells_length] at hown
  obtain ⟨g,cap,cur,fz,rfl,hbg,hg,hfz,hnc,hcm,hcs,htake⟩:∃ g cap cur fz,v=.slice (some ⟨g,0,none⟩) l.length cap∧B≤g∧w.heap[g]? = some (.cells cur 5 fz)∧fz.2≤l.length*1∧l.length≤cap∧cap≤maxLen∧cur.size=cap*1∧cur.toList.take (l.length*1)=Lib.byteCells l:=by
    rcases hown.2 with ⟨_,hz⟩ | ⟨g,cap,cur,fz,hv,r⟩
    · exact absurd hz hl0
    · exact ⟨g,cap,cur,fz,hv,r⟩
  have c1:w.drew.cell? ⟨b,1,none⟩=some (.slice (some ⟨g,0,none⟩) l.length cap):=by
    have:w.drew.heap[b]? = some (.cells #[p,.slice (some ⟨g,0,none⟩) l.length cap] 64 (0,0)):=hbk
    rw [Lib.cell_of_heap this];rfl
  have hSD:(Builtin.unsafeSliceData_ #[60] 87 #[.slice (some ⟨g,0,none⟩) l.length cap]).run Tryz.prog w.drew=.ok (.pointer (some ⟨g,0,none⟩)) w.drew :=
    Lib.run_unsafeSliceData_row _ _ _ _ _ _ (by omega)
  have hUS:(Builtin.unsafeString_ #[87,3] 9 #[.pointer (some ⟨g,0,none⟩),.int .i64 l.length]).run Tryz.prog w.drew=.ok (.string ⟨l.toArray⟩) (w.drew.freeze ⟨g,0,none⟩ l.length):=by
    refine Lib.run_unsafeString_row w.drew 87 3 9 5 Tryz.underlying87 extra166.cellsByte g cur.size (by have hg':w.drew.heap[g]? = some (.cells cur 5 fz):=hg;simp [World.shape?,hg']) l h0 (by omega) (by unfold maxLen at hcm;omega) ?_
    intro j x hx
    have:=hown.cells (g:=g) rfl j (.int .u8 x.toNat) (by simp [Lib.byteCells,hx])
    exact this
  have HF:=Lib.hid (And.intro (Lib.below_freeze (Below.drew (Below.refl B w)) (p:=⟨g,0,none⟩) hbg l.length) (((Lib.OthersKept.refl 5 (some b) w).drew).freeze ⟨g,0,none⟩ l.length ⟨cur,fz,hg⟩))
  have hc0:cap ≠ 0:=by omega
  have hbg2:b ≠ g:=fun e=>hne (by show some g=some b;rw [e])
  clear hown hbk hne hg htake hcs
  go_enter Tryz.func34,Tryz.ntmps34
  go_upto_region 1 with fail
  refine rc_norm (fun J hJ=>?_)
  have HJ:=Lib.hid hJ
  clear hJ
  refine rl_start (S:=fun _ W=>W.cell? ⟨b,1,none⟩=some (.slice (some ⟨g,0,none⟩) l.length cap)) (by kernel_rfl) c1 (fun hC hS=>?_)
  refine rl_pure 0 _ (.pointer (some ⟨b,0,none⟩)) (some 3) rfl (by kernel_rfl) (by kernel_rfl) (by kernel_rfl) (by kernel_rfl) (fun _ _ _ h=>h) (fun _ _=>Iff.rfl) (by kernel_rfl) (fun w=>by kernel_rfl) hC hS (fun hC hS=>?_)
  refine rl_pure 1 _ (.pointer (some ⟨b,0,none⟩)) (some 4) rfl (by kernel_rfl) (by kernel_rfl) (by kernel_rfl) (by kernel_rfl) (fun _ _ _ h=>h) (fun _ _=>Iff.rfl) (by kernel_rfl) (fun w=>by kernel_rfl) hC hS (fun hC hS=>?_)
  refine rl_pure 2 _ (.pointer (some ⟨b,1,none⟩)) (some 5) rfl (by kernel_rfl) (by kernel_rfl) (by kernel_rfl) (by kernel_rfl) (fun _ _ _ h=>h) (fun _ _=>Iff.rfl) (by kernel_rfl) (fun w=>by kernel_rfl) hC hS (fun hC hS=>?_)
  refine rl_load1 3 _ 60 (.tmp 5) ⟨b,1,none⟩ (.slice (some ⟨g,0,none⟩) l.length cap) _ (some 6) rfl (by kernel_rfl) (by kernel_rfl) (by kernel_rfl) (by kernel_rfl) (fun _ _ _ h=>h) (fun _ _=>Iff.rfl) (by kernel_rfl) rfl (by kernel_rfl) Tryz.underlying60 rfl (fun L W hC h1 hS=>hS) hC hS (fun hC hS=>?_)
  refine rl_pure 4 _ (.pointer (some ⟨g,0,none⟩)) (some 7) rfl (by kernel_rfl) (by kernel_rfl) (by kernel_rfl) (by kernel_rfl) (fun _ _ _ h=>h) (fun _ _=>Iff.rfl) (by kernel_rfl) (fun w=>ex_usd w _ _ _ _ ⟨g,0,none⟩ l.length cap rfl (by kernel_rfl) hc0) hC hS (fun hC hS=>?_)
  refine rl_pure 5 _ (.pointer (some ⟨b,0,none⟩)) (some 8) rfl (by kernel_rfl) (by kernel_rfl) (by kernel_rfl) (by kernel_rfl) (fun _ _ _ h=>h) (fun _ _=>Iff.rfl) (by kernel_rfl) (fun w=>by kernel_rfl) hC hS (fun hC hS=>?_)
  refine rl_pure 6 _ (.pointer (some ⟨b,0,none⟩)) (some 9) rfl (by kernel_rfl) (by kernel_rfl) (by kernel_rfl) (by kernel_rfl) (fun _ _ _ h=>h) (fun _ _=>Iff.rfl) (by kernel_rfl) (fun w=>by kernel_rfl) hC hS (fun hC hS=>?_)
  refine rl_pure 7 _ (.pointer (some ⟨b,1,none⟩)) (some 10) rfl (by kernel_rfl) (by kernel_rfl) (by kernel_rfl) (by kernel_rfl) (fun _ _ _ h=>h) (fun _ _=>Iff.rfl) (by kernel_rfl) (fun w=>by kernel_rfl) hC hS (fun hC hS=>?_)
  refine rl_load1 8 _ 60 (.tmp 10) ⟨b,1,none⟩ (.slice (some ⟨g,0,none⟩) l.length cap) _ (some 11) rfl (by kernel_rfl) (by kernel_rfl) (by kernel_rfl) (by kernel_rfl) (fun _ _ _ h=>h) (fun _ _=>Iff.rfl) (by kernel_rfl) rfl (by kernel_rfl) Tryz.underlying60 rfl (fun L W hC h1 hS=>hS) hC hS (fun hC hS=>?_)
  refine rl_pure 9 _ (.int .i64 ((l.length:Nat):Int)) (some 12) rfl (by kernel_rfl) (by kernel_rfl) (by kernel_rfl) (by kernel_rfl) (fun _ _ _ h=>h) (fun _ _=>Iff.rfl) (by kernel_rfl) (fun w=>by kernel_rfl) hC hS (fun hC hS=>?_)
  refine rl_all [10] (by kernel_rfl) (by simp) hC (rl_one _ ?_)
  refine rl_val 10 _ (.string ⟨l.toArray⟩) (w.drew.freeze ⟨g,0,none⟩ l.length) (some 13) rfl (by kernel_rfl) (by kernel_rfl) (ex_us w.drew _ _ _ _ _ _ _ _ _ rfl (by kernel_rfl) (by kernel_rfl) hUS) ?_
  refine rl_and (by rw [show (w.drew.freeze ⟨g,0,none⟩ l.length).cell? ⟨b,1,none⟩=w.drew.cell? ⟨b,1,none⟩ from cell_freeze _ _ hbg2];exact c1) (fun hS hC=>?_)
  refine rl_pure 11 _ (.string ⟨l.toArray⟩) (some 2) rfl (by kernel_rfl) (by kernel_rfl) (by kernel_rfl) (by kernel_rfl) (fun _ _ _ h=>h) (fun _ _=>Iff.rfl) (by kernel_rfl) (fun w=>by kernel_rfl) hC hS (fun hC hS=>?_)
  refine rl_done (by kernel_rfl) ?_ _
  refine HJ.out _ _ ?_
  clear HJ hS hC c1 hSD hUS
  simp only [Act.put,List.setIfInBounds_toArray,List.set_cons_zero,List.set_cons_succ]
  go_wp2
  go_ret
  exact ⟨rfl,HF.out.1,HF.out.2⟩
end Go.Proofs.YtijaphbccnadbaaGreatDoor
namespace Go.Proofs.YtijaphbccnadbaaGreatDoor
open Go.RowKit Go.Shelf Go.Lib
theorem trimJ (s cutset:ByteArray) (w:World) (hcs:cutset.size<4294967281) (hascii:∀ (j:Nat) b,cutset.data.toList[j]? = some b→b.toNat<128) :
    Calls Tryz.prog 51 #[.string s,.string cutset] w fun e w'=>e=.returned (.string ⟨(Lib.trimLeftS s.data.toList cutset.data.toList).toArray⟩)∧Below w.heap.size w w' :=
  Any.strings_TrimLeft_ascii Tryz.lays161 (fun w=>by kernel_rfl) (by kernel_rfl) s cutset w hcs hascii
def blanksL:List UInt8:=[9,10,13,32]
def skipL (l:List UInt8):List UInt8:=Lib.trimLeftS l blanksL
def nextL (l:List UInt8):UInt8:=(skipL l).headD 0
theorem skipL_len (l:List UInt8):(skipL l).length≤l.length:=by
  unfold skipL Lib.trimLeftS;exact (List.dropWhile_sublist _).length_le
theorem skipL_skipL (l:List UInt8):skipL (skipL l)=skipL l:=by
  unfold skipL Lib.trimLeftS
  induction l with
  | nil=>rfl
  | cons x l ih =>
    rw [List.dropWhile_cons]
    split
    · exact ih
    · rename_i h;rw [List.dropWhile_cons,if_neg h]
structure Oth (g:Nat) (w w':World):Prop where
  os:w'.os=w.os
  tape:w'.tape=w.tape
  output:w'.output=w.output
  size:w.heap.size≤w'.heap.size
  block:∀ k,k<w.heap.size→k ≠ g→w'.heap[k]? = w.heap[k]?
theorem Oth.refl (g:Nat) (w:World):Oth g w w:=⟨rfl,rfl,rfl,Nat.le_refl _,fun _ _ _=>rfl⟩
theorem Oth.trans {g:Nat} {a b c:World} (h:Oth g a b) (k:Oth g b c):Oth g a c :=
  ⟨k.os.trans h.os,k.tape.trans h.tape,k.output.trans h.output,Nat.le_trans h.size k.size,fun i hi hg=>(k.block i (Nat.lt_of_lt_of_le hi h.size) hg).trans (h.block i hi hg)⟩
theorem Oth.of_below {g:Nat} {w w':World} (h:Below w.heap.size w w'):Oth g w w':=⟨h.os,h.tape,h.output,h.size,fun k hk _=>h.block k hk⟩
theorem Oth.drew {g:Nat} {a w:World} (h:Oth g a w):Oth g a w.drew:=h.trans ⟨rfl,rfl,rfl,Nat.le_refl _,fun _ _ _=>rfl⟩
theorem Oth.setCell {g:Nat} {a w:World} (h:Oth g a w) (i:Nat) (v:Value):Oth g a (w.setCell ⟨g,i,none⟩ v) :=
  h.trans ⟨rfl,rfl,rfl,by simp [World.setCell],fun k hk hg=>Below.heap_setCell _ _ _ _ (by simpa using hg)⟩
theorem Oth.below {g:Nat} {w w':World} (h:Oth g w w') {B:Nat} (hg:B≤g) (hB:B≤w.heap.size):Below B w w' :=
  ⟨h.os,h.tape,h.output,h.size,fun k hk=>h.block k (Nat.lt_of_lt_of_le hk hB) (by omega)⟩
def RdJ (g:Nat) (l:List UInt8) (d n:Nat) (w:World):Prop:=w.heap[g]? = some (.cells #[.string ⟨l.toArray⟩,.int .i64 (d:Int),.int .i64 (n:Int)] 51)
theorem RdJ.lt {g:Nat} {l:List UInt8} {d n:Nat} {w:World} (h:RdJ g l d n w):g<w.heap.size:=by
  unfold RdJ at h;exact (Array.getElem?_eq_some_iff.1 h).1
theorem RdJ.c0 {g:Nat} {l:List UInt8} {d n:Nat} {w:World} (h:RdJ g l d n w):w.cell? ⟨g,0,none⟩=some (.string ⟨l.toArray⟩):=by
  unfold RdJ at h;simp [World.cell?,h]
theorem RdJ.c1 {g:Nat} {l:List UInt8} {d n:Nat} {w:World} (h:RdJ g l d n w):w.cell? ⟨g,1,none⟩=some (.int .i64 (d:Int)):=by
  unfold RdJ at h;simp [World.cell?,h]
theorem RdJ.c2 {g:Nat} {l:List UInt8} {d n:Nat} {w:World} (h:RdJ g l d n w):w.cell? ⟨g,2,none⟩=some (.int .i64 (n:Int)):=by
  unfold RdJ at h;simp [World.cell?,h]
theorem RdJ.fz {g:Nat} {l:List UInt8} {d n:Nat} {w:World} (h:RdJ g l d n w) (i:Nat):w.frozen? ⟨g,i,none⟩=false:=by
  unfold RdJ at h;simp [World.frozen?,h]
theorem RdJ.on {g:Nat} {l:List UInt8} {d n:Nat} {w w':World} (h:RdJ g l d n w) (hb:Below w.heap.size w w'):RdJ g l d n w':=by
  have:=hb.block g h.lt
  unfold RdJ at *;rw [this];exact h
structure StJ (g:Nat) (l:List UInt8) (d n:Nat) (w w':World):Prop where
  oth:Oth g w w'
  rd:RdJ g l d n w'
theorem StJ.trans {g:Nat} {l l':List UInt8} {d n d' n':Nat} {w w1 w2:World} (h:StJ g l d n w w1) (k:StJ g l' d' n' w1 w2):StJ g l' d' n' w w2:=⟨h.oth.trans k.oth,k.rd⟩
theorem StJ.of_below {g:Nat} {l:List UInt8} {d n:Nat} {w w':World} (h:RdJ g l d n w) (hb:Below w.heap.size w w'):StJ g l d n w w':=⟨.of_below hb,h.on hb⟩
theorem StJ.drew {g:Nat} {l:List UInt8} {d n:Nat} {a w:World} (h:StJ g l d n a w):StJ g l d n a w.drew:=⟨h.oth.drew,h.rd⟩
theorem StJ.left {g:Nat} {l l':List UInt8} {d n:Nat} {a w:World} (h:StJ g l d n a w):StJ g l' d n a (w.setCell ⟨g,0,none⟩ (.string ⟨l'.toArray⟩)):=by
  refine ⟨h.oth.setCell _ _,?_⟩
  have:=h.rd
  unfold RdJ at *
  simp [World.setCell,Array.getElem?_modify,this]
theorem StJ.depth {g:Nat} {l:List UInt8} {d n d':Nat} {a w:World} (h:StJ g l d n a w):StJ g l d' n a (w.setCell ⟨g,1,none⟩ (.int .i64 (d':Int))):=by
  refine ⟨h.oth.setCell _ _,?_⟩
  have:=h.rd
  unfold RdJ at *
  simp [World.setCell,Array.getElem?_modify,this]
theorem StJ.nodes {g:Nat} {l:List UInt8} {d n n':Nat} {a w:World} (h:StJ g l d n a w):StJ g l d n' a (w.setCell ⟨g,2,none⟩ (.int .i64 (n':Int))):=by
  refine ⟨h.oth.setCell _ _,?_⟩
  have:=h.rd
  unfold RdJ at *
  simp [World.setCell,Array.getElem?_modify,this]
def ThrowJ (x:Int) (g:Nat) (w:World) (e:Ending) (w':World):Prop:=e=.panicked [{ v:=.iface 31 (.int .i64 x),recovered:=false }]∧∃ l d n,StJ g l d n w w'
theorem ThrowJ.on {x:Int} {g:Nat} {l:List UInt8} {d n:Nat} {w w1 w':World} {e:Ending} (h:StJ g l d n w w1) (h2:ThrowJ x g w1 e w'):ThrowJ x g w e w':=by
  obtain ⟨he,l,d,n,hj⟩:=h2
  exact ⟨he,l,d,n,h.trans hj⟩
def DoneJ (g:Nat) (l:List UInt8) (d n:Nat) (w:World) (e:Ending) (w':World):Prop:=e=.returned (.tuple #[])∧StJ g l d n w w'
theorem skip_any (g:Nat) (l:List UInt8) (d n:Nat) (w:World) (hr:RdJ g l d n w) :
    Calls Tryz.prog 26 #[.pointer (some ⟨g,0,none⟩)] w (DoneJ g (skipL l) d n w):=by
  have K:=Lib.hid (trimJ ⟨l.toArray⟩ ⟨#[9,10,13,32]⟩ w (by decide) (by
    intro j b hb
    match j with
    | 0 | 1 | 2 | 3=>injection hb with hb;subst hb;decide
    | j+4=>cases hb))
  have H0:=Lib.hid hr
  have c0:=hr.c0
  have f0:=hr.fz 0
  clear hr
  go_enter Tryz.func26,Tryz.ntmps26
  go_wp2_with fail
  refine K.out.mono ?_
  rintro r w1 ⟨rfl,hb⟩
  have F1:=Lib.hid ((H0.out.on hb).fz 0)
  have HB:=Lib.hid (StJ.of_below H0.out hb)
  have c1:=(H0.out.on hb).c0
  have f1:=F1.out
  clear c0 f0 hb
  go_wp2
  exact bodyPost_ret (v:=.tuple #[]) (by simp [results,Tryz.results26,go_sem]) rfl ⟨rfl,HB.out.left⟩
theorem nextL_nil {l:List UInt8} (h:skipL l=[]):nextL l=0:=by unfold nextL;rw [h];rfl
theorem nextL_cons {l r:List UInt8} {x:UInt8} (h:skipL l=x::r):nextL l=x:=by unfold nextL;rw [h];rfl
def NextJ (g:Nat) (l:List UInt8) (d n:Nat) (w:World) (e:Ending) (w':World):Prop:=e=.returned (.int .u8 (((nextL l).toNat:Nat):Int))∧StJ g (skipL l) d n w w'
theorem next_any (g:Nat) (l:List UInt8) (d n:Nat) (w:World) (hr:RdJ g l d n w) :
    Calls Tryz.prog 45 #[.pointer (some ⟨g,0,none⟩)] w (NextJ g l d n w):=by
  have K:=Lib.hid (skip_any g l d n w hr)
  clear hr
  go_enter Tryz.func45,Tryz.ntmps45
  go_wp2_with fail
  refine K.out.mono ?_
  rintro r w1 ⟨rfl,h1⟩
  have H1:=Lib.hid h1
  have c0:=h1.rd.c0
  have f0:=h1.rd.fz 0
  clear h1
  cases hs:skipL l with
  | nil =>
    have HS:=Lib.hid hs
    rw [hs] at c0
    clear hs
    go_wp2
    go_ret
    exact ⟨by rw [nextL_nil HS.out];rfl,H1.out⟩
  | cons x r =>
    have HS:=Lib.hid hs
    rw [hs] at c0
    clear hs
    go_wp2
    go_ret
    exact ⟨by rw [nextL_cons HS.out];rfl,H1.out⟩
def TakeJ (g:Nat) (c:UInt8) (l:List UInt8) (d n:Nat) (w:World) (e:Ending) (w':World):Prop :=
  (nextL l=c∧e=.returned (.bool true)∧StJ g (skipL l).tail d n w w')∨(nextL l ≠ c∧e=.returned (.bool false)∧StJ g (skipL l) d n w w')
theorem head_cons {l:List UInt8} {c:UInt8} (h0:c ≠ 0) (h:nextL l=c):∃ r,skipL l=c::r:=by
  unfold nextL at h
  cases hs:skipL l with
  | nil=>rw [hs] at h;exact absurd h.symm h0
  | cons x r=>rw [hs] at h;simp at h;subst h;exact ⟨r,rfl⟩
theorem str_tail (c:UInt8) (r:List UInt8):({ data:=(c::r).toArray }:ByteArray).extract 1 ({ data:=(c::r).toArray }:ByteArray).size = { data:=r.toArray }:=by
  apply ByteArray.ext
  apply Array.ext'
  simp [ByteArray.data_extract,ByteArray.size]
theorem take_anyj (g:Nat) (c:UInt8) (h0:c ≠ 0) (l:List UInt8) (d n:Nat) (w:World) (hl:l.length≤1000000) (hr:RdJ g l d n w) :
    Calls Tryz.prog 122 #[.pointer (some ⟨g,0,none⟩),.int .u8 ((c.toNat:Nat):Int)] w (TakeJ g c l d n w):=by
  have K:=Lib.hid (next_any g l d n w hr)
  have hlen:=skipL_len l
  clear hr
  go_enter Tryz.func122,Tryz.ntmps122
  go_wp2_with fail
  refine K.out.mono ?_
  rintro r w1 ⟨rfl,h1⟩
  have H1:=Lib.hid h1
  have c0:=h1.rd.c0
  have f0:=h1.rd.fz 0
  clear h1
  by_cases hx:nextL l=c
  · obtain ⟨r,hs⟩:=head_cons h0 hx
    have HX:=Lib.hid hx
    have HS:=Lib.hid hs
    have hrl:r.length+1≤1000000:=by rw [hs] at hlen;simp at hlen;omega
    rw [hs] at c0
    rw [hx]
    have hbe:(((c.toNat:Nat):Int) != ((c.toNat:Nat):Int))=false:=by simp
    have hsz:({ data:=(c::r).toArray }:ByteArray).size=r.length+1:=by simp [ByteArray.size]
    have hext:=str_tail c r
    rw [hsz] at hext
    clear hs hx hlen
    generalize ({ data:=(c::r).toArray }:ByteArray)=s at *
    go_wp2
    go_ret
    refine .inl ⟨HX.out,rfl,?_⟩
    have:=H1.out.left (l':=r)
    rw [HS.out]
    simpa [hext,hsz] using this
  · have HX:=Lib.hid hx
    have hne:(nextL l).toNat ≠ c.toNat:=fun e=>hx (UInt8.toNat_inj.1 e)
    have hbe:((((nextL l).toNat:Nat):Int) != ((c.toNat:Nat):Int))=true:=by rw [bne_iff_ne];omega
    clear hx hne
    go_wp2
    go_ret
    exact .inr ⟨HX.out,rfl,H1.out⟩
def MustJ (g:Nat) (c:UInt8) (l:List UInt8) (d n:Nat) (w:World) (e:Ending) (w':World):Prop :=
  (nextL l=c∧DoneJ g (skipL l).tail d n w e w')∨(nextL l ≠ c∧ThrowJ 2 g w e w')
theorem must_any (g:Nat) (c:UInt8) (h0:c ≠ 0) (l:List UInt8) (d n:Nat) (w:World) (hl:l.length≤1000000) (hr:RdJ g l d n w) :
    Calls Tryz.prog 79 #[.pointer (some ⟨g,0,none⟩),.int .u8 ((c.toNat:Nat):Int)] w (MustJ g c l d n w):=by
  have K:=Lib.hid (take_anyj g c h0 l d n w hl hr)
  clear hr
  go_enter Tryz.func79,Tryz.ntmps79
  go_wp2_with fail
  refine K.out.mono ?_
  rintro r w1 (⟨hx,rfl,h1⟩ | ⟨hx,rfl,h1⟩)
  · have H1:=Lib.hid h1;clear h1
    have HX:=Lib.hid hx;clear hx
    go_wp2
    exact bodyPost_ret (v:=.tuple #[]) (by simp [results,Tryz.results79,go_sem]) rfl (.inl ⟨HX.out,rfl,H1.out⟩)
  · have H1:=Lib.hid h1;clear h1
    have HX:=Lib.hid hx;clear hx
    go_wp2
    exact ⟨rfl,.inr ⟨HX.out,rfl,_,_,_,H1.out⟩⟩
def EnterJ (g a:Nat) (l:List UInt8) (d n:Nat) (w:World) (e:Ending) (w':World):Prop :=
  (a<300∧d≤64∧n<2000∧DoneJ g l d (n+1) w e w')∨(¬ (a<300∧d≤64∧n<2000)∧ThrowJ 4 g w e w')
theorem enter_any (g a:Nat) (l:List UInt8) (d n:Nat) (w:World) (ha:a≤1000000) (hd:d≤1000000) (hn:n≤1000000) (hr:RdJ g l d n w) :
    Calls Tryz.prog 123 #[.pointer (some ⟨g,0,none⟩),.int .i64 (a:Int)] w (EnterJ g a l d n w):=by
  have H0:Hid (StJ g l d (n+1) w (w.setCell ⟨g,2,none⟩ (.int .i64 ((n:Int)+1)))):=Lib.hid ((StJ.of_below hr (Below.refl _ _)).nodes (n':=n+1))
  have c1:(w.setCell ⟨g,2,none⟩ (.int .i64 ((n:Int)+1))).cell? ⟨g,1,none⟩=some (.int .i64 (d:Int)):=H0.out.rd.c1
  have c3:(w.setCell ⟨g,2,none⟩ (.int .i64 ((n:Int)+1))).cell? ⟨g,2,none⟩=some (.int .i64 ((n:Int)+1)):=H0.out.rd.c2
  have c2:=hr.c2
  have f2:=hr.fz 2
  clear hr
  by_cases b1:a<300
  · have d1:decide ((300:Int)≤(a:Int))=false:=decide_eq_false (by omega)
    by_cases b2:d≤64
    · have d2:decide ((64:Int)<(d:Int))=false:=decide_eq_false (by omega)
      by_cases b3:n<2000
      · have d3:decide ((2000:Int)<(n:Int)+1)=false:=decide_eq_false (by omega)
        have HB:=Lib.hid (And.intro b1 (And.intro b2 b3))
        clear b1 b2 b3
        go_enter Tryz.func123,Tryz.ntmps123
        go_wp2
        exact bodyPost_ret (v:=.tuple #[]) (by simp [results,Tryz.results123,go_sem]) rfl (.inl ⟨HB.out.1,HB.out.2.1,HB.out.2.2,rfl,H0.out⟩)
      · have d3:decide ((2000:Int)<(n:Int)+1)=true:=decide_eq_true (by omega)
        have HB:Hid (¬ (a<300∧d≤64∧n<2000)):=Lib.hid (fun h=>b3 h.2.2)
        clear b1 b2 b3
        go_enter Tryz.func123,Tryz.ntmps123
        go_wp2
        exact ⟨rfl,.inr ⟨HB.out,rfl,_,_,_,H0.out⟩⟩
    · have d2:decide ((64:Int)<(d:Int))=true:=decide_eq_true (by omega)
      have HB:Hid (¬ (a<300∧d≤64∧n<2000)):=Lib.hid (fun h=>b2 h.2.1)
      clear b1 b2
      go_enter Tryz.func123,Tryz.ntmps123
      go_wp2
      exact ⟨rfl,.inr ⟨HB.out,rfl,_,_,_,H0.out⟩⟩
  · have d1:decide ((300:Int)≤(a:Int))=true:=decide_eq_true (by omega)
    have HB:Hid (¬ (a<300∧d≤64∧n<2000)):=Lib.hid (fun h=>b1 h.1)
    clear b1
    go_enter Tryz.func123,Tryz.ntmps123
    go_wp2
    exact ⟨rfl,.inr ⟨HB.out,rfl,_,_,_,H0.out⟩⟩
end Go.Proofs.YtijaphbccnadbaaGreatDoor
