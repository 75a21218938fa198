/- Texts of the claim. -/
import Derived.Test.YtnacbakcalcgaaaGreatDoorEP
import Derived.Deep.CutRange
import Derived.Lib.QuietBelow
import Derived.Laws.BitsAllLaws
import Derived.IntWalk
import Derived.Deep.RegionHeldLaw
import Derived.Deep.DeepCutAuto
import Derived.Test.YtnacbakcalcgaaaGreatDoorEN
set_option linter.unusedVariables false
set_option linter.unusedSimpArgs false
set_option maxHeartbeats 16000000
set_option maxRecDepth 100000
namespace Go.Proofs.YtnacbakcalcgaaaGreatDoor
open Go.RowKit



end Go.Proofs.YtnacbakcalcgaaaGreatDoor
namespace Go.Proofs.YtnacbakcalcgaaaGreatDoor
open Go.RowKit Go.Sort
theorem step_callR {w:World} {ops:Array Oper} {o:Oper} {a:Act} {K:Act→World→Prop} {Q:Exit→Act→World→Prop} {E:Prop} (hgd:o.guard=none) (n:Nat) (fn:Func) (hf:Tryz.prog.funcs[n]? = some fn) (hn:(fn.name == "runtime.NumGoroutine")=false) (hb:fn.body.isNone=false)
    (args:Array Operand) (ts:Array TypeId) (ho:o.op=.call { callee:=.value (.func n),args:=args,argTypes:=ts }) (vs:Array Value) (hv:args.map a.eval=vs) {Post:Ending→World→Prop} (C:Calls Tryz.prog n vs w Post)
    (h:∀ r w',Post r w'→∃ v,r=.returned v∧K (a.put o.dst v) w') :
    if Region.wanted o (yielded ops a.tmps)=true then Oper.wp Tryz.prog o a w K Q else E:=by
  have hw:Region.wanted o (yielded ops a.tmps)=true:=by simp [Region.wanted,hgd]
  rw [if_pos hw]
  have hx:(execOp a.eval o).run Tryz.prog w=.ok (.enter n vs) w:=by
    have e0:a.eval (.func n)=.func (.func n) #[] #[]:=rfl
    simp [execOp,ho,resolve,Deferred.ofValue,invoke,callFunc,hf,hv,e0,go_sem]
    rw [if_neg (by simpa using hn),if_neg (by intro h0;rw [h0] at hb;cases hb)]
  unfold Oper.wp
  rw [hx,Oper.upon_enter]
  exact C.mono (fun r w' hp=>by obtain ⟨v,rfl,hk⟩:=h r w' hp;exact hk)


structure BxZ (w:World) (g:Nat):Prop where
  lt:g<w.heap.size
  c0:w.cell? ⟨g,0,none⟩=some (.bool false)
  c1:w.cell? ⟨g,1,none⟩=some (.slice none 0 0)
  c2:w.cell? ⟨g,2,none⟩=some (.int .i64 0)
  f0:w.frozen? ⟨g,0,none⟩=false
  f1:w.frozen? ⟨g,1,none⟩=false
  f2:w.frozen? ⟨g,2,none⟩=false
theorem BxZ.step {w w':World} {g:Nat} (h:BxZ w g) (hb:Below w.heap.size w w'):BxZ w' g :=
  ⟨Nat.lt_of_lt_of_le h.lt hb.size,(hb.cell (p:=⟨g,0,none⟩) h.lt).trans h.c0,(hb.cell (p:=⟨g,1,none⟩) h.lt).trans h.c1,(hb.cell (p:=⟨g,2,none⟩) h.lt).trans h.c2,
    (hb.frozen (p:=⟨g,0,none⟩) h.lt).trans h.f0,(hb.frozen (p:=⟨g,1,none⟩) h.lt).trans h.f1,(hb.frozen (p:=⟨g,2,none⟩) h.lt).trans h.f2⟩
theorem bxz_new (w:World):BxZ (w.alloc (.cells #[.bool false,.slice none 0 0,.int .i64 0] 25)) w.heap.size:=⟨by simp,by simp,by simp,by simp,by simp,by simp,by simp⟩
theorem BxZ.alloc {w:World} {g:Nat} (h:BxZ w g) (o:Obj):BxZ (w.alloc o) g:=h.step ((Below.refl _ _).alloc (Nat.le_refl _) _)
theorem BxZ.stepD {w w':World} {g:Nat} (h:BxZ w g) (hb:Below w.drew.heap.size w.drew w'):BxZ w' g:=h.step ((below_drew (Below.refl _ _)).trans hb)
theorem bx_far {w:World} {g h:Nat} {neg:Bool} {v:Value} {e:Int} (hb:Bx w g neg v e) (hne:g ≠ h) (x0 x1 x2:Value):Bx (((w.setCell ⟨h,0,none⟩ x0).setCell ⟨h,1,none⟩ x1).setCell ⟨h,2,none⟩ x2) g neg v e:=by
  obtain ⟨zl,z0,z1,z2⟩:=hb
  have hn:∀ i j,(⟨g,i,none⟩:Addr) ≠ ⟨h,j,none⟩:=fun i j h0=>hne (by injection h0)
  refine ⟨by simpa [World.setCell] using zl,?_,?_,?_⟩
  all_goals
    rw [World.cell?_setCell_other (h:=by simp [hne]),World.cell?_setCell_other (h:=by simp [hne]),World.cell?_setCell_other (h:=by simp [hne])]
    assumption
theorem bxz_far {w:World} {g h:Nat} (hb:BxZ w g) (hne:g ≠ h) (x0 x1 x2:Value):BxZ (((w.setCell ⟨h,0,none⟩ x0).setCell ⟨h,1,none⟩ x1).setCell ⟨h,2,none⟩ x2) g:=by
  obtain ⟨zl,z0,z1,z2,f0,f1,f2⟩:=hb
  refine ⟨by simpa [World.setCell] using zl,?_,?_,?_,by simpa using f0,by simpa using f1,by simpa using f2⟩
  all_goals
    rw [World.cell?_setCell_other (h:=by simp [hne]),World.cell?_setCell_other (h:=by simp [hne]),World.cell?_setCell_other (h:=by simp [hne])]
    assumption
theorem bx_three {w:World} {g:Nat} (h:BxZ w g) (neg:Bool) (v:Value) (e:Int):Bx (((w.setCell ⟨g,0,none⟩ (.bool neg)).setCell ⟨g,1,none⟩ v).setCell ⟨g,2,none⟩ (.int .i64 e)) g neg v e:=by
  obtain ⟨zl,z0,z1,z2,_,_,_⟩:=h
  have a1:(w.setCell ⟨g,0,none⟩ (.bool neg)).cell? ⟨g,1,none⟩=some (.slice none 0 0):=by rw [World.cell?_setCell_other (h:=by simp)];exact z1
  have a2:((w.setCell ⟨g,0,none⟩ (.bool neg)).setCell ⟨g,1,none⟩ v).cell? ⟨g,2,none⟩=some (.int .i64 0):=by rw [World.cell?_setCell_other (h:=by simp),World.cell?_setCell_other (h:=by simp)];exact z2
  refine ⟨by simpa [World.setCell] using zl,?_,?_,?_⟩
  · rw [World.cell?_setCell_other (h:=by simp),World.cell?_setCell_other (h:=by simp),World.cell?_setCell_same (h:=z0)]
  · rw [World.cell?_setCell_other (h:=by simp),World.cell?_setCell_same (h:=a1)]
  · rw [World.cell?_setCell_same (h:=a2)]
theorem two_one {w:World} {g h:Nat} {na nb:Bool} {va vb:Value} {e f:Int} (hg:BxZ w g) (hh:BxZ w h) (hne:g ≠ h) :
    Bx ((((((w.setCell ⟨g,0,none⟩ (.bool na)).setCell ⟨g,1,none⟩ va).setCell ⟨g,2,none⟩ (.int .i64 e)).setCell ⟨h,0,none⟩ (.bool nb)).setCell ⟨h,1,none⟩ vb).setCell ⟨h,2,none⟩ (.int .i64 f)) g na va e ∧
    Bx ((((((w.setCell ⟨g,0,none⟩ (.bool na)).setCell ⟨g,1,none⟩ va).setCell ⟨g,2,none⟩ (.int .i64 e)).setCell ⟨h,0,none⟩ (.bool nb)).setCell ⟨h,1,none⟩ vb).setCell ⟨h,2,none⟩ (.int .i64 f)) h nb vb f :=
  ⟨bx_far (bx_three hg na va e) hne _ _ _,bx_three (bxz_far hh (fun h0=>hne h0.symm) _ _ _) nb vb f⟩
theorem two_new (w:World) (na nb:Bool) (va vb:Value) (e f:Int) :
    Bx ((w.alloc (.cells #[.bool na,va,.int .i64 e] 25)).alloc (.cells #[.bool nb,vb,.int .i64 f] 25)) w.heap.size na va e ∧
    Bx ((w.alloc (.cells #[.bool na,va,.int .i64 e] 25)).alloc (.cells #[.bool nb,vb,.int .i64 f] 25)) (w.heap.size+1) nb vb f :=
  ⟨(bx_new w na va e).step (below_box _ _ _),by simpa using bx_new (w.alloc (.cells #[.bool na,va,.int .i64 e] 25)) nb vb f⟩
theorem two_two {w:World} {g:Nat} {na nb:Bool} {va vb:Value} {e f:Int} (hg:BxZ w g) :
    Bx ((((w.setCell ⟨g,0,none⟩ (.bool na)).setCell ⟨g,1,none⟩ va).setCell ⟨g,2,none⟩ (.int .i64 e)).alloc (.cells #[.bool nb,vb,.int .i64 f] 25)) g na va e ∧
    Bx ((((w.setCell ⟨g,0,none⟩ (.bool na)).setCell ⟨g,1,none⟩ va).setCell ⟨g,2,none⟩ (.int .i64 e)).alloc (.cells #[.bool nb,vb,.int .i64 f] 25)) w.heap.size nb vb f:=by
  refine ⟨(bx_three hg na va e).step (below_box _ _ _),?_⟩
  have hz:=bx_new (((w.setCell ⟨g,0,none⟩ (.bool na)).setCell ⟨g,1,none⟩ va).setCell ⟨g,2,none⟩ (.int .i64 e)) nb vb f
  rwa [show (((w.setCell ⟨g,0,none⟩ (.bool na)).setCell ⟨g,1,none⟩ va).setCell ⟨g,2,none⟩ (.int .i64 e)).heap.size=w.heap.size by simp [World.setCell]] at hz
theorem cmp_same {w : World} {na nb : Bool} {ad ad' : Option Addr} {n cap n' cap' : Nat} {xs ys : List Nat} {e f : Int} (ha : NumOk w na ad n cap xs e) (hb : NumOk w nb ad' n' cap' ys f) : (cmpN (val xs) (val ys) == 0) = decide (xs = ys) := by
  by_cases h : xs = ys
  · subst h; simp [cmpN_eq]
  · rw [decide_eq_false h, beq_eq_false_iff_ne]
    intro h0
    apply h
    have : val xs = val ys := by unfold cmpN at h0; repeat' split at h0
                                 all_goals omega
    rw [← chkB_limbs ha.ok ha.chk, ← chkB_limbs hb.ok hb.chk, this]
def ViaQg (R:Act→World→Prop) (e:Exit) (a:Act) (w:World):Prop:=match e with | .normal=>R a w | _=>False
theorem wp_via {P:Program} {C:Code} {Q:Exit→Act→World→Prop} {a:Act} {w:World} (R:Act→World→Prop) (h1:C.wp P (ViaQg R) a w) (h2:∀ a' w',R a' w'→Q .normal a' w'):C.wp P Q a w :=
  Code.wp_mono (fun e a' w' hr=>by cases e <;> first | exact h2 a' w' hr | exact absurd hr id) h1
theorem keep6 {W0 W:World} {G H:Nat} {a b c d e f:Value} (hb:Below W0.heap.size W0 W) (hX:G<W0.heap.size) (hY:H<W0.heap.size)
    (X0:W0.cell? ⟨G,0,none⟩=some a) (X1:W0.cell? ⟨G,1,none⟩=some b) (X2:W0.cell? ⟨G,2,none⟩=some c) (Y0:W0.cell? ⟨H,0,none⟩=some d) (Y1:W0.cell? ⟨H,1,none⟩=some e) (Y2:W0.cell? ⟨H,2,none⟩=some f) :
    W.cell? ⟨G,0,none⟩=some a∧W.cell? ⟨G,1,none⟩=some b∧W.cell? ⟨G,2,none⟩=some c∧W.cell? ⟨H,0,none⟩=some d∧W.cell? ⟨H,1,none⟩=some e∧W.cell? ⟨H,2,none⟩=some f :=
  ⟨(hb.cell (p:=⟨G,0,none⟩) hX).trans X0,(hb.cell (p:=⟨G,1,none⟩) hX).trans X1,(hb.cell (p:=⟨G,2,none⟩) hX).trans X2,(hb.cell (p:=⟨H,0,none⟩) hY).trans Y0,(hb.cell (p:=⟨H,1,none⟩) hY).trans Y1,(hb.cell (p:=⟨H,2,none⟩) hY).trans Y2⟩
theorem rsame_core (pa:Bool) (ta:Value) (xa:Int) (pb:Bool) (tb:Value) (xb:Int) (na:Bool) (ad:Option Addr) (n cap:Nat) (xs:List Nat) (e:Int) (nb:Bool) (ad':Option Addr) (n' cap':Nat) (ys:List Nat) (f:Int) (w:World)
    (ha:NumOk w na ad n cap xs e) (hb:NumOk w nb ad' n' cap' ys f) (a0:Option Addr) (b0 c0:Nat) (eta:ta=.slice a0 b0 c0) (a1:Option Addr) (b1 c1:Nat) (etb:tb=.slice a1 b1 c1)
    (KA:∀ W,Below w.heap.size w W→Calls Tryz.prog 76 #[.agg #[.bool pa,ta,.int .i64 xa]] W (NumBelow na (.slice ad n cap) e W))
    (KB:∀ W,Below w.heap.size w W→Calls Tryz.prog 76 #[.agg #[.bool pb,tb,.int .i64 xb]] W (NumBelow nb (.slice ad' n' cap') f W)) :
    Calls Tryz.prog 42 #[.agg #[.bool pa,ta,.int .i64 xa],.agg #[.bool pb,tb,.int .i64 xb]] w (BoolBelow (decide ((na=nb∧e=f)∧xs=ys)) w):=by
  generalize hD:decide ((na=nb∧e=f)∧xs=ys)=D
  have HDD:=Lib.hid hD;clear hD
  subst eta etb
  obtain ⟨W0,hW0⟩:∃ W0,W0=(w.alloc (.cells #[.bool pa,.slice a0 b0 c0,.int .i64 xa] 25)).alloc (.cells #[.bool pb,.slice a1 b1 c1,.int .i64 xb] 25):=⟨_,rfl⟩
  have hbl:Below w.heap.size w W0:=by rw [hW0];exact ((Below.refl _ _).alloc (Nat.le_refl _) _).alloc (by simp) _
  have X0:W0.cell? ⟨w.heap.size,0,none⟩=some (.bool pa):=by rw [hW0];simp
  have X1:W0.cell? ⟨w.heap.size,1,none⟩=some (.slice a0 b0 c0):=by rw [hW0];simp
  have X2:W0.cell? ⟨w.heap.size,2,none⟩=some (.int .i64 xa):=by rw [hW0];simp
  have Y0:W0.cell? ⟨w.heap.size+1,0,none⟩=some (.bool pb):=by rw [hW0];simp
  have Y1:W0.cell? ⟨w.heap.size+1,1,none⟩=some (.slice a1 b1 c1):=by rw [hW0];simp
  have Y2:W0.cell? ⟨w.heap.size+1,2,none⟩=some (.int .i64 xb):=by rw [hW0];simp
  have hX:w.heap.size<W0.heap.size:=by rw [hW0];simp;omega
  have hY:w.heap.size+1<W0.heap.size:=by rw [hW0];simp
  have HB:=Lib.hid hbl
  replace KA:=Lib.hid (fun W (h:Below W0.heap.size W0 W)=>KA W (below_on hbl h))
  replace KB:=Lib.hid (fun W (h:Below W0.heap.size W0 W)=>KB W (below_on hbl h))
  clear hbl
  have HA:=Lib.hid ha;have HBB:=Lib.hid hb
  clear ha hb
  go_enter Tryz.func42,Tryz.ntmps42
  go_upto_region 1 with fail
  rw [← hW0]
  clear hW0
  have HLE:=Lib.hid (Nat.le_refl w.heap.size)
  have HBW:Hid (∀ W,Below W0.heap.size W0 W→Below w.heap.size w W):=fun W h=>below_on HB.out h
  refine wp_via (fun a' w'=>∃ g h,a'=⟨#[.agg #[.bool pa,.slice a0 b0 c0,.int .i64 xa],.agg #[.bool pb,.slice a1 b1 c1,.int .i64 xb],.pointer (some ⟨w.heap.size,0,none⟩),.pointer (some ⟨w.heap.size+1,0,none⟩),.bool false,.pointer (some ⟨g,0,none⟩),.pointer (some ⟨h,0,none⟩),.agg #[.bool pa,.slice a0 b0 c0,.int .i64 xa],.agg #[.bool na,.slice ad n cap,.int .i64 e],.agg #[.bool pb,.slice a1 b1 c1,.int .i64 xb],.agg #[.bool nb,.slice ad' n' cap',.int .i64 f],undef,undef,undef,undef,undef,undef,undef,undef,undef,undef,undef,undef,undef,undef,undef,undef,undef,undef,undef,undef],[]⟩∧(Bx w' g na (.slice ad n cap) e∧Bx w' h nb (.slice ad' n' cap') f)∧Below W0.heap.size W0 w') ?_ ?_
  · generalize hG:w.heap.size=G at X0 X1 X2 Y0 Y1 Y2 hX hY ⊢
    generalize hH:G+1=H at Y0 Y1 Y2 hX hY ⊢
    go_region_held_law (fun w'=>w'.cell? ⟨G,0,none⟩=some (.bool pa)∧w'.cell? ⟨G,1,none⟩=some (.slice a0 b0 c0)∧w'.cell? ⟨G,2,none⟩=some (.int .i64 xa)∧w'.cell? ⟨H,0,none⟩=some (.bool pb)∧w'.cell? ⟨H,1,none⟩=some (.slice a1 b1 c1)∧w'.cell? ⟨H,2,none⟩=some (.int .i64 xb)) (exact keep6 (by (repeat (first | with_reducible exact hW1 | with_reducible exact hW2 | with_reducible exact Below.refl _ _ | with_reducible refine below_drew ?_ | with_reducible refine Below.setCell ?_ (by first | omega | (simp;done) | (simp;omega)) _ | with_reducible refine Below.alloc ?_ (by first | omega | (simp;done) | (simp;omega)) _))) hX hY X0 X1 X2 Y0 Y1 Y2)
      (first
        | (refine step_callR rfl 76 _ Tryz.func76 (by kernel_rfl) (by kernel_rfl) #[.tmp 7] _ rfl #[.agg #[.bool pa,.slice a0 b0 c0,.int .i64 xa]] (by simp [Act.eval,Act.put]) (KA.out _ (by (repeat (first | with_reducible exact hW1 | with_reducible exact hW2 | with_reducible exact Below.refl _ _ | with_reducible refine below_drew ?_ | with_reducible refine Below.setCell ?_ (by first | omega | (simp;done) | (simp;omega)) _ | with_reducible refine Below.alloc ?_ (by first | omega | (simp;done) | (simp;omega)) _)))) ?_;rintro r w1 ⟨rfl,hb1⟩;obtain ⟨hc1,hf1⟩:=bcell hb1;have hs1:=hb1.size;(try simp at hs1);have hW1:=below_on (show Below W0.heap.size W0 _ from by (repeat (first | with_reducible exact hW1 | with_reducible exact hW2 | with_reducible exact Below.refl _ _ | with_reducible refine below_drew ?_ | with_reducible refine Below.setCell ?_ (by first | omega | (simp;done) | (simp;omega)) _ | with_reducible refine Below.alloc ?_ (by first | omega | (simp;done) | (simp;omega)) _))) hb1;(try (have hl11:W0.heap.size<w1.heap.size:=(by omega);have hn11:¬ W0.heap.size=w1.heap.size:=(by omega);have hm11:¬ w1.heap.size=W0.heap.size:=(by omega)));(try (have hl12:W0.heap.size+1<w1.heap.size:=(by omega);have hn12:¬ W0.heap.size+1=w1.heap.size:=(by omega);have hm12:¬ w1.heap.size=W0.heap.size+1:=(by omega)));(try (have za:BxZ w1 W0.heap.size:=(by first | with_reducible exact (bxz_new W0).stepD hb1 | with_reducible exact ((bxz_new W0).alloc _).stepD hb1)));(try (have zb:BxZ w1 (W0.heap.size+1):=(by simpa using (bxz_new (W0.alloc _)).stepD hb1)));clear hc1 hf1;refine ⟨_,rfl,?_⟩)
        | (refine step_callR rfl 76 _ Tryz.func76 (by kernel_rfl) (by kernel_rfl) #[.tmp 9] _ rfl #[.agg #[.bool pb,.slice a1 b1 c1,.int .i64 xb]] (by simp [Act.eval,Act.put]) (KB.out _ (by (repeat (first | with_reducible exact hW1 | with_reducible exact hW2 | with_reducible exact Below.refl _ _ | with_reducible refine below_drew ?_ | with_reducible refine Below.setCell ?_ (by first | omega | (simp;done) | (simp;omega)) _ | with_reducible refine Below.alloc ?_ (by first | omega | (simp;done) | (simp;omega)) _)))) ?_;rintro r w2 ⟨rfl,hb2⟩;obtain ⟨hc2,hf2⟩:=bcell hb2;have hs2:=hb2.size;(try simp at hs2);have hW2:=below_on (show Below W0.heap.size W0 _ from by (repeat (first | with_reducible exact hW1 | with_reducible exact hW2 | with_reducible exact Below.refl _ _ | with_reducible refine below_drew ?_ | with_reducible refine Below.setCell ?_ (by first | omega | (simp;done) | (simp;omega)) _ | with_reducible refine Below.alloc ?_ (by first | omega | (simp;done) | (simp;omega)) _))) hb2;(try (have hl21:W0.heap.size<w2.heap.size:=(by omega);have hn21:¬ W0.heap.size=w2.heap.size:=(by omega);have hm21:¬ w2.heap.size=W0.heap.size:=(by omega)));(try (have hl22:W0.heap.size+1<w2.heap.size:=(by omega);have hn22:¬ W0.heap.size+1=w2.heap.size:=(by omega);have hm22:¬ w2.heap.size=W0.heap.size+1:=(by omega)));(try (have hl23:w1.heap.size<w2.heap.size:=(by omega);have hn23:¬ w1.heap.size=w2.heap.size:=(by omega);have hm23:¬ w2.heap.size=w1.heap.size:=(by omega)));(try (have hl24:w1.heap.size+1<w2.heap.size:=(by omega);have hn24:¬ w1.heap.size+1=w2.heap.size:=(by omega);have hm24:¬ w2.heap.size=w1.heap.size+1:=(by omega)));(try (have ya:BxZ w2 W0.heap.size:=(by first | with_reducible exact za.step hb2 | with_reducible exact (za.alloc _).step hb2 | with_reducible exact ((za.alloc _).alloc _).step hb2);have yaz:=Lib.hid ya;obtain ⟨yal,ya0,ya1,ya2,ya3,ya4,ya5⟩:=ya));(try (have yb:BxZ w2 (W0.heap.size+1):=(by first | with_reducible exact zb.step hb2 | with_reducible exact (zb.alloc _).step hb2 | with_reducible exact ((zb.alloc _).alloc _).step hb2);have ybz:=Lib.hid yb;obtain ⟨ybl,yb0,yb1,yb2,yb3,yb4,yb5⟩:=yb));(try (have yc:BxZ w2 w1.heap.size:=(by first | with_reducible exact (bxz_new w1).step hb2 | with_reducible exact ((bxz_new w1).alloc _).step hb2);have ycz:=Lib.hid yc;obtain ⟨ycl,yc0,yc1,yc2,yc3,yc4,yc5⟩:=yc));(try (have yd:BxZ w2 (w1.heap.size+1):=(by simpa using (bxz_new (w1.alloc _)).step hb2);have ydz:=Lib.hid yd;obtain ⟨ydl,yd0,yd1,yd2,yd3,yd4,yd5⟩:=yd));clear hc2 hf2;refine ⟨_,rfl,?_⟩))
    all_goals
      refine ⟨_,_,rfl,?_,by (repeat (first | with_reducible exact hW1 | with_reducible exact hW2 | with_reducible exact Below.refl _ _ | with_reducible refine below_drew ?_ | with_reducible refine Below.setCell ?_ (by first | omega | (simp;done) | (simp;omega)) _ | with_reducible refine Below.alloc ?_ (by first | omega | (simp;done) | (simp;omega)) _))⟩
      first
        | with_reducible exact two_new _ _ _ _ _ _ _
        | with_reducible exact (two_new _ _ _ _ _ _ _).symm
        | (with_reducible refine two_one ?_ ?_ ?_) <;> first | with_reducible exact yaz.out | with_reducible exact ybz.out | with_reducible exact ycz.out | with_reducible exact ydz.out | omega
        | (with_reducible refine two_two ?_) <;> (first | with_reducible exact yaz.out | with_reducible exact ybz.out | with_reducible exact ycz.out | with_reducible exact ydz.out)
        | (with_reducible refine (two_two ?_).symm) <;> (first | with_reducible exact yaz.out | with_reducible exact ybz.out | with_reducible exact ycz.out | with_reducible exact ydz.out)
  · rintro a' wc ⟨g,h,rfl,⟨⟨bl,p0,p1,p2⟩,cl,q0,q1,q2⟩,hb'⟩
    have HBC:=Lib.hid (HBW.out _ hb')
    clear hb' X0 X1 X2 Y0 Y1 Y2 hX hY
    have HAW:=Lib.hid (HA.out.below HBC.out);have HBW2:=Lib.hid (HBB.out.below HBC.out)
    have KC:=Lib.hid (refCmp_any ad n cap xs ad' n' cap' ys wc HAW.out.len HAW.out.cap (by have:=HAW.out.n90;omega) HAW.out.ok HAW.out.rd HBW2.out.len HBW2.out.cap (by have:=HBW2.out.n90;omega) HBW2.out.ok HBW2.out.rd)
    have HV:=Lib.hid (cmp_same HAW.out HBW2.out)
    by_cases c1:na=nb
    · subst c1
      by_cases c2:e=f
      · subst c2
        have HD:Hid (D=decide (xs=ys)):=by show D=_;rw [← HDD.out];simp
        go_wp2_with fail
        refine KC.out.mono ?_
        rintro r w4 ⟨rfl,q4,rfl⟩
        have HB4:=Lib.hid (below_drewN' HBC.out q4)
        have hv:=HV.out
        generalize cmpN (val xs) (val ys)=c at *
        generalize wc.drewN q4=w4 at *
        by_cases c3:xs=ys
        · rw [decide_eq_true c3] at HD
          rw [decide_eq_true c3] at hv
          have hc:c=0:=by simpa using hv
          subst hc
          clear hv
          go_wp2
          go_ret
          exact ⟨by rw [HD.out];rfl,HB4.out⟩
        · rw [decide_eq_false c3] at HD
          rw [decide_eq_false c3] at hv
          go_wp2
          go_ret
          exact ⟨by rw [HD.out];rfl,HB4.out⟩
      · have HD:Hid (D=false):=by show D=_;rw [← HDD.out];exact decide_eq_false (fun h=>c2 h.1.2)
        have hef:(e == f)=false:=by simpa using c2
        go_wp2_with fail
        go_ret
        exact ⟨by rw [HD.out];rfl,HBC.out⟩
    · have HD:Hid (D=false):=by show D=_;rw [← HDD.out];exact decide_eq_false (fun h=>c1 h.1.1)
      have hab:(na == nb)=false:=by simpa using c1
      go_wp2_with fail
      go_ret
      exact ⟨by rw [HD.out];rfl,HBC.out⟩
end Go.Proofs.YtnacbakcalcgaaaGreatDoor
namespace Go.Proofs.YtnacbakcalcgaaaGreatDoor
open Go.Shelf Go.RowKit Go.Lib
theorem sameN_allC:SameNC:=by
  intro neg ma ma' mn mc mc' m e W h1 h2
  have l1:=h1.n90;have l2:=h2.n90
  have:=rsame_core neg (.slice ma mn mc) e neg (.slice ma' mn mc') e neg ma mn mc m e neg ma' mn mc' m e W h1 h2 _ _ _ rfl _ _ _ rfl
    (fun V hV=>is_yes neg ma mn mc m e V h1.len h1.cap (by omega) h1.ok (h1.rd.below hV) h1.chk) (fun V hV=>is_yes neg ma' mn mc' m e V h2.len h2.cap (by omega) h2.ok (h2.rd.below hV) h2.chk)
  rwa [show decide ((neg=neg∧e=e)∧m=m)=true from decide_eq_true ⟨⟨rfl,rfl⟩,rfl⟩] at this
theorem refSame_yesC {t u:MT} {d:Nat} {w:World} (h:t.bare=u.bare) (hs:SndC t d) (hR:Rep w t) (hU:Rep w u):Calls Tryz.prog 17 #[t.c.val,u.c.val] w (BoolBelow true w):=refSame_anyC sameN_allC t u d w h hs hR hU
end Go.Proofs.YtnacbakcalcgaaaGreatDoor
