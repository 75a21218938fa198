/- Texts of the claim. -/
import Derived.Test.YtnacbakcalcgaaaGreatDoorYD
set_option linter.unusedVariables false
set_option linter.unusedSimpArgs false
set_option maxHeartbeats 16000000
set_option maxRecDepth 100000
namespace Go.Proofs.YtnacbakcalcgaaaGreatDoor
open Go.RowKit Go.Sort
structure BxZ (w:World) (g:Nat):Prop where
  lt:g<w.heap.size
  c0:w.cell? ⟨g,0,none⟩=some (.bool false)
  c1:w.cell? ⟨g,1,none⟩=some (.slice none 0 0)
  c2:w.cell? ⟨g,2,none⟩=some (.int .i64 0)
  f0:w.frozen? ⟨g,0,none⟩=false
  f1:w.frozen? ⟨g,1,none⟩=false
  f2:w.frozen? ⟨g,2,none⟩=false
theorem BxZ.step {w w':World} {g:Nat} (h:BxZ w g) (hb:Below w.heap.size w w'):BxZ w' g :=
  ⟨Nat.lt_of_lt_of_le h.lt hb.size,(hb.cell (p:=⟨g,0,none⟩) h.lt).trans h.c0,(hb.cell (p:=⟨g,1,none⟩) h.lt).trans h.c1,(hb.cell (p:=⟨g,2,none⟩) h.lt).trans h.c2,
    (hb.frozen (p:=⟨g,0,none⟩) h.lt).trans h.f0,(hb.frozen (p:=⟨g,1,none⟩) h.lt).trans h.f1,(hb.frozen (p:=⟨g,2,none⟩) h.lt).trans h.f2⟩
theorem bxz_new (w:World):BxZ (w.alloc (.cells #[.bool false,.slice none 0 0,.int .i64 0] 25)) w.heap.size:=⟨by simp,by simp,by simp,by simp,by simp,by simp,by simp⟩
theorem BxZ.alloc {w:World} {g:Nat} (h:BxZ w g) (o:Obj):BxZ (w.alloc o) g:=h.step ((Below.refl _ _).alloc (Nat.le_refl _) _)
theorem BxZ.stepD {w w':World} {g:Nat} (h:BxZ w g) (hb:Below w.drew.heap.size w.drew w'):BxZ w' g:=h.step ((below_drew (Below.refl _ _)).trans hb)
theorem bx_far {w:World} {g h:Nat} {neg:Bool} {v:Value} {e:Int} (hb:Bx w g neg v e) (hne:g ≠ h) (x0 x1 x2:Value):Bx (((w.setCell ⟨h,0,none⟩ x0).setCell ⟨h,1,none⟩ x1).setCell ⟨h,2,none⟩ x2) g neg v e:=by
  obtain ⟨zl,z0,z1,z2⟩:=hb
  have hn:∀ i j,(⟨g,i,none⟩:Addr) ≠ ⟨h,j,none⟩:=fun i j h0=>hne (by injection h0)
  refine ⟨by simpa [World.setCell] using zl,?_,?_,?_⟩
  all_goals
    rw [World.cell?_setCell_other (h:=by simp [hne]),World.cell?_setCell_other (h:=by simp [hne]),World.cell?_setCell_other (h:=by simp [hne])]
    assumption
theorem bxz_far {w:World} {g h:Nat} (hb:BxZ w g) (hne:g ≠ h) (x0 x1 x2:Value):BxZ (((w.setCell ⟨h,0,none⟩ x0).setCell ⟨h,1,none⟩ x1).setCell ⟨h,2,none⟩ x2) g:=by
  obtain ⟨zl,z0,z1,z2,f0,f1,f2⟩:=hb
  refine ⟨by simpa [World.setCell] using zl,?_,?_,?_,by simpa using f0,by simpa using f1,by simpa using f2⟩
  all_goals
    rw [World.cell?_setCell_other (h:=by simp [hne]),World.cell?_setCell_other (h:=by simp [hne]),World.cell?_setCell_other (h:=by simp [hne])]
    assumption
theorem bx_three {w:World} {g:Nat} (h:BxZ w g) (neg:Bool) (v:Value) (e:Int):Bx (((w.setCell ⟨g,0,none⟩ (.bool neg)).setCell ⟨g,1,none⟩ v).setCell ⟨g,2,none⟩ (.int .i64 e)) g neg v e:=by
  obtain ⟨zl,z0,z1,z2,_,_,_⟩:=h
  have a1:(w.setCell ⟨g,0,none⟩ (.bool neg)).cell? ⟨g,1,none⟩=some (.slice none 0 0):=by rw [World.cell?_setCell_other (h:=by simp)];exact z1
  have a2:((w.setCell ⟨g,0,none⟩ (.bool neg)).setCell ⟨g,1,none⟩ v).cell? ⟨g,2,none⟩=some (.int .i64 0):=by rw [World.cell?_setCell_other (h:=by simp),World.cell?_setCell_other (h:=by simp)];exact z2
  refine ⟨by simpa [World.setCell] using zl,?_,?_,?_⟩
  · rw [World.cell?_setCell_other (h:=by simp),World.cell?_setCell_other (h:=by simp),World.cell?_setCell_same (h:=z0)]
  · rw [World.cell?_setCell_other (h:=by simp),World.cell?_setCell_same (h:=a1)]
  · rw [World.cell?_setCell_same (h:=a2)]
theorem two_one {w:World} {g h:Nat} {na nb:Bool} {va vb:Value} {e f:Int} (hg:BxZ w g) (hh:BxZ w h) (hne:g ≠ h) :
    Bx ((((((w.setCell ⟨g,0,none⟩ (.bool na)).setCell ⟨g,1,none⟩ va).setCell ⟨g,2,none⟩ (.int .i64 e)).setCell ⟨h,0,none⟩ (.bool nb)).setCell ⟨h,1,none⟩ vb).setCell ⟨h,2,none⟩ (.int .i64 f)) g na va e ∧
    Bx ((((((w.setCell ⟨g,0,none⟩ (.bool na)).setCell ⟨g,1,none⟩ va).setCell ⟨g,2,none⟩ (.int .i64 e)).setCell ⟨h,0,none⟩ (.bool nb)).setCell ⟨h,1,none⟩ vb).setCell ⟨h,2,none⟩ (.int .i64 f)) h nb vb f :=
  ⟨bx_far (bx_three hg na va e) hne _ _ _,bx_three (bxz_far hh (fun h0=>hne h0.symm) _ _ _) nb vb f⟩
theorem two_new (w:World) (na nb:Bool) (va vb:Value) (e f:Int) :
    Bx ((w.alloc (.cells #[.bool na,va,.int .i64 e] 25)).alloc (.cells #[.bool nb,vb,.int .i64 f] 25)) w.heap.size na va e ∧
    Bx ((w.alloc (.cells #[.bool na,va,.int .i64 e] 25)).alloc (.cells #[.bool nb,vb,.int .i64 f] 25)) (w.heap.size+1) nb vb f :=
  ⟨(bx_new w na va e).step (below_box _ _ _),by simpa using bx_new (w.alloc (.cells #[.bool na,va,.int .i64 e] 25)) nb vb f⟩
theorem two_two {w:World} {g:Nat} {na nb:Bool} {va vb:Value} {e f:Int} (hg:BxZ w g) :
    Bx ((((w.setCell ⟨g,0,none⟩ (.bool na)).setCell ⟨g,1,none⟩ va).setCell ⟨g,2,none⟩ (.int .i64 e)).alloc (.cells #[.bool nb,vb,.int .i64 f] 25)) g na va e ∧
    Bx ((((w.setCell ⟨g,0,none⟩ (.bool na)).setCell ⟨g,1,none⟩ va).setCell ⟨g,2,none⟩ (.int .i64 e)).alloc (.cells #[.bool nb,vb,.int .i64 f] 25)) w.heap.size nb vb f:=by
  refine ⟨(bx_three hg na va e).step (below_box _ _ _),?_⟩
  have hz:=bx_new (((w.setCell ⟨g,0,none⟩ (.bool na)).setCell ⟨g,1,none⟩ va).setCell ⟨g,2,none⟩ (.int .i64 e)) nb vb f
  rwa [show (((w.setCell ⟨g,0,none⟩ (.bool na)).setCell ⟨g,1,none⟩ va).setCell ⟨g,2,none⟩ (.int .i64 e)).heap.size=w.heap.size by simp [World.setCell]] at hz
theorem cmp_same {w : World} {na nb : Bool} {ad ad' : Option Addr} {n cap n' cap' : Nat} {xs ys : List Nat} {e f : Int} (ha : NumOk w na ad n cap xs e) (hb : NumOk w nb ad' n' cap' ys f) : (cmpN (val xs) (val ys) == 0) = decide (xs = ys) := by
  by_cases h : xs = ys
  · subst h; simp [cmpN_eq]
  · rw [decide_eq_false h, beq_eq_false_iff_ne]
    intro h0
    apply h
    have : val xs = val ys := by unfold cmpN at h0; repeat' split at h0
                                 all_goals omega
    rw [← chkB_limbs ha.ok ha.chk, ← chkB_limbs hb.ok hb.chk, this]
def ViaQg (R:Act→World→Prop) (e:Exit) (a:Act) (w:World):Prop:=match e with | .normal=>R a w | _=>False
theorem wp_via {P:Program} {C:Code} {Q:Exit→Act→World→Prop} {a:Act} {w:World} (R:Act→World→Prop) (h1:C.wp P (ViaQg R) a w) (h2:∀ a' w',R a' w'→Q .normal a' w'):C.wp P Q a w :=
  Code.wp_mono (fun e a' w' hr=>by cases e <;> first | exact h2 a' w' hr | exact absurd hr id) h1
theorem keep6 {W0 W:World} {G H:Nat} {a b c d e f:Value} (hb:Below W0.heap.size W0 W) (hX:G<W0.heap.size) (hY:H<W0.heap.size)
    (X0:W0.cell? ⟨G,0,none⟩=some a) (X1:W0.cell? ⟨G,1,none⟩=some b) (X2:W0.cell? ⟨G,2,none⟩=some c) (Y0:W0.cell? ⟨H,0,none⟩=some d) (Y1:W0.cell? ⟨H,1,none⟩=some e) (Y2:W0.cell? ⟨H,2,none⟩=some f) :
    W.cell? ⟨G,0,none⟩=some a∧W.cell? ⟨G,1,none⟩=some b∧W.cell? ⟨G,2,none⟩=some c∧W.cell? ⟨H,0,none⟩=some d∧W.cell? ⟨H,1,none⟩=some e∧W.cell? ⟨H,2,none⟩=some f :=
  ⟨(hb.cell (p:=⟨G,0,none⟩) hX).trans X0,(hb.cell (p:=⟨G,1,none⟩) hX).trans X1,(hb.cell (p:=⟨G,2,none⟩) hX).trans X2,(hb.cell (p:=⟨H,0,none⟩) hY).trans Y0,(hb.cell (p:=⟨H,1,none⟩) hY).trans Y1,(hb.cell (p:=⟨H,2,none⟩) hY).trans Y2⟩
theorem rsame_core (pa:Bool) (ta:Value) (xa:Int) (pb:Bool) (tb:Value) (xb:Int) (na:Bool) (ad:Option Addr) (n cap:Nat) (xs:List Nat) (e:Int) (nb:Bool) (ad':Option Addr) (n' cap':Nat) (ys:List Nat) (f:Int) (w:World)
    (ha:NumOk w na ad n cap xs e) (hb:NumOk w nb ad' n' cap' ys f) (a0:Option Addr) (b0 c0:Nat) (eta:ta=.slice a0 b0 c0) (a1:Option Addr) (b1 c1:Nat) (etb:tb=.slice a1 b1 c1)
    (KA:∀ W,Below w.heap.size w W→Calls Tryz.prog 76 #[.agg #[.bool pa,ta,.int .i64 xa]] W (NumBelow na (.slice ad n cap) e W))
    (KB:∀ W,Below w.heap.size w W→Calls Tryz.prog 76 #[.agg #[.bool pb,tb,.int .i64 xb]] W (NumBelow nb (.slice ad' n' cap') f W)) :
    Calls Tryz.prog 42 #[.agg #[.bool pa,ta,.int .i64 xa],.agg #[.bool pb,tb,.int .i64 xb]] w (BoolBelow (decide ((na=nb∧e=f)∧xs=ys)) w):=by
  generalize hD:decide ((na=nb∧e=f)∧xs=ys)=D
  have HDD:=Lib.hid hD;clear hD
  subst eta etb
  obtain ⟨W0,hW0⟩:∃ W0,W0=(w.alloc (.cells #[.bool pa,.slice a0 b0 c0,.int .i64 xa] 25)).alloc (.cells #[.bool pb,.slice a1 b1 c1,.int .i64 xb] 25):=⟨_,rfl⟩
  have hbl:Below w.heap.size w W0:=by rw [hW0];exact ((Below.refl _ _).alloc (Nat.le_refl _) _).alloc (by simp) _
  have X0:W0.cell? ⟨w.heap.size,0,none⟩=some (.bool pa):=by rw [hW0];simp
  have X1:W0.cell? ⟨w.heap.size,1,none⟩=some (.slice a0 b0 c0):=by rw [hW0];simp
  have X2:W0.cell? ⟨w.heap.size,2,none⟩=some (.int .i64 xa):=by rw [hW0];simp
  have Y0:W0.cell? ⟨w.heap.size+1,0,none⟩=some (.bool pb):=by rw [hW0];simp
  have Y1:W0.cell? ⟨w.heap.size+1,1,none⟩=some (.slice a1 b1 c1):=by rw [hW0];simp
  have Y2:W0.cell? ⟨w.heap.size+1,2,none⟩=some (.int .i64 xb):=by rw [hW0];simp
  have hX:w.heap.size<W0.heap.size:=by rw [hW0];simp;omega
  have hY:w.heap.size+1<W0.heap.size:=by rw [hW0];simp
  have HB:=Lib.hid hbl
  replace KA:=Lib.hid (fun W (h:Below W0.heap.size W0 W)=>KA W (below_on hbl h))
  replace KB:=Lib.hid (fun W (h:Below W0.heap.size W0 W)=>KB W (below_on hbl h))
  clear hbl
  have HA:=Lib.hid ha;have HBB:=Lib.hid hb
  clear ha hb
  go_enter Tryz.func42,Tryz.ntmps42
  go_upto_region 1 with fail
  rw [← hW0]
  clear hW0
  have HLE:=Lib.hid (Nat.le_refl w.heap.size)
  have HBW:Hid (∀ W,Below W0.heap.size W0 W→Below w.heap.size w W):=fun W h=>below_on HB.out h
  refine wp_via (fun a' w'=>∃ g h,a'=⟨#[.agg #[.bool pa,.slice a0 b0 c0,.int .i64 xa],.agg #[.bool pb,.slice a1 b1 c1,.int .i64 xb],.pointer (some ⟨w.heap.size,0,none⟩),.pointer (some ⟨w.heap.size+1,0,none⟩),.bool false,.pointer (some ⟨g,0,none⟩),.pointer (some ⟨h,0,none⟩),.agg #[.bool pa,.slice a0 b0 c0,.int .i64 xa],.agg #[.bool na,.slice ad n cap,.int .i64 e],.agg #[.bool pb,.slice a1 b1 c1,.int .i64 xb],.agg #[.bool nb,.slice ad' n' cap',.int .i64 f],undef,undef,undef,undef,undef,undef,undef,undef,undef,undef,undef,undef,undef,undef,undef,undef,undef,undef,undef,undef],[]⟩∧(Bx w' g na (.slice ad n cap) e∧Bx w' h nb (.slice ad' n' cap') f)∧Below W0.heap.size W0 w') ?_ ?_
  · generalize hG:w.heap.size=G at X0 X1 X2 Y0 Y1 Y2 hX hY ⊢
    generalize hH:G+1=H at Y0 Y1 Y2 hX hY ⊢
    go_region_held_law (fun w'=>w'.cell? ⟨G,0,none⟩=some (.bool pa)∧w'.cell? ⟨G,1,none⟩=some (.slice a0 b0 c0)∧w'.cell? ⟨G,2,none⟩=some (.int .i64 xa)∧w'.cell? ⟨H,0,none⟩=some (.bool pb)∧w'.cell? ⟨H,1,none⟩=some (.slice a1 b1 c1)∧w'.cell? ⟨H,2,none⟩=some (.int .i64 xb)) (exact keep6 (by (repeat (first | with_reducible exact hW1 | with_reducible exact hW2 | with_reducible exact Below.refl _ _ | with_reducible refine below_drew ?_ | with_reducible refine Below.setCell ?_ (by first | omega | (simp;done) | (simp;omega)) _ | with_reducible refine Below.alloc ?_ (by first | omega | (simp;done) | (simp;omega)) _))) hX hY X0 X1 X2 Y0 Y1 Y2)
      (first
        | (refine step_callR rfl 76 _ Tryz.func76 (by kernel_rfl) (by kernel_rfl) #[.tmp 7] _ rfl #[.agg #[.bool pa,.slice a0 b0 c0,.int .i64 xa]] (by simp [Act.eval,Act.put]) (KA.out _ (by (repeat (first | with_reducible exact hW1 | with_reducible exact hW2 | with_reducible exact Below.refl _ _ | with_reducible refine below_drew ?_ | with_reducible refine Below.setCell ?_ (by first | omega | (simp;done) | (simp;omega)) _ | with_reducible refine Below.alloc ?_ (by first | omega | (simp;done) | (simp;omega)) _)))) ?_;rintro r w1 ⟨rfl,hb1⟩;obtain ⟨hc1,hf1⟩:=bcell hb1;have hs1:=hb1.size;(try simp at hs1);have hW1:=below_on (show Below W0.heap.size W0 _ from by (repeat (first | with_reducible exact hW1 | with_reducible exact hW2 | with_reducible exact Below.refl _ _ | with_reducible refine below_drew ?_ | with_reducible refine Below.setCell ?_ (by first | omega | (simp;done) | (simp;omega)) _ | with_reducible refine Below.alloc ?_ (by first | omega | (simp;done) | (simp;omega)) _))) hb1;(try (have hl11:W0.heap.size<w1.heap.size:=(by omega);have hn11:¬ W0.heap.size=w1.heap.size:=(by omega);have hm11:¬ w1.heap.size=W0.heap.size:=(by omega)));(try (have hl12:W0.heap.size+1<w1.heap.size:=(by omega);have hn12:¬ W0.heap.size+1=w1.heap.size:=(by omega);have hm12:¬ w1.heap.size=W0.heap.size+1:=(by omega)));(try (have za:BxZ w1 W0.heap.size:=(by first | with_reducible exact (bxz_new W0).stepD hb1 | with_reducible exact ((bxz_new W0).alloc _).stepD hb1)));(try (have zb:BxZ w1 (W0.heap.size+1):=(by simpa using (bxz_new (W0.alloc _)).stepD hb1)));clear hc1 hf1;refine ⟨_,rfl,?_⟩)
        | (refine step_callR rfl 76 _ Tryz.func76 (by kernel_rfl) (by kernel_rfl) #[.tmp 9] _ rfl #[.agg #[.bool pb,.slice a1 b1 c1,.int .i64 xb]] (by simp [Act.eval,Act.put]) (KB.out _ (by (repeat (first | with_reducible exact hW1 | with_reducible exact hW2 | with_reducible exact Below.refl _ _ | with_reducible refine below_drew ?_ | with_reducible refine Below.setCell ?_ (by first | omega | (simp;done) | (simp;omega)) _ | with_reducible refine Below.alloc ?_ (by first | omega | (simp;done) | (simp;omega)) _)))) ?_;rintro r w2 ⟨rfl,hb2⟩;obtain ⟨hc2,hf2⟩:=bcell hb2;have hs2:=hb2.size;(try simp at hs2);have hW2:=below_on (show Below W0.heap.size W0 _ from by (repeat (first | with_reducible exact hW1 | with_reducible exact hW2 | with_reducible exact Below.refl _ _ | with_reducible refine below_drew ?_ | with_reducible refine Below.setCell ?_ (by first | omega | (simp;done) | (simp;omega)) _ | with_reducible refine Below.alloc ?_ (by first | omega | (simp;done) | (simp;omega)) _))) hb2;(try (have hl21:W0.heap.size<w2.heap.size:=(by omega);have hn21:¬ W0.heap.size=w2.heap.size:=(by omega);have hm21:¬ w2.heap.size=W0.heap.size:=(by omega)));(try (have hl22:W0.heap.size+1<w2.heap.size:=(by omega);have hn22:¬ W0.heap.size+1=w2.heap.size:=(by omega);have hm22:¬ w2.heap.size=W0.heap.size+1:=(by omega)));(try (have hl23:w1.heap.size<w2.heap.size:=(by omega);have hn23:¬ w1.heap.size=w2.heap.size:=(by omega);have hm23:¬ w2.heap.size=w1.heap.size:=(by omega)));(try (have hl24:w1.heap.size+1<w2.heap.size:=(by omega);have hn24:¬ w1.heap.size+1=w2.heap.size:=(by omega);have hm24:¬ w2.heap.size=w1.heap.size+1:=(by omega)));(try (have ya:BxZ w2 W0.heap.size:=(by first | with_reducible exact za.step hb2 | with_reducible exact (za.alloc _).step hb2 | with_reducible exact ((za.alloc _).alloc _).step hb2);have yaz:=Lib.hid ya;obtain ⟨yal,ya0,ya1,ya2,ya3,ya4,ya5⟩:=ya));(try (have yb:BxZ w2 (W0.heap.size+1):=(by first | with_reducible exact zb.step hb2 | with_reducible exact (zb.alloc _).step hb2 | with_reducible exact ((zb.alloc _).alloc _).step hb2);have ybz:=Lib.hid yb;obtain ⟨ybl,yb0,yb1,yb2,yb3,yb4,yb5⟩:=yb));(try (have yc:BxZ w2 w1.heap.size:=(by first | with_reducible exact (bxz_new w1).step hb2 | with_reducible exact ((bxz_new w1).alloc _).step hb2);have ycz:=Lib.hid yc;obtain ⟨ycl,yc0,yc1,yc2,yc3,yc4,yc5⟩:=yc));(try (have yd:BxZ w2 (w1.heap.size+1):=(by simpa using (bxz_new (w1.alloc _)).step hb2);have ydz:=Lib.hid yd;obtain ⟨ydl,yd0,yd1,yd2,yd3,yd4,yd5⟩:=yd));clear hc2 hf2;refine ⟨_,rfl,?_⟩))
    all_goals
      refine ⟨_,_,rfl,?_,by (repeat (first | with_reducible exact hW1 | with_reducible exact hW2 | with_reducible exact Below.refl _ _ | with_reducible refine below_drew ?_ | with_reducible refine Below.setCell ?_ (by first | omega | (simp;done) | (simp;omega)) _ | with_reducible refine Below.alloc ?_ (by first | omega | (simp;done) | (simp;omega)) _))⟩
      first
        | with_reducible exact two_new _ _ _ _ _ _ _
        | with_reducible exact (two_new _ _ _ _ _ _ _).symm
        | (with_reducible refine two_one ?_ ?_ ?_) <;> first | with_reducible exact yaz.out | with_reducible exact ybz.out | with_reducible exact ycz.out | with_reducible exact ydz.out | omega
        | (with_reducible refine two_two ?_) <;> (first | with_reducible exact yaz.out | with_reducible exact ybz.out | with_reducible exact ycz.out | with_reducible exact ydz.out)
        | (with_reducible refine (two_two ?_).symm) <;> (first | with_reducible exact yaz.out | with_reducible exact ybz.out | with_reducible exact ycz.out | with_reducible exact ydz.out)
  · rintro a' wc ⟨g,h,rfl,⟨⟨bl,p0,p1,p2⟩,cl,q0,q1,q2⟩,hb'⟩
    have HBC:=Lib.hid (HBW.out _ hb')
    clear hb' X0 X1 X2 Y0 Y1 Y2 hX hY
    have HAW:=Lib.hid (HA.out.below HBC.out);have HBW2:=Lib.hid (HBB.out.below HBC.out)
    have KC:=Lib.hid (refCmp_any ad n cap xs ad' n' cap' ys wc HAW.out.len HAW.out.cap (by have:=HAW.out.n90;omega) HAW.out.ok HAW.out.rd HBW2.out.len HBW2.out.cap (by have:=HBW2.out.n90;omega) HBW2.out.ok HBW2.out.rd)
    have HV:=Lib.hid (cmp_same HAW.out HBW2.out)
    by_cases c1:na=nb
    · subst c1
      by_cases c2:e=f
      · subst c2
        have HD:Hid (D=decide (xs=ys)):=by show D=_;rw [← HDD.out];simp
        go_wp2_with fail
        refine KC.out.mono ?_
        rintro r w4 ⟨rfl,q4,rfl⟩
        have HB4:=Lib.hid (below_drewN' HBC.out q4)
        have hv:=HV.out
        generalize cmpN (val xs) (val ys)=c at *
        generalize wc.drewN q4=w4 at *
        by_cases c3:xs=ys
        · rw [decide_eq_true c3] at HD
          rw [decide_eq_true c3] at hv
          have hc:c=0:=by simpa using hv
          subst hc
          clear hv
          go_wp2
          go_ret
          exact ⟨by rw [HD.out];rfl,HB4.out⟩
        · rw [decide_eq_false c3] at HD
          rw [decide_eq_false c3] at hv
          go_wp2
          go_ret
          exact ⟨by rw [HD.out];rfl,HB4.out⟩
      · have HD:Hid (D=false):=by show D=_;rw [← HDD.out];exact decide_eq_false (fun h=>c2 h.1.2)
        have hef:(e == f)=false:=by simpa using c2
        go_wp2_with fail
        go_ret
        exact ⟨by rw [HD.out];rfl,HBC.out⟩
    · have HD:Hid (D=false):=by show D=_;rw [← HDD.out];exact decide_eq_false (fun h=>c1 h.1.1)
      have hab:(na == nb)=false:=by simpa using c1
      go_wp2_with fail
      go_ret
      exact ⟨by rw [HD.out];rfl,HBC.out⟩
end Go.Proofs.YtnacbakcalcgaaaGreatDoor
namespace Go.Proofs.YtnacbakcalcgaaaGreatDoor
open Go.Shelf Go.RowKit Go.Lib
theorem sameN_allC:SameNC:=by
  intro neg ma ma' mn mc mc' m e W h1 h2
  have l1:=h1.n90;have l2:=h2.n90
  have:=rsame_core neg (.slice ma mn mc) e neg (.slice ma' mn mc') e neg ma mn mc m e neg ma' mn mc' m e W h1 h2 _ _ _ rfl _ _ _ rfl
    (fun V hV=>is_yes neg ma mn mc m e V h1.len h1.cap (by omega) h1.ok (h1.rd.below hV) h1.chk) (fun V hV=>is_yes neg ma' mn mc' m e V h2.len h2.cap (by omega) h2.ok (h2.rd.below hV) h2.chk)
  rwa [show decide ((neg=neg∧e=e)∧m=m)=true from decide_eq_true ⟨⟨rfl,rfl⟩,rfl⟩] at this
theorem refSame_yesC {t u:MT} {d:Nat} {w:World} (h:t.bare=u.bare) (hs:SndC t d) (hR:Rep w t) (hU:Rep w u):Calls Tryz.prog 17 #[t.c.val,u.c.val] w (BoolBelow true w):=refSame_anyC sameN_allC t u d w h hs hR hU
end Go.Proofs.YtnacbakcalcgaaaGreatDoor
namespace Go.Proofs.YtnacbakcalcgaaaGreatDoor
open Go.RowKit Go.Shelf
theorem info_i32:(Tryz.prog.info? 21).map (fun i=>(i.zero,i.size,i.bytes))=some (some (.int .i32 0),1,4):=by kernel_rfl
theorem wpl_app (w:World) {ops:Array Oper} {rest:List Oper} {o:Oper} {a:Act} {Q:Exit→Act→World→Prop}
    (hg:o.guard=none) (s x:Operand) (hop:o.op=.call { callee:=.builtin .append,args:=#[s,x],argTypes:=#[180,180] })
    (B:Nat) (v:Value) (n:Nat) (xs:List Value) (hs:a.eval s=v) (hown:w.ownsRow B 21 1 v n xs) (g:Nat) (y:Int) (hx:a.eval x=.slice (some ⟨g,0,none⟩) 1 1) (hc:w.cell? ⟨g,0,none⟩=some (.int .i32 y))
    (hn:n≤1000000000) (hB:B≤w.heap.size)
    (h:∀ v' w',w'.ownsRow B 21 1 v' (n+1) (xs++[.int .i32 y])→w.grownBy w' v.ownBlock→wpList Tryz.prog ops Q rest (a.put o.dst v') w') :
    wpList Tryz.prog ops Q (o::rest) a w:=by
  obtain ⟨i0,hi,hz0,hz1,hz2⟩:=info_parts info_i32
  refine wpList_append_own w hg s x 180 hop B 21 i0 (.int .i32 0) 1 4 Tryz.underlying180 hi hz0 hz1 hz2 rfl (by decide) v n xs hs hown ⟨g,0,none⟩ 1 1 [.int .i32 y] hx rfl ?_ ?_ (by unfold maxLen;omega) (by omega) hB (fun v' w' h1 h2 _=>h v' w' h1 h2)
  · intro j u hj
    match j,hj with
    | 0,hj=>simp at hj;subst hj;simpa [Addr.add] using hc
  · intro u hu;simp at hu;subst hu;rfl
def rv (l:List Int):List Value:=l.map (Value.int .i32)
def RunesPost (l:List Int) (w:World) (e:Ending) (w':World):Prop :=
  ∃ v,e=.returned v∧w'.ownsRow w.heap.size 21 1 v l.length (rv l)∧Below w.heap.size w w'
def RR (s:ByteArray) (B IT:Nat) (w:World) (k:Nat) (v:Value) (wr:World):Prop :=
  ∃ pos acc,s.size - pos≤k∧acc++runesL (tailL s pos)=runesL s.data.toList∧acc.length≤pos∧pos≤s.size∧wr.ownsRow B 21 1 v acc.length (rv acc)∧wr.heap[IT]? = some (.stringIter s pos)∧Below B w wr
theorem own_below {w w':World} {B:Nat} {e:TypeId} {v:Value} {n:Nat} {xs:List Value} (h:w.ownsRow B e 1 v n xs) (hb:Below w.heap.size w w'):w'.ownsRow B e 1 v n xs:=by
  refine ⟨h.1,?_⟩
  rcases h.2 with h2 | ⟨g,cap,cur,rfl,hB,hg,rest⟩
  · exact .inl h2
  · refine .inr ⟨g,cap,cur,rfl,hB,?_,rest⟩
    rw [hb.block g (Array.getElem?_eq_some_iff.1 hg).1];exact hg
theorem iter_grown {w w':World} {B:Nat} {e:TypeId} {v:Value} {n:Nat} {xs:List Value} {IT:Nat} {s:ByteArray} {p:Nat} (hi:w.heap[IT]? = some (.stringIter s p)) (h:w.ownsRow B e 1 v n xs) (hg:w.grownBy w' v.ownBlock):w'.heap[IT]? = some (.stringIter s p):=by
  rw [hg.block IT (Array.getElem?_eq_some_iff.1 hi).1];exact hi
  intro e
  rcases h.2 with ⟨rfl,_⟩ | ⟨g,cap,cur,rfl,hB,hg,rest⟩
  · simp [Value.ownBlock] at e
  · simp [Value.ownBlock] at e;subst e;rw [hg] at hi;cases hi
theorem iter_alloc {w:World} {IT:Nat} {s:ByteArray} {p:Nat} (hi:w.heap[IT]? = some (.stringIter s p)) (o:Obj):(w.alloc o).heap[IT]? = some (.stringIter s p):=by
  rw [Lib.alloc_old w o IT (Array.getElem?_eq_some_iff.1 hi).1];exact hi
theorem RR.step {s:ByteArray} {B IT:Nat} {w wr w':World} {k pos:Nat} {acc:List Int} {v v':Value} {o:Obj} (hp:pos<s.size) (hk:s.size - pos≤k+1) (ha:acc++runesL (tailL s pos)=runesL s.data.toList) (hl:acc.length≤pos)
    (ho:wr.ownsRow B 21 1 v acc.length (rv acc)) (hi:wr.heap[IT]? = some (.stringIter s (pos+(runeL (tailL s pos)).2))) (hb:Below B w wr) (hB:B≤wr.heap.size)
    (h1:w'.ownsRow B 21 1 v' (acc.length+1) (rv acc++[.int .i32 (runeL (tailL s pos)).1])) (h2:(wr.alloc o).grownBy w' v.ownBlock):RR s B IT w k v' w':=by
  have hw:=runeL_width (tailL s pos) (tailL_ne hp)
  rw [tailL_length] at hw
  refine ⟨pos+(runeL (tailL s pos)).2,acc++[(runeL (tailL s pos)).1],by omega,?_,by simp;omega,by omega,?_,?_,?_⟩
  · rw [← ha,runesL_cons (tailL_ne hp),tailL_drop];simp
  · simpa [rv] using h1
  · exact iter_grown (iter_alloc hi o) (ho.alloc o) h2
  · exact (hb.alloc hB o).grown h2 (by simp;omega) (fun g hg=>(ho.lt g hg).1)
def Rk (k:IntKind) (w:World) (ad:Option Addr) (xs:List Int):Prop :=
  ∀ i,i<xs.length→∃ b o,ad=some ⟨b,o,none⟩∧b<w.heap.size∧w.cell? ⟨b,o+i,none⟩=some (.int k (xs.getD i 0))
theorem Rk.at {k:IntKind} {w:World} {b o:Nat} {xs:List Int} (h:Rk k w (some ⟨b,o,none⟩) xs) (i:Nat) (hi:i<xs.length) :
    w.cell? ⟨b,o+i,none⟩=some (.int k (xs.getD i 0)):=by
  obtain ⟨b',o',e,_,hc⟩:=h i hi
  cases e;exact hc
theorem Rk.nil (k:IntKind) (w:World) (ad:Option Addr):Rk k w ad []:=by intro i h;simp at h
theorem Rk.below {k:IntKind} {w w':World} {ad:Option Addr} {xs:List Int} (h:Rk k w ad xs) (hb:Below w.heap.size w w'):Rk k w' ad xs:=by
  intro i hi
  obtain ⟨b,o,e,hlt,hc⟩:=h i hi
  exact ⟨b,o,e,Nat.lt_of_lt_of_le hlt hb.size,by rw [hb.cell (p:=⟨b,o+i,none⟩) hlt];exact hc⟩
theorem own_rk {w:World} {B:Nat} {v:Value} {l:List Int} (h:w.ownsRow B 21 1 v l.length (rv l)) :
    ∃ ad cap,v=.slice ad l.length cap∧l.length≤cap∧Rk .i32 w ad l:=by
  rcases h.2 with ⟨rfl,h0⟩ | ⟨g,cap,cur,rfl,hB,hg,hc,rest⟩
  · have:l=[]:=List.eq_nil_of_length_eq_zero h0
    subst this
    exact ⟨none,0,rfl,Nat.le_refl _,Rk.nil _ _ _⟩
  · refine ⟨_,cap,rfl,hc,?_⟩
    intro i hi
    refine ⟨g,0,rfl,(Array.getElem?_eq_some_iff.1 hg).1,?_⟩
    have:=World.ownsRow.cells h (g:=g) rfl i (.int .i32 (l.getD i 0)) (by simp [rv,List.getD,hi])
    have hadd:(⟨g,0,none⟩:Addr).add i=⟨g,0+i,none⟩:=by unfold Addr.add;split <;> simp_all
    rw [hadd] at this;exact this
end Go.Proofs.YtnacbakcalcgaaaGreatDoor
namespace Go.Proofs.YtnacbakcalcgaaaGreatDoor
open Go.RowKit Go.Shelf Go.Lib
theorem bt_get8 (s:ByteArray) (k:Nat) (h:k<s.size):bt s.data.toList k=(s[k]'h).toNat:=by
  unfold bt;rw [← get!_list];rw [Utf8W.get!_of_lt s k h]
theorem and192a:∀ x:Fin 256,bits .and .u8 ((x.val:Nat):Int) 192=((x.val / 64*64:Nat):Int):=by decide
def contB (s:ByteArray) (k:Nat):Bool:=decide (k<s.size∧bt s.data.toList k / 64=2)
theorem cont_any (s:ByteArray) (k:Nat) (w:World) (hs:s.size≤maxLen) (hk:k≤maxLen) :
    Calls Tryz.prog 209 #[.string s,.int .i64 k] w fun e w'=>e=.returned (.bool (contB s k))∧w=w':=by
  unfold maxLen at hs hk
  by_cases h0:k<s.size
  · have h0z:(k:Int)<(s.size:Int):=by omega
    have hx:=and192a ⟨(s[k]'h0).toNat,(s[k]'h0).toNat_lt⟩
    simp only at hx
    have hc:contB s k=decide ((s[k]'h0).toNat / 64=2):=by
      unfold contB;rw [← bt_get8 s k h0];simp [h0]
    have HC:=Lib.hid hc
    clear hc
    generalize hX:(s[k]'h0)=x at *
    by_cases h2:x.toNat / 64=2
    · rw [h2] at hx
      have hC:=Lib.hid (show contB s k=true by rw [HC.out];exact decide_eq_true h2)
      clear HC h2
      go_enter Tryz.func209,Tryz.ntmps209
      go_wp2
      go_ret
      exact ⟨by rw [hC.out];rfl,rfl⟩
    · have hC:=Lib.hid (show contB s k=false by rw [HC.out];exact decide_eq_false h2)
      have hne:((x.toNat / 64*64:Nat):Int) ≠ 128:=by omega
      generalize x.toNat / 64*64=y at *
      have hneb:(((y:Nat):Int) == 128)=false:=by simpa using hne
      clear HC h2 hne
      go_enter Tryz.func209,Tryz.ntmps209
      go_wp2
      go_ret
      exact ⟨by rw [hC.out];rfl,rfl⟩
  · have h0z:¬ (k:Int)<(s.size:Int):=by omega
    have hC:=Lib.hid (show contB s k=false from decide_eq_false (by omega))
    go_enter Tryz.func209,Tryz.ntmps209
    go_wp2
    go_ret
    exact ⟨by rw [hC.out];rfl,rfl⟩
theorem and31:∀ x:Fin 256,bits .and .i32 ((x.val:Nat):Int) 31=((x.val:Nat):Int) % 32:=by decide
theorem and15:∀ x:Fin 256,bits .and .i32 ((x.val:Nat):Int) 15=((x.val:Nat):Int) % 16:=by decide
theorem and7i:∀ x:Fin 256,bits .and .i32 ((x.val:Nat):Int) 7=((x.val:Nat):Int) % 8:=by decide
def RunePost (r m:Int) (w:World) (e:Ending) (w':World):Prop:=e=.returned (.tuple #[.int .i32 r,.int .i64 m])∧∃ q,w'=w.drewN q
theorem refRune_one (s:ByteArray) (n:Nat) (w:World) (hs:s.size≤1000000) (hn:n<s.size) (x0:UInt8) (h0:s[n]'hn=x0) (hx:0≤x0.toNat∧x0.toNat<128) :
    Calls Tryz.prog 197 #[.string s,.int .i64 n] w (RunePost ((x0.toNat:Nat):Int) 1 w):=by
  have a1:¬ ((s.size:Int)≤(n:Int)):=by omega
  have a6:decide ((n:Int)<0)=false:=decide_eq_false (by omega)
  have l0:=x0.toNat_lt
  have e0:decide ((x0.toNat:Int)<128)=true:=decide_eq_true (by omega)
  have e1:decide ((194:Int)≤(x0.toNat:Int))=false:=decide_eq_false (by omega)
  have e2:decide ((x0.toNat:Int)<224)=true:=decide_eq_true (by omega)
  have e3:decide ((224:Int)≤(x0.toNat:Int))=false:=decide_eq_false (by omega)
  have e4:decide ((x0.toNat:Int)<240)=true:=decide_eq_true (by omega)
  have e5:decide ((240:Int)≤(x0.toNat:Int))=false:=decide_eq_false (by omega)
  have e6:decide ((x0.toNat:Int)<245)=true:=decide_eq_true (by omega)
  go_enter Tryz.func197,Tryz.ntmps197
  go_wp2
  go_ret2
  exact ⟨rfl,0,rfl⟩
theorem refRune_c (s:ByteArray) (n:Nat) (w:World) (hs:s.size≤1000000) (hn:n<s.size) (x0:UInt8) (h0:s[n]'hn=x0) (hx:128≤x0.toNat∧x0.toNat<194) :
    Calls Tryz.prog 197 #[.string s,.int .i64 n] w (RunePost (-1) 1 w):=by
  have a1:¬ ((s.size:Int)≤(n:Int)):=by omega
  have a6:decide ((n:Int)<0)=false:=decide_eq_false (by omega)
  have l0:=x0.toNat_lt
  have e0:decide ((x0.toNat:Int)<128)=false:=decide_eq_false (by omega)
  have e1:decide ((194:Int)≤(x0.toNat:Int))=false:=decide_eq_false (by omega)
  have e2:decide ((x0.toNat:Int)<224)=true:=decide_eq_true (by omega)
  have e3:decide ((224:Int)≤(x0.toNat:Int))=false:=decide_eq_false (by omega)
  have e4:decide ((x0.toNat:Int)<240)=true:=decide_eq_true (by omega)
  have e5:decide ((240:Int)≤(x0.toNat:Int))=false:=decide_eq_false (by omega)
  have e6:decide ((x0.toNat:Int)<245)=true:=decide_eq_true (by omega)
  go_enter Tryz.func197,Tryz.ntmps197
  go_wp2
  go_ret2
  exact ⟨rfl,0,rfl⟩
theorem refRune_z (s:ByteArray) (n:Nat) (w:World) (hs:s.size≤1000000) (hn:n<s.size) (x0:UInt8) (h0:s[n]'hn=x0) (hx:245≤x0.toNat∧x0.toNat<256) :
    Calls Tryz.prog 197 #[.string s,.int .i64 n] w (RunePost (-1) 1 w):=by
  have a1:¬ ((s.size:Int)≤(n:Int)):=by omega
  have a6:decide ((n:Int)<0)=false:=decide_eq_false (by omega)
  have l0:=x0.toNat_lt
  have e0:decide ((x0.toNat:Int)<128)=false:=decide_eq_false (by omega)
  have e1:decide ((194:Int)≤(x0.toNat:Int))=true:=decide_eq_true (by omega)
  have e2:decide ((x0.toNat:Int)<224)=false:=decide_eq_false (by omega)
  have e3:decide ((224:Int)≤(x0.toNat:Int))=true:=decide_eq_true (by omega)
  have e4:decide ((x0.toNat:Int)<240)=false:=decide_eq_false (by omega)
  have e5:decide ((240:Int)≤(x0.toNat:Int))=true:=decide_eq_true (by omega)
  have e6:decide ((x0.toNat:Int)<245)=false:=decide_eq_false (by omega)
  go_enter Tryz.func197,Tryz.ntmps197
  go_wp2
  go_ret2
  exact ⟨rfl,0,rfl⟩
theorem refRune_d0 (s:ByteArray) (n:Nat) (w:World) (hs:s.size≤1000000) (hn:n<s.size) (x0:UInt8) (h0:s[n]'hn=x0) (hx:194≤x0.toNat∧x0.toNat<224) (c1:contB s (n+1)=false) :
    Calls Tryz.prog 197 #[.string s,.int .i64 n] w (RunePost (-1) 1 w):=by
  have a1:¬ ((s.size:Int)≤(n:Int)):=by omega
  have a6:decide ((n:Int)<0)=false:=decide_eq_false (by omega)
  have l0:=x0.toNat_lt
  have K1:=Lib.hid (fun W=>cont_any s (n+1) W (by unfold maxLen;omega) (by unfold maxLen;omega))
  rw [c1] at K1
  clear c1
  have e0:decide ((x0.toNat:Int)<128)=false:=decide_eq_false (by omega)
  have e1:decide ((194:Int)≤(x0.toNat:Int))=true:=decide_eq_true (by omega)
  have e2:decide ((x0.toNat:Int)<224)=true:=decide_eq_true (by omega)
  have e3:decide ((224:Int)≤(x0.toNat:Int))=false:=decide_eq_false (by omega)
  have e4:decide ((x0.toNat:Int)<240)=true:=decide_eq_true (by omega)
  have e5:decide ((240:Int)≤(x0.toNat:Int))=false:=decide_eq_false (by omega)
  have e6:decide ((x0.toNat:Int)<245)=true:=decide_eq_true (by omega)
  go_enter Tryz.func197,Tryz.ntmps197
  go_wp2_with fail
  refine (K1.out _).mono ?_
  rintro r w' ⟨rfl,rfl⟩
  go_wp2
  go_ret2
  exact ⟨rfl,0,rfl⟩
theorem refRune_e0 (s:ByteArray) (n:Nat) (w:World) (hs:s.size≤1000000) (hn:n<s.size) (x0:UInt8) (h0:s[n]'hn=x0) (hx:224≤x0.toNat∧x0.toNat<240) (c1:contB s (n+1)=false) :
    Calls Tryz.prog 197 #[.string s,.int .i64 n] w (RunePost (-1) 1 w):=by
  have a1:¬ ((s.size:Int)≤(n:Int)):=by omega
  have a6:decide ((n:Int)<0)=false:=decide_eq_false (by omega)
  have l0:=x0.toNat_lt
  have K1:=Lib.hid (fun W=>cont_any s (n+1) W (by unfold maxLen;omega) (by unfold maxLen;omega))
  rw [c1] at K1
  clear c1
  have e0:decide ((x0.toNat:Int)<128)=false:=decide_eq_false (by omega)
  have e1:decide ((194:Int)≤(x0.toNat:Int))=true:=decide_eq_true (by omega)
  have e2:decide ((x0.toNat:Int)<224)=false:=decide_eq_false (by omega)
  have e3:decide ((224:Int)≤(x0.toNat:Int))=true:=decide_eq_true (by omega)
  have e4:decide ((x0.toNat:Int)<240)=true:=decide_eq_true (by omega)
  have e5:decide ((240:Int)≤(x0.toNat:Int))=false:=decide_eq_false (by omega)
  have e6:decide ((x0.toNat:Int)<245)=true:=decide_eq_true (by omega)
  go_enter Tryz.func197,Tryz.ntmps197
  go_wp2_with fail
  refine (K1.out _).mono ?_
  rintro r w' ⟨rfl,rfl⟩
  go_wp2
  go_ret2
  exact ⟨rfl,0,rfl⟩
theorem refRune_e1 (s:ByteArray) (n:Nat) (w:World) (hs:s.size≤1000000) (hn:n<s.size) (x0:UInt8) (h0:s[n]'hn=x0) (hx:224≤x0.toNat∧x0.toNat<240) (c1:contB s (n+1)=true) (c2:contB s (n+2)=false) :
    Calls Tryz.prog 197 #[.string s,.int .i64 n] w (RunePost (-1) 1 w):=by
  have a1:¬ ((s.size:Int)≤(n:Int)):=by omega
  have a6:decide ((n:Int)<0)=false:=decide_eq_false (by omega)
  have l0:=x0.toNat_lt
  have K1:=Lib.hid (fun W=>cont_any s (n+1) W (by unfold maxLen;omega) (by unfold maxLen;omega))
  rw [c1] at K1
  have K2:=Lib.hid (fun W=>cont_any s (n+2) W (by unfold maxLen;omega) (by unfold maxLen;omega))
  rw [c2] at K2
  clear c1 c2
  have e0:decide ((x0.toNat:Int)<128)=false:=decide_eq_false (by omega)
  have e1:decide ((194:Int)≤(x0.toNat:Int))=true:=decide_eq_true (by omega)
  have e2:decide ((x0.toNat:Int)<224)=false:=decide_eq_false (by omega)
  have e3:decide ((224:Int)≤(x0.toNat:Int))=true:=decide_eq_true (by omega)
  have e4:decide ((x0.toNat:Int)<240)=true:=decide_eq_true (by omega)
  have e5:decide ((240:Int)≤(x0.toNat:Int))=false:=decide_eq_false (by omega)
  have e6:decide ((x0.toNat:Int)<245)=true:=decide_eq_true (by omega)
  go_enter Tryz.func197,Tryz.ntmps197
  go_wp2_with fail
  refine (K1.out _).mono ?_
  rintro r w' ⟨rfl,rfl⟩
  go_wp2_with fail
  refine (K2.out _).mono ?_
  rintro r w' ⟨rfl,rfl⟩
  go_wp2
  go_ret2
  exact ⟨rfl,0,rfl⟩
theorem refRune_f0 (s:ByteArray) (n:Nat) (w:World) (hs:s.size≤1000000) (hn:n<s.size) (x0:UInt8) (h0:s[n]'hn=x0) (hx:240≤x0.toNat∧x0.toNat<245) (c1:contB s (n+1)=false) :
    Calls Tryz.prog 197 #[.string s,.int .i64 n] w (RunePost (-1) 1 w):=by
  have a1:¬ ((s.size:Int)≤(n:Int)):=by omega
  have a6:decide ((n:Int)<0)=false:=decide_eq_false (by omega)
  have l0:=x0.toNat_lt
  have K1:=Lib.hid (fun W=>cont_any s (n+1) W (by unfold maxLen;omega) (by unfold maxLen;omega))
  rw [c1] at K1
  clear c1
  have e0:decide ((x0.toNat:Int)<128)=false:=decide_eq_false (by omega)
  have e1:decide ((194:Int)≤(x0.toNat:Int))=true:=decide_eq_true (by omega)
  have e2:decide ((x0.toNat:Int)<224)=false:=decide_eq_false (by omega)
  have e3:decide ((224:Int)≤(x0.toNat:Int))=true:=decide_eq_true (by omega)
  have e4:decide ((x0.toNat:Int)<240)=false:=decide_eq_false (by omega)
  have e5:decide ((240:Int)≤(x0.toNat:Int))=true:=decide_eq_true (by omega)
  have e6:decide ((x0.toNat:Int)<245)=true:=decide_eq_true (by omega)
  go_enter Tryz.func197,Tryz.ntmps197
  go_wp2_with fail
  refine (K1.out _).mono ?_
  rintro r w' ⟨rfl,rfl⟩
  go_wp2
  go_ret2
  exact ⟨rfl,0,rfl⟩
theorem refRune_f1 (s:ByteArray) (n:Nat) (w:World) (hs:s.size≤1000000) (hn:n<s.size) (x0:UInt8) (h0:s[n]'hn=x0) (hx:240≤x0.toNat∧x0.toNat<245) (c1:contB s (n+1)=true) (c2:contB s (n+2)=false) :
    Calls Tryz.prog 197 #[.string s,.int .i64 n] w (RunePost (-1) 1 w):=by
  have a1:¬ ((s.size:Int)≤(n:Int)):=by omega
  have a6:decide ((n:Int)<0)=false:=decide_eq_false (by omega)
  have l0:=x0.toNat_lt
  have K1:=Lib.hid (fun W=>cont_any s (n+1) W (by unfold maxLen;omega) (by unfold maxLen;omega))
  rw [c1] at K1
  have K2:=Lib.hid (fun W=>cont_any s (n+2) W (by unfold maxLen;omega) (by unfold maxLen;omega))
  rw [c2] at K2
  clear c1 c2
  have e0:decide ((x0.toNat:Int)<128)=false:=decide_eq_false (by omega)
  have e1:decide ((194:Int)≤(x0.toNat:Int))=true:=decide_eq_true (by omega)
  have e2:decide ((x0.toNat:Int)<224)=false:=decide_eq_false (by omega)
  have e3:decide ((224:Int)≤(x0.toNat:Int))=true:=decide_eq_true (by omega)
  have e4:decide ((x0.toNat:Int)<240)=false:=decide_eq_false (by omega)
  have e5:decide ((240:Int)≤(x0.toNat:Int))=true:=decide_eq_true (by omega)
  have e6:decide ((x0.toNat:Int)<245)=true:=decide_eq_true (by omega)
  go_enter Tryz.func197,Tryz.ntmps197
  go_wp2_with fail
  refine (K1.out _).mono ?_
  rintro r w' ⟨rfl,rfl⟩
  go_wp2_with fail
  refine (K2.out _).mono ?_
  rintro r w' ⟨rfl,rfl⟩
  go_wp2
  go_ret2
  exact ⟨rfl,0,rfl⟩
theorem refRune_f2 (s:ByteArray) (n:Nat) (w:World) (hs:s.size≤1000000) (hn:n<s.size) (x0:UInt8) (h0:s[n]'hn=x0) (hx:240≤x0.toNat∧x0.toNat<245) (c1:contB s (n+1)=true) (c2:contB s (n+2)=true) (c3:contB s (n+3)=false) :
    Calls Tryz.prog 197 #[.string s,.int .i64 n] w (RunePost (-1) 1 w):=by
  have a1:¬ ((s.size:Int)≤(n:Int)):=by omega
  have a6:decide ((n:Int)<0)=false:=decide_eq_false (by omega)
  have l0:=x0.toNat_lt
  have K1:=Lib.hid (fun W=>cont_any s (n+1) W (by unfold maxLen;omega) (by unfold maxLen;omega))
  rw [c1] at K1
  have K2:=Lib.hid (fun W=>cont_any s (n+2) W (by unfold maxLen;omega) (by unfold maxLen;omega))
  rw [c2] at K2
  have K3:=Lib.hid (fun W=>cont_any s (n+3) W (by unfold maxLen;omega) (by unfold maxLen;omega))
  rw [c3] at K3
  clear c1 c2 c3
  have e0:decide ((x0.toNat:Int)<128)=false:=decide_eq_false (by omega)
  have e1:decide ((194:Int)≤(x0.toNat:Int))=true:=decide_eq_true (by omega)
  have e2:decide ((x0.toNat:Int)<224)=false:=decide_eq_false (by omega)
  have e3:decide ((224:Int)≤(x0.toNat:Int))=true:=decide_eq_true (by omega)
  have e4:decide ((x0.toNat:Int)<240)=false:=decide_eq_false (by omega)
  have e5:decide ((240:Int)≤(x0.toNat:Int))=true:=decide_eq_true (by omega)
  have e6:decide ((x0.toNat:Int)<245)=true:=decide_eq_true (by omega)
  go_enter Tryz.func197,Tryz.ntmps197
  go_wp2_with fail
  refine (K1.out _).mono ?_
  rintro r w' ⟨rfl,rfl⟩
  go_wp2_with fail
  refine (K2.out _).mono ?_
  rintro r w' ⟨rfl,rfl⟩
  go_wp2_with fail
  refine (K3.out _).mono ?_
  rintro r w' ⟨rfl,rfl⟩
  go_wp2
  go_ret2
  exact ⟨rfl,0,rfl⟩
theorem refRune_d1 (s:ByteArray) (n:Nat) (w:World) (hs:s.size≤1000000) (hn:n<s.size) (x0 x1:UInt8) (h0:s[n]'hn=x0) (hx:194≤x0.toNat∧x0.toNat<224) (c1:contB s (n+1)=true) (hn1:n+1<s.size) (h1:s[n+1]'hn1=x1) :
    Calls Tryz.prog 197 #[.string s,.int .i64 n] w (RunePost ((x0.toNat % 32*64+x1.toNat % 64:Nat):Int) 2 w):=by
  have a1:¬ ((s.size:Int)≤(n:Int)):=by omega
  have a6:decide ((n:Int)<0)=false:=decide_eq_false (by omega)
  have l0:=x0.toNat_lt
  have K1:=Lib.hid (fun W=>cont_any s (n+1) W (by unfold maxLen;omega) (by unfold maxLen;omega))
  rw [c1] at K1
  clear c1
  have e0:decide ((x0.toNat:Int)<128)=false:=decide_eq_false (by omega)
  have e1:decide ((194:Int)≤(x0.toNat:Int))=true:=decide_eq_true (by omega)
  have e2:decide ((x0.toNat:Int)<224)=true:=decide_eq_true (by omega)
  have e3:decide ((224:Int)≤(x0.toNat:Int))=false:=decide_eq_false (by omega)
  have e4:decide ((x0.toNat:Int)<240)=true:=decide_eq_true (by omega)
  have e5:decide ((240:Int)≤(x0.toNat:Int))=false:=decide_eq_false (by omega)
  have e6:decide ((x0.toNat:Int)<245)=true:=decide_eq_true (by omega)
  have l1:=x1.toNat_lt
  have z1:(n:Int)+1<(s.size:Int):=by omega
  have t1:((n:Int)+1).toNat=n+1:=by omega
  have m0:=and31 ⟨x0.toNat,l0⟩
  simp only at m0
  go_enter Tryz.func197,Tryz.ntmps197
  go_wp2_with fail
  refine (K1.out _).mono ?_
  rintro r w' ⟨rfl,rfl⟩
  go_wp2
  go_ret2
  exact ⟨rfl,0,rfl⟩
theorem ret_two {a b c d:Int} (h1:a=c) (h2:b=d):Ending.returned (.tuple #[.int .i32 a,.int .i64 b])=.returned (.tuple #[.int .i32 c,.int .i64 d]):=by rw [h1,h2]
def r3 (c:Nat):Int:=if 2048≤c∧(c<55296∨57343<c) then c else -1
def m3 (c:Nat):Int:=if 2048≤c∧(c<55296∨57343<c) then 3 else 1
def r4 (c:Nat):Int:=if 65536≤c∧c≤1114111 then c else -1
def m4 (c:Nat):Int:=if 65536≤c∧c≤1114111 then 4 else 1
theorem r3_yes {c:Nat} {z:Int} (hz:z=c) (h:2048≤c∧(c<55296∨57343<c)):z=r3 c:=by unfold r3;rw [if_pos h,hz]
theorem r3_no {c:Nat} (h:¬ (2048≤c∧(c<55296∨57343<c))):-1=r3 c:=by unfold r3;rw [if_neg h]
theorem m3_yes {c:Nat} (h:2048≤c∧(c<55296∨57343<c)):3=m3 c:=by unfold m3;rw [if_pos h]
theorem m3_no {c:Nat} (h:¬ (2048≤c∧(c<55296∨57343<c))):1=m3 c:=by unfold m3;rw [if_neg h]
theorem r4_yes {c:Nat} {z:Int} (hz:z=c) (h:65536≤c∧c≤1114111):z=r4 c:=by unfold r4;rw [if_pos h,hz]
theorem r4_no {c:Nat} (h:¬ (65536≤c∧c≤1114111)):-1=r4 c:=by unfold r4;rw [if_neg h]
theorem m4_yes {c:Nat} (h:65536≤c∧c≤1114111):4=m4 c:=by unfold m4;rw [if_pos h]
theorem m4_no {c:Nat} (h:¬ (65536≤c∧c≤1114111)):1=m4 c:=by unfold m4;rw [if_neg h]
theorem refRune_e2 (s:ByteArray) (n:Nat) (w:World) (hs:s.size≤1000000) (hn:n<s.size) (x0 x1 x2:UInt8) (h0:s[n]'hn=x0) (hx:224≤x0.toNat∧x0.toNat<240) (c1:contB s (n+1)=true) (c2:contB s (n+2)=true) (hn1:n+1<s.size) (h1:s[n+1]'hn1=x1) (hn2:n+2<s.size) (h2:s[n+2]'hn2=x2) :
    Calls Tryz.prog 197 #[.string s,.int .i64 n] w (RunePost (r3 (x0.toNat % 16*4096+x1.toNat % 64*64+x2.toNat % 64)) (m3 (x0.toNat % 16*4096+x1.toNat % 64*64+x2.toNat % 64)) w):=by
  have a1:¬ ((s.size:Int)≤(n:Int)):=by omega
  have a6:decide ((n:Int)<0)=false:=decide_eq_false (by omega)
  have l0:=x0.toNat_lt
  have l1:=x1.toNat_lt
  have z1:(n:Int)+1<(s.size:Int):=by omega
  have t1:((n:Int)+1).toNat=n+1:=by omega
  have w1:IntKind.i64.wrap ((n:Int)+1)=(n:Int)+1:=IntWalk.i64_in _ (by omega)
  have p1:0≤(n:Int)+1:=by omega
  have K1:=Lib.hid (fun W=>cont_any s (n+1) W (by unfold maxLen;omega) (by unfold maxLen;omega))
  rw [c1] at K1
  have l2:=x2.toNat_lt
  have z2:(n:Int)+2<(s.size:Int):=by omega
  have t2:((n:Int)+2).toNat=n+2:=by omega
  have w2:IntKind.i64.wrap ((n:Int)+2)=(n:Int)+2:=IntWalk.i64_in _ (by omega)
  have p2:0≤(n:Int)+2:=by omega
  have K2:=Lib.hid (fun W=>cont_any s (n+2) W (by unfold maxLen;omega) (by unfold maxLen;omega))
  rw [c2] at K2
  have e0:decide ((x0.toNat:Int)<128)=false:=decide_eq_false (by omega)
  have e1:decide ((194:Int)≤(x0.toNat:Int))=true:=decide_eq_true (by omega)
  have e2:decide ((x0.toNat:Int)<224)=false:=decide_eq_false (by omega)
  have e3:decide ((224:Int)≤(x0.toNat:Int))=true:=decide_eq_true (by omega)
  have e4:decide ((x0.toNat:Int)<240)=true:=decide_eq_true (by omega)
  have e5:decide ((240:Int)≤(x0.toNat:Int))=false:=decide_eq_false (by omega)
  have e6:decide ((x0.toNat:Int)<245)=true:=decide_eq_true (by omega)
  have m0:=and15 ⟨x0.toNat,l0⟩
  simp only at m0
  clear c1 c2
  go_enter Tryz.func197,Tryz.ntmps197
  go_wp2_with fail
  refine (K1.out _).mono ?_
  rintro r w' ⟨rfl,rfl⟩
  go_wp2_with fail
  refine (K2.out _).mono ?_
  rintro r w' ⟨rfl,rfl⟩
  go_wp2_with fail
  go_quiet (fail)
  go_wp2_with fail
  all_goals
    go_ret2
    first
      | exact ⟨ret_two (r3_yes (by omega) (by omega)) (m3_yes (by omega)),_,rfl⟩
      | exact ⟨ret_two (r3_no (by omega)) (m3_no (by omega)),_,rfl⟩
theorem refRune_f3 (s:ByteArray) (n:Nat) (w:World) (hs:s.size≤1000000) (hn:n<s.size) (x0 x1 x2 x3:UInt8) (h0:s[n]'hn=x0) (hx:240≤x0.toNat∧x0.toNat<245) (c1:contB s (n+1)=true) (c2:contB s (n+2)=true) (c3:contB s (n+3)=true) (hn1:n+1<s.size) (h1:s[n+1]'hn1=x1) (hn2:n+2<s.size) (h2:s[n+2]'hn2=x2) (hn3:n+3<s.size) (h3:s[n+3]'hn3=x3) :
    Calls Tryz.prog 197 #[.string s,.int .i64 n] w (RunePost (r4 (x0.toNat % 8*262144+x1.toNat % 64*4096+x2.toNat % 64*64+x3.toNat % 64)) (m4 (x0.toNat % 8*262144+x1.toNat % 64*4096+x2.toNat % 64*64+x3.toNat % 64)) w):=by
  have a1:¬ ((s.size:Int)≤(n:Int)):=by omega
  have a6:decide ((n:Int)<0)=false:=decide_eq_false (by omega)
  have l0:=x0.toNat_lt
  have l1:=x1.toNat_lt
  have z1:(n:Int)+1<(s.size:Int):=by omega
  have t1:((n:Int)+1).toNat=n+1:=by omega
  have w1:IntKind.i64.wrap ((n:Int)+1)=(n:Int)+1:=IntWalk.i64_in _ (by omega)
  have p1:0≤(n:Int)+1:=by omega
  have K1:=Lib.hid (fun W=>cont_any s (n+1) W (by unfold maxLen;omega) (by unfold maxLen;omega))
  rw [c1] at K1
  have l2:=x2.toNat_lt
  have z2:(n:Int)+2<(s.size:Int):=by omega
  have t2:((n:Int)+2).toNat=n+2:=by omega
  have w2:IntKind.i64.wrap ((n:Int)+2)=(n:Int)+2:=IntWalk.i64_in _ (by omega)
  have p2:0≤(n:Int)+2:=by omega
  have K2:=Lib.hid (fun W=>cont_any s (n+2) W (by unfold maxLen;omega) (by unfold maxLen;omega))
  rw [c2] at K2
  have l3:=x3.toNat_lt
  have z3:(n:Int)+3<(s.size:Int):=by omega
  have t3:((n:Int)+3).toNat=n+3:=by omega
  have w3:IntKind.i64.wrap ((n:Int)+3)=(n:Int)+3:=IntWalk.i64_in _ (by omega)
  have p3:0≤(n:Int)+3:=by omega
  have K3:=Lib.hid (fun W=>cont_any s (n+3) W (by unfold maxLen;omega) (by unfold maxLen;omega))
  rw [c3] at K3
  have e0:decide ((x0.toNat:Int)<128)=false:=decide_eq_false (by omega)
  have e1:decide ((194:Int)≤(x0.toNat:Int))=true:=decide_eq_true (by omega)
  have e2:decide ((x0.toNat:Int)<224)=false:=decide_eq_false (by omega)
  have e3:decide ((224:Int)≤(x0.toNat:Int))=true:=decide_eq_true (by omega)
  have e4:decide ((x0.toNat:Int)<240)=false:=decide_eq_false (by omega)
  have e5:decide ((240:Int)≤(x0.toNat:Int))=true:=decide_eq_true (by omega)
  have e6:decide ((x0.toNat:Int)<245)=true:=decide_eq_true (by omega)
  have m0:=and7i ⟨x0.toNat,l0⟩
  simp only at m0
  clear c1 c2 c3
  go_enter Tryz.func197,Tryz.ntmps197
  go_wp2_with fail
  refine (K1.out _).mono ?_
  rintro r w' ⟨rfl,rfl⟩
  go_wp2_with fail
  refine (K2.out _).mono ?_
  rintro r w' ⟨rfl,rfl⟩
  go_wp2_with fail
  refine (K3.out _).mono ?_
  rintro r w' ⟨rfl,rfl⟩
  go_wp2_with fail
  go_quiet (fail)
  go_wp2_with fail
  all_goals
    go_ret2
    first
      | exact ⟨ret_two (r4_yes (by omega) (by omega)) (m4_yes (by omega)),_,rfl⟩
      | exact ⟨ret_two (r4_no (by omega)) (m4_no (by omega)),_,rfl⟩
def runeN (m b0 b1 b2 b3:Nat):Int × Nat:=if decodeN m b0 b1 b2 b3=(65533,1) then (-1,1) else (((decodeN m b0 b1 b2 b3).1:Int),(decodeN m b0 b1 b2 b3).2)
theorem runeL_N (l:List UInt8):runeL l=runeN l.length (bt l 0) (bt l 1) (bt l 2) (bt l 3):=rfl
theorem rN_bad {m b0 b1 b2 b3:Nat} (h:decodeN m b0 b1 b2 b3=(65533,1)):runeN m b0 b1 b2 b3=(-1,1):=by unfold runeN;rw [if_pos h]
theorem rN_ok {m b0 b1 b2 b3 c k:Nat} (h:decodeN m b0 b1 b2 b3=(c,k)) (hk:k ≠ 1∨c<128):runeN m b0 b1 b2 b3=((c:Int),k):=by
  unfold runeN;rw [h,if_neg]
  intro e
  have e1:=congrArg Prod.fst e
  have e2:=congrArg Prod.snd e
  simp at e1 e2;omega
theorem rN_one {m b0 b1 b2 b3:Nat} (h:b0<128):runeN m b0 b1 b2 b3=((b0:Int),1):=by
  refine rN_ok ?_ (.inr h);unfold decodeN;rw [if_pos h]
theorem rN_none {m b0 b1 b2 b3:Nat} (h:(128≤b0∧b0<194)∨245≤b0) (hb:b0<256):runeN m b0 b1 b2 b3=(-1,1):=by
  refine rN_bad ?_
  unfold decodeN
  repeat' split
  all_goals first | rfl | (exfalso;omega)
theorem rN_d0 {m b0 b1 b2 b3:Nat} (h:194≤b0∧b0<224) (c1:¬ (1<m∧b1 / 64=2)):runeN m b0 b1 b2 b3=(-1,1):=by
  refine rN_bad ?_
  unfold decodeN
  rw [if_neg (by omega),if_neg (by rintro ⟨_,h⟩;exact c1 h),if_neg (by omega),if_neg (by omega)]
theorem rN_d1 {m b0 b1 b2 b3:Nat} (h:194≤b0∧b0<224) (c1:1<m∧b1 / 64=2):runeN m b0 b1 b2 b3=(((b0 % 32*64+b1 % 64:Nat):Int),2):=by
  refine rN_ok ?_ (.inl (by omega))
  unfold decodeN
  rw [if_neg (by omega),if_pos ⟨by omega,c1⟩,if_pos (by omega)]
theorem rN_e0 {m b0 b1 b2 b3:Nat} (h:224≤b0∧b0<240) (c:¬ ((1<m∧b1 / 64=2)∧(2<m∧b2 / 64=2))):runeN m b0 b1 b2 b3=(-1,1):=by
  refine rN_bad ?_
  unfold decodeN
  rw [if_neg (by omega),if_neg (by omega),if_neg (by rintro ⟨_,h⟩;exact c h),if_neg (by omega)]
theorem rN_e2 {m b0 b1 b2 b3:Nat} (h:224≤b0∧b0<240) (c1:1<m∧b1 / 64=2) (c2:2<m∧b2 / 64=2) :
    (runeN m b0 b1 b2 b3).1=r3 (b0 % 16*4096+b1 % 64*64+b2 % 64)∧((runeN m b0 b1 b2 b3).2:Int)=m3 (b0 % 16*4096+b1 % 64*64+b2 % 64):=by
  by_cases hc:2048≤b0 % 16*4096+b1 % 64*64+b2 % 64∧(b0 % 16*4096+b1 % 64*64+b2 % 64<55296∨57343<b0 % 16*4096+b1 % 64*64+b2 % 64)
  · have e:decodeN m b0 b1 b2 b3=(b0 % 16*4096+b1 % 64*64+b2 % 64,3):=by
      unfold decodeN
      rw [if_neg (by omega),if_neg (by omega),if_pos ⟨by omega,c1,c2⟩,if_pos (by omega)]
    rw [rN_ok e (.inl (by omega))]
    exact ⟨r3_yes rfl hc,m3_yes hc⟩
  · have e:decodeN m b0 b1 b2 b3=(65533,1):=by
      unfold decodeN
      rw [if_neg (by omega),if_neg (by omega),if_pos ⟨by omega,c1,c2⟩,if_neg (by omega)]
    rw [rN_bad e]
    exact ⟨r3_no hc,m3_no hc⟩
theorem rN_f0 {m b0 b1 b2 b3:Nat} (h:240≤b0∧b0<245) (c:¬ ((1<m∧b1 / 64=2)∧(2<m∧b2 / 64=2)∧(3<m∧b3 / 64=2))):runeN m b0 b1 b2 b3=(-1,1):=by
  refine rN_bad ?_
  unfold decodeN
  rw [if_neg (by omega),if_neg (by omega),if_neg (by omega),if_neg (by rintro ⟨_,h⟩;exact c h)]
theorem rN_f3 {m b0 b1 b2 b3:Nat} (h:240≤b0∧b0<245) (c1:1<m∧b1 / 64=2) (c2:2<m∧b2 / 64=2) (c3:3<m∧b3 / 64=2) :
    (runeN m b0 b1 b2 b3).1=r4 (b0 % 8*262144+b1 % 64*4096+b2 % 64*64+b3 % 64)∧((runeN m b0 b1 b2 b3).2:Int)=m4 (b0 % 8*262144+b1 % 64*4096+b2 % 64*64+b3 % 64):=by
  by_cases hc:65536≤b0 % 8*262144+b1 % 64*4096+b2 % 64*64+b3 % 64∧b0 % 8*262144+b1 % 64*4096+b2 % 64*64+b3 % 64≤1114111
  · have e:decodeN m b0 b1 b2 b3=(b0 % 8*262144+b1 % 64*4096+b2 % 64*64+b3 % 64,4):=by
      unfold decodeN
      rw [if_neg (by omega),if_neg (by omega),if_neg (by omega),if_pos ⟨by omega,c1,c2,c3⟩,if_pos (by omega)]
    rw [rN_ok e (.inl (by omega))]
    exact ⟨r4_yes rfl hc,m4_yes hc⟩
  · have e:decodeN m b0 b1 b2 b3=(65533,1):=by
      unfold decodeN
      rw [if_neg (by omega),if_neg (by omega),if_neg (by omega),if_pos ⟨by omega,c1,c2,c3⟩,if_neg (by omega)]
    rw [rN_bad e]
    exact ⟨r4_no hc,m4_no hc⟩
theorem RunePost.below {r m:Int} {w:World} {e:Ending} {w':World} (h:RunePost r m w e w'):e=.returned (.tuple #[.int .i32 r,.int .i64 m])∧Below w.heap.size w w':=by
  obtain ⟨he,q,rfl⟩:=h
  exact ⟨he,(Below.refl _ _).trans ⟨rfl,rfl,rfl,Nat.le_refl _,fun _ _=>rfl⟩⟩
theorem cont_yes {s:ByteArray} {k:Nat} (h:k<s.size∧bt s.data.toList k / 64=2):contB s k=true:=decide_eq_true h
theorem cont_no {s:ByteArray} {k:Nat} (h:¬ (k<s.size∧bt s.data.toList k / 64=2)):contB s k=false:=decide_eq_false h
theorem refRune_in (s:ByteArray) (n:Nat) (w:World) (hs:s.size≤1000000) (hn:n<s.size) :
    Calls Tryz.prog 197 #[.string s,.int .i64 n] w (RunePost (runeL (tailL s n)).1 ((runeL (tailL s n)).2:Int) w):=by
  have e0:bt (tailL s n) 0=(s[n]'hn).toNat:=by unfold tailL;rw [bt_drop,Nat.add_zero];exact bt_get8 s n hn
  have ek:∀ k,bt (tailL s n) k=bt s.data.toList (n+k):=fun k=>by unfold tailL;rw [bt_drop]
  have hl:=tailL_length s n
  rw [runeL_N,e0,ek 1,ek 2,ek 3,hl]
  have hx:=(s[n]'hn).toNat_lt
  have hc:∀ k,(k<s.size - n∧bt s.data.toList (n+k) / 64=2) ↔ (n+k<s.size∧bt s.data.toList (n+k) / 64=2):=fun k=>by constructor <;> rintro ⟨h1,h2⟩ <;> exact ⟨by omega,h2⟩
  have b0:=(s[n]'hn).toNat
  by_cases r0:(s[n]'hn).toNat<128
  · rw [rN_one r0]
    exact refRune_one s n w hs hn _ rfl ⟨by omega,r0⟩
  · by_cases r1:(s[n]'hn).toNat<194
    · rw [rN_none (.inl ⟨by omega,r1⟩) hx]
      exact refRune_c s n w hs hn _ rfl ⟨by omega,r1⟩
    · by_cases r2:(s[n]'hn).toNat<224
      · by_cases c1:n+1<s.size∧bt s.data.toList (n+1) / 64=2
        · rw [rN_d1 ⟨by omega,r2⟩ ((hc 1).2 c1),bt_get8 s (n+1) c1.1]
          exact refRune_d1 s n w hs hn _ _ rfl ⟨by omega,r2⟩ (cont_yes c1) c1.1 rfl
        · rw [rN_d0 ⟨by omega,r2⟩ (fun h=>c1 ((hc 1).1 h))]
          exact refRune_d0 s n w hs hn _ rfl ⟨by omega,r2⟩ (cont_no c1)
      · by_cases r3:(s[n]'hn).toNat<240
        · by_cases c1:n+1<s.size∧bt s.data.toList (n+1) / 64=2
          · by_cases c2:n+2<s.size∧bt s.data.toList (n+2) / 64=2
            · obtain ⟨p1,p2⟩:=rN_e2 (b3:=bt s.data.toList (n+3)) (show 224≤(s[n]'hn).toNat∧(s[n]'hn).toNat<240 from ⟨by omega,r3⟩) ((hc 1).2 c1) ((hc 2).2 c2)
              rw [p1,p2,bt_get8 s (n+1) c1.1,bt_get8 s (n+2) c2.1]
              exact refRune_e2 s n w hs hn _ _ _ rfl ⟨by omega,r3⟩ (cont_yes c1) (cont_yes c2) c1.1 rfl c2.1 rfl
            · rw [rN_e0 ⟨by omega,r3⟩ (fun h=>c2 ((hc 2).1 h.2))]
              exact refRune_e1 s n w hs hn _ rfl ⟨by omega,r3⟩ (cont_yes c1) (cont_no c2)
          · rw [rN_e0 ⟨by omega,r3⟩ (fun h=>c1 ((hc 1).1 h.1))]
            exact refRune_e0 s n w hs hn _ rfl ⟨by omega,r3⟩ (cont_no c1)
        · by_cases r4:(s[n]'hn).toNat<245
          · by_cases c1:n+1<s.size∧bt s.data.toList (n+1) / 64=2
            · by_cases c2:n+2<s.size∧bt s.data.toList (n+2) / 64=2
              · by_cases c3:n+3<s.size∧bt s.data.toList (n+3) / 64=2
                · obtain ⟨p1,p2⟩:=rN_f3 (show 240≤(s[n]'hn).toNat∧(s[n]'hn).toNat<245 from ⟨by omega,r4⟩) ((hc 1).2 c1) ((hc 2).2 c2) ((hc 3).2 c3)
                  rw [p1,p2,bt_get8 s (n+1) c1.1,bt_get8 s (n+2) c2.1,bt_get8 s (n+3) c3.1]
                  exact refRune_f3 s n w hs hn _ _ _ _ rfl ⟨by omega,r4⟩ (cont_yes c1) (cont_yes c2) (cont_yes c3) c1.1 rfl c2.1 rfl c3.1 rfl
                · rw [rN_f0 ⟨by omega,r4⟩ (fun h=>c3 ((hc 3).1 h.2.2))]
                  exact refRune_f2 s n w hs hn _ rfl ⟨by omega,r4⟩ (cont_yes c1) (cont_yes c2) (cont_no c3)
              · rw [rN_f0 ⟨by omega,r4⟩ (fun h=>c2 ((hc 2).1 h.2.1))]
                exact refRune_f1 s n w hs hn _ rfl ⟨by omega,r4⟩ (cont_yes c1) (cont_no c2)
            · rw [rN_f0 ⟨by omega,r4⟩ (fun h=>c1 ((hc 1).1 h.1))]
              exact refRune_f0 s n w hs hn _ rfl ⟨by omega,r4⟩ (cont_no c1)
          · rw [rN_none (.inr (by omega)) hx]
            exact refRune_z s n w hs hn _ rfl ⟨by omega,by omega⟩

def QR (s:ByteArray) (B:Nat) (w:World) (k:Nat) (v a:Value) (wr:World):Prop :=
  ∃ pos acc,s.size - pos≤k∧a=.int .i64 ((pos:Nat):Int)∧acc++runesL (tailL s pos)=runesL s.data.toList∧acc.length≤pos∧pos≤s.size∧wr.ownsRow B 21 1 v acc.length (rv acc)∧Below B w wr
theorem QR.step {s:ByteArray} {B:Nat} {w wr w':World} {k pos:Nat} {acc:List Int} {v v':Value} {o:Obj} (hp:pos<s.size) (hk:s.size - pos≤k+1) (ha:acc++runesL (tailL s pos)=runesL s.data.toList) (hl:acc.length≤pos)
    (ho:wr.ownsRow B 21 1 v acc.length (rv acc)) (hb:Below B w wr) (hB:B≤wr.heap.size)
    (h1:w'.ownsRow B 21 1 v' (acc.length+1) (rv acc++[.int .i32 (runeL (tailL s pos)).1])) (h2:(wr.alloc o).grownBy w' v.ownBlock):QR s B w k v' (.int .i64 ((pos+(runeL (tailL s pos)).2:Nat):Int)) w':=by
  have hw:=runeL_width (tailL s pos) (tailL_ne hp)
  rw [tailL_length] at hw
  refine ⟨pos+(runeL (tailL s pos)).2,acc++[(runeL (tailL s pos)).1],by omega,rfl,?_,by simp;omega,by omega,?_,?_⟩
  · rw [← ha,runesL_cons (tailL_ne hp),tailL_drop];simp
  · simpa [rv] using h1
  · exact (hb.alloc hB o).grown h2 (by simp;omega) (fun g hg=>(ho.lt g hg).1)
theorem refRunes_any (s:ByteArray) (w:World) (hs:s.size≤1000000) :
    Calls Tryz.prog 159 #[.string s] w (RunesPost (runesL s.data.toList) w):=by
  have hst:QR s w.heap.size w s.size (.slice none 0 0) (.int .i64 0) w :=
    ⟨0,[],by omega,rfl,by rw [tailL_zero];rfl,Nat.le_refl _,Nat.zero_le _,World.ownsRow_nil _ _ _ _,Below.refl _ _⟩
  have HST:=Lib.hid hst;clear hst
  have HUN:=Lib.hid (fun W (h:Below w.heap.size w W)=>h.size)
  generalize hB:w.heap.size=B at *
  have HB:=Lib.hid hB;clear hB
  go_enter Tryz.func159,Tryz.ntmps159
  go_wp2
  go_loopg [3,4] s.size (fun k v a wr=>QR s B w k v a wr)
  case atStart=>exact HST.out
  case round =>
    obtain ⟨pos,acc,hk,rfl,ha,hl,hps,ho,hb⟩:=hrel
    have HA:=Lib.hid ha;have HO:=Lib.hid ho;have HBL:=Lib.hid hb
    clear ha ho hb
    by_cases hp:pos<s.size
    · obtain ⟨k,rfl⟩:∃ k,gk=k+1:=⟨gk - 1,by omega⟩
      have hw:=runeL_width (tailL s pos) (tailL_ne hp)
      rw [tailL_length] at hw
      have KR:=Lib.hid ((refRune_in s pos wr hs hp).mono fun _ _ h=>h.below)
      have hpz:(pos:Int)<(s.size:Int):=by omega
      have HS:=Lib.hid (fun W o v' W' p1 p2 p3=>QR.step (s:=s) (B:=B) (w:=w) (wr:=W) (k:=k) (v:=u3) (v':=v') (o:=o) (w':=W') hp hk HA.out hl p1 p2 (HUN.out W p2) p3)
      generalize hd:(runeL (tailL s pos)).1=x at *
      generalize hm:(runeL (tailL s pos)).2=m at *
      clear hd hm
      go_wp2_with fail
      refine KR.out.mono ?_
      rintro r w1 ⟨rfl,h1⟩
      have ho1:=Lib.hid (own_below HO.out h1)
      have hb1:=Lib.hid (HBL.out.trans (h1.mono (HUN.out _ HBL.out)))
      clear h1
      go_wp2_with (at_builtin;refine wpl_app _ rfl _ _ rfl B _ acc.length (rv acc) rfl (ho1.out.alloc _) w1.heap.size x rfl (by simp) (by omega) (by have:=HUN.out _ hb1.out;simp;omega) ?_)
      intro v' w4 ho4 hg4
      have hr1:=HS.out w1 _ v' w4 ho1.out hb1.out ho4 hg4
      rw [Int.natCast_add] at hr1
      have HR:=Lib.hid hr1;clear hr1
      clear ho4 hg4
      go_wp2
      go_roundg k
      case rel=>exact HR.out
      case measure=>omega
    · have hpz:¬ (pos:Int)<(s.size:Int):=by omega
      have hac:acc=runesL s.data.toList:=by rw [← HA.out,tailL_end (by omega),runesL_nil,List.append_nil]
      have HR:=Lib.hid (show RunesPost (runesL s.data.toList) w (.returned u3) wr from ⟨_,rfl,by rw [HB.out,← hac];exact HO.out,by rw [HB.out];exact HBL.out⟩)
      clear hac
      go_wp2
      go_ret
      exact HR.out
theorem valid_get {l:List UInt8}:validL l=true ↔ ∀ i,i<(runesL l).length→0≤(runesL l).getD i 0:=by
  unfold validL
  rw [List.all_eq_true]
  constructor
  · intro h i hi
    have:=h (runesL l)[i] (List.getElem_mem hi)
    simpa [List.getD,hi] using this
  · intro h r hr
    obtain ⟨i,hi,rfl⟩:=List.getElem_of_mem hr
    have:=h i hi
    simpa [List.getD,hi] using this
def PR (X:List Int) (w:World) (k:Nat) (v:Value) (wr:World):Prop:=∃ i,X.length - i≤k∧i≤X.length∧v=.int .i64 ((i:Nat):Int)∧(∀ j,j<i→0≤X.getD j 0)∧wr=w
theorem refValid_any (s:ByteArray) (w:World) (hs:s.size≤1000000) :
    Calls Tryz.prog 118 #[.string s] w fun e w'=>e=.returned (.bool (validL s.data.toList))∧Below w.heap.size w w':=by
  have KR:=Lib.hid (refRunes_any s w hs)
  have hlen:=runesL_le s.data.toList
  have hsz:s.data.toList.length=s.size:=by simp
  rw [hsz] at hlen
  have HV:=Lib.hid (valid_get (l:=s.data.toList))
  clear hsz
  go_enter Tryz.func118,Tryz.ntmps118
  go_wp2_with fail
  refine KR.out.mono ?_
  rintro r w1 ⟨v,rfl,ho,hb⟩
  obtain ⟨ad,cap,rfl,hc,hr⟩:=own_rk ho
  have HR:=Lib.hid hr;have HB:=Lib.hid hb;have HC:=Lib.hid hc
  clear ho hr hb hc
  generalize hX:runesL s.data.toList=X at *
  have HX:=Lib.hid hX;clear hX
  go_wp2
  go_loopg [4] X.length (fun k v wr=>PR X w1 k v wr)
  case atStart=>exact ⟨0,by omega,Nat.zero_le _,rfl,fun j hj=>by omega,rfl⟩
  case round =>
    obtain ⟨i,hk,hi,rfl,hpos,rfl⟩:=hrel
    have HP:=Lib.hid hpos;clear hpos
    by_cases hp:i<X.length
    · obtain ⟨k,rfl⟩:∃ k,gk=k+1:=⟨gk - 1,by omega⟩
      obtain ⟨b1,o1,hd1,_,c1⟩:=HR.out i hp
      subst hd1
      have hpz:(i:Int)<(X.length:Int):=by omega
      have HS:=Lib.hid (fun (h:0≤X.getD i 0) j (hj:j<i+1)=>(by
        by_cases e:j=i
        · subst e;exact h
        · exact HP.out j (by omega):0≤X.getD j 0))
      have HF:=Lib.hid (fun (h:¬ 0≤X.getD i 0)=>(by
        cases hv:validL s.data.toList
        · rfl
        · exact absurd (HV.out.1 hv i hp) h:validL s.data.toList=false))
      generalize X.getD i 0=y at *
      by_cases hy:y<0
      · have HF2:=Lib.hid (HF.out (by omega))
        have hyb:decide (y<0)=true:=decide_eq_true hy
        go_wp2
        go_ret
        exact ⟨by rw [HF2.out];rfl,HB.out⟩
      · have HS2:=Lib.hid (HS.out (by omega))
        have hyb:decide (y<0)=false:=decide_eq_false hy
        go_wp2
        go_roundg k
        case rel=>exact ⟨i+1,by omega,by omega,by go_num,HS2.out,rfl⟩
        case measure=>omega
    · have hpz:¬ (i:Int)<(X.length:Int):=by omega
      have HF2:=Lib.hid (HV.out.2 (fun j hj=>HP.out j (by omega)))
      go_wp2
      go_ret
      exact ⟨by rw [HF2.out];rfl,HB.out⟩
end Go.Proofs.YtnacbakcalcgaaaGreatDoor
