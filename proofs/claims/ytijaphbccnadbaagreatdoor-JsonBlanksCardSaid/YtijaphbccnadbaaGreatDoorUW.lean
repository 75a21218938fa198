/- Texts of the claim. -/
import Derived.Test.YtijaphbccnadbaaGreatDoorUV
import Derived.Test.YtijaphbccnadbaaGreatDoorUU
import Derived.Test.YtijaphbccnadbaaGreatDoorUS
import Derived.Test.YtijaphbccnadbaaGreatDoorUT
import Derived.Test.YtijaphbccnadbaaGreatDoorUQ
set_option linter.unusedVariables false
set_option linter.unusedSimpArgs false
set_option maxHeartbeats 16000000
set_option maxRecDepth 100000
namespace Go.Proofs.YtijaphbccnadbaaGreatDoor
open Go.RowKit Go.Sort
structure BxZ (w:World) (g:Nat):Prop where
  lt:g<w.heap.size
  c0:w.cell? ⟨g,0,none⟩=some (.bool false)
  c1:w.cell? ⟨g,1,none⟩=some (.slice none 0 0)
  c2:w.cell? ⟨g,2,none⟩=some (.int .i64 0)
  f0:w.frozen? ⟨g,0,none⟩=false
  f1:w.frozen? ⟨g,1,none⟩=false
  f2:w.frozen? ⟨g,2,none⟩=false
theorem BxZ.step {w w':World} {g:Nat} (h:BxZ w g) (hb:Below w.heap.size w w'):BxZ w' g :=
  ⟨Nat.lt_of_lt_of_le h.lt hb.size,(hb.cell (p:=⟨g,0,none⟩) h.lt).trans h.c0,(hb.cell (p:=⟨g,1,none⟩) h.lt).trans h.c1,(hb.cell (p:=⟨g,2,none⟩) h.lt).trans h.c2,
    (hb.frozen (p:=⟨g,0,none⟩) h.lt).trans h.f0,(hb.frozen (p:=⟨g,1,none⟩) h.lt).trans h.f1,(hb.frozen (p:=⟨g,2,none⟩) h.lt).trans h.f2⟩
theorem bxz_new (w:World):BxZ (w.alloc (.cells #[.bool false,.slice none 0 0,.int .i64 0] 24)) w.heap.size:=⟨by simp,by simp,by simp,by simp,by simp,by simp,by simp⟩
theorem BxZ.alloc {w:World} {g:Nat} (h:BxZ w g) (o:Obj):BxZ (w.alloc o) g:=h.step ((Below.refl _ _).alloc (Nat.le_refl _) _)
theorem BxZ.stepD {w w':World} {g:Nat} (h:BxZ w g) (hb:Below w.drew.heap.size w.drew w'):BxZ w' g:=h.step ((below_drew (Below.refl _ _)).trans hb)
theorem bx_far {w:World} {g h:Nat} {neg:Bool} {v:Value} {e:Int} (hb:Bx w g neg v e) (hne:g ≠ h) (x0 x1 x2:Value):Bx (((w.setCell ⟨h,0,none⟩ x0).setCell ⟨h,1,none⟩ x1).setCell ⟨h,2,none⟩ x2) g neg v e:=by
  obtain ⟨zl,z0,z1,z2⟩:=hb
  have hn:∀ i j,(⟨g,i,none⟩:Addr) ≠ ⟨h,j,none⟩:=fun i j h0=>hne (by injection h0)
  refine ⟨by simpa [World.setCell] using zl,?_,?_,?_⟩
  all_goals
    rw [World.cell?_setCell_other (h:=by simp [hne]),World.cell?_setCell_other (h:=by simp [hne]),World.cell?_setCell_other (h:=by simp [hne])]
    assumption
theorem bxz_far {w:World} {g h:Nat} (hb:BxZ w g) (hne:g ≠ h) (x0 x1 x2:Value):BxZ (((w.setCell ⟨h,0,none⟩ x0).setCell ⟨h,1,none⟩ x1).setCell ⟨h,2,none⟩ x2) g:=by
  obtain ⟨zl,z0,z1,z2,f0,f1,f2⟩:=hb
  refine ⟨by simpa [World.setCell] using zl,?_,?_,?_,by simpa using f0,by simpa using f1,by simpa using f2⟩
  all_goals
    rw [World.cell?_setCell_other (h:=by simp [hne]),World.cell?_setCell_other (h:=by simp [hne]),World.cell?_setCell_other (h:=by simp [hne])]
    assumption
theorem bx_three {w:World} {g:Nat} (h:BxZ w g) (neg:Bool) (v:Value) (e:Int):Bx (((w.setCell ⟨g,0,none⟩ (.bool neg)).setCell ⟨g,1,none⟩ v).setCell ⟨g,2,none⟩ (.int .i64 e)) g neg v e:=by
  obtain ⟨zl,z0,z1,z2,_,_,_⟩:=h
  have a1:(w.setCell ⟨g,0,none⟩ (.bool neg)).cell? ⟨g,1,none⟩=some (.slice none 0 0):=by rw [World.cell?_setCell_other (h:=by simp)];exact z1
  have a2:((w.setCell ⟨g,0,none⟩ (.bool neg)).setCell ⟨g,1,none⟩ v).cell? ⟨g,2,none⟩=some (.int .i64 0):=by rw [World.cell?_setCell_other (h:=by simp),World.cell?_setCell_other (h:=by simp)];exact z2
  refine ⟨by simpa [World.setCell] using zl,?_,?_,?_⟩
  · rw [World.cell?_setCell_other (h:=by simp),World.cell?_setCell_other (h:=by simp),World.cell?_setCell_same (h:=z0)]
  · rw [World.cell?_setCell_other (h:=by simp),World.cell?_setCell_same (h:=a1)]
  · rw [World.cell?_setCell_same (h:=a2)]
theorem two_one {w:World} {g h:Nat} {na nb:Bool} {va vb:Value} {e f:Int} (hg:BxZ w g) (hh:BxZ w h) (hne:g ≠ h) :
    Bx ((((((w.setCell ⟨g,0,none⟩ (.bool na)).setCell ⟨g,1,none⟩ va).setCell ⟨g,2,none⟩ (.int .i64 e)).setCell ⟨h,0,none⟩ (.bool nb)).setCell ⟨h,1,none⟩ vb).setCell ⟨h,2,none⟩ (.int .i64 f)) g na va e ∧
    Bx ((((((w.setCell ⟨g,0,none⟩ (.bool na)).setCell ⟨g,1,none⟩ va).setCell ⟨g,2,none⟩ (.int .i64 e)).setCell ⟨h,0,none⟩ (.bool nb)).setCell ⟨h,1,none⟩ vb).setCell ⟨h,2,none⟩ (.int .i64 f)) h nb vb f :=
  ⟨bx_far (bx_three hg na va e) hne _ _ _,bx_three (bxz_far hh (fun h0=>hne h0.symm) _ _ _) nb vb f⟩
theorem two_new (w:World) (na nb:Bool) (va vb:Value) (e f:Int) :
    Bx ((w.alloc (.cells #[.bool na,va,.int .i64 e] 24)).alloc (.cells #[.bool nb,vb,.int .i64 f] 24)) w.heap.size na va e ∧
    Bx ((w.alloc (.cells #[.bool na,va,.int .i64 e] 24)).alloc (.cells #[.bool nb,vb,.int .i64 f] 24)) (w.heap.size+1) nb vb f :=
  ⟨(bx_new w na va e).step (below_box _ _ _),by simpa using bx_new (w.alloc (.cells #[.bool na,va,.int .i64 e] 24)) nb vb f⟩
theorem two_two {w:World} {g:Nat} {na nb:Bool} {va vb:Value} {e f:Int} (hg:BxZ w g) :
    Bx ((((w.setCell ⟨g,0,none⟩ (.bool na)).setCell ⟨g,1,none⟩ va).setCell ⟨g,2,none⟩ (.int .i64 e)).alloc (.cells #[.bool nb,vb,.int .i64 f] 24)) g na va e ∧
    Bx ((((w.setCell ⟨g,0,none⟩ (.bool na)).setCell ⟨g,1,none⟩ va).setCell ⟨g,2,none⟩ (.int .i64 e)).alloc (.cells #[.bool nb,vb,.int .i64 f] 24)) w.heap.size nb vb f:=by
  refine ⟨(bx_three hg na va e).step (below_box _ _ _),?_⟩
  have hz:=bx_new (((w.setCell ⟨g,0,none⟩ (.bool na)).setCell ⟨g,1,none⟩ va).setCell ⟨g,2,none⟩ (.int .i64 e)) nb vb f
  rwa [show (((w.setCell ⟨g,0,none⟩ (.bool na)).setCell ⟨g,1,none⟩ va).setCell ⟨g,2,none⟩ (.int .i64 e)).heap.size=w.heap.size by simp [World.setCell]] at hz
theorem cmp_same {w : World} {na nb : Bool} {ad ad' : Option Addr} {n cap n' cap' : Nat} {xs ys : List Nat} {e f : Int} (ha : NumOk w na ad n cap xs e) (hb : NumOk w nb ad' n' cap' ys f) : (cmpN (val xs) (val ys) == 0) = decide (xs = ys) := by
  by_cases h : xs = ys
  · subst h; simp [cmpN_eq]
  · rw [decide_eq_false h, beq_eq_false_iff_ne]
    intro h0
    apply h
    have : val xs = val ys := by unfold cmpN at h0; repeat' split at h0
                                 all_goals omega
    rw [← chkB_limbs ha.ok ha.chk, ← chkB_limbs hb.ok hb.chk, this]
def ViaQg (R:Act→World→Prop) (e:Exit) (a:Act) (w:World):Prop:=match e with | .normal=>R a w | _=>False
theorem wp_via {P:Program} {C:Code} {Q:Exit→Act→World→Prop} {a:Act} {w:World} (R:Act→World→Prop) (h1:C.wp P (ViaQg R) a w) (h2:∀ a' w',R a' w'→Q .normal a' w'):C.wp P Q a w :=
  Code.wp_mono (fun e a' w' hr=>by cases e <;> first | exact h2 a' w' hr | exact absurd hr id) h1
theorem keep6 {W0 W:World} {G H:Nat} {a b c d e f:Value} (hb:Below W0.heap.size W0 W) (hX:G<W0.heap.size) (hY:H<W0.heap.size)
    (X0:W0.cell? ⟨G,0,none⟩=some a) (X1:W0.cell? ⟨G,1,none⟩=some b) (X2:W0.cell? ⟨G,2,none⟩=some c) (Y0:W0.cell? ⟨H,0,none⟩=some d) (Y1:W0.cell? ⟨H,1,none⟩=some e) (Y2:W0.cell? ⟨H,2,none⟩=some f) :
    W.cell? ⟨G,0,none⟩=some a∧W.cell? ⟨G,1,none⟩=some b∧W.cell? ⟨G,2,none⟩=some c∧W.cell? ⟨H,0,none⟩=some d∧W.cell? ⟨H,1,none⟩=some e∧W.cell? ⟨H,2,none⟩=some f :=
  ⟨(hb.cell (p:=⟨G,0,none⟩) hX).trans X0,(hb.cell (p:=⟨G,1,none⟩) hX).trans X1,(hb.cell (p:=⟨G,2,none⟩) hX).trans X2,(hb.cell (p:=⟨H,0,none⟩) hY).trans Y0,(hb.cell (p:=⟨H,1,none⟩) hY).trans Y1,(hb.cell (p:=⟨H,2,none⟩) hY).trans Y2⟩
theorem rsame_core (pa:Bool) (ta:Value) (xa:Int) (pb:Bool) (tb:Value) (xb:Int) (na:Bool) (ad:Option Addr) (n cap:Nat) (xs:List Nat) (e:Int) (nb:Bool) (ad':Option Addr) (n' cap':Nat) (ys:List Nat) (f:Int) (w:World)
    (ha:NumOk w na ad n cap xs e) (hb:NumOk w nb ad' n' cap' ys f) (a0:Option Addr) (b0 c0:Nat) (eta:ta=.slice a0 b0 c0) (a1:Option Addr) (b1 c1:Nat) (etb:tb=.slice a1 b1 c1)
    (KA:∀ W,Below w.heap.size w W→Calls Tryz.prog 69 #[.agg #[.bool pa,ta,.int .i64 xa]] W (NumBelow na (.slice ad n cap) e W))
    (KB:∀ W,Below w.heap.size w W→Calls Tryz.prog 69 #[.agg #[.bool pb,tb,.int .i64 xb]] W (NumBelow nb (.slice ad' n' cap') f W)) :
    Calls Tryz.prog 41 #[.agg #[.bool pa,ta,.int .i64 xa],.agg #[.bool pb,tb,.int .i64 xb]] w (BoolBelow (decide ((na=nb∧e=f)∧xs=ys)) w):=by
  generalize hD:decide ((na=nb∧e=f)∧xs=ys)=D
  have HDD:=Lib.hid hD;clear hD
  subst eta etb
  obtain ⟨W0,hW0⟩:∃ W0,W0=(w.alloc (.cells #[.bool pa,.slice a0 b0 c0,.int .i64 xa] 24)).alloc (.cells #[.bool pb,.slice a1 b1 c1,.int .i64 xb] 24):=⟨_,rfl⟩
  have hbl:Below w.heap.size w W0:=by rw [hW0];exact ((Below.refl _ _).alloc (Nat.le_refl _) _).alloc (by simp) _
  have X0:W0.cell? ⟨w.heap.size,0,none⟩=some (.bool pa):=by rw [hW0];simp
  have X1:W0.cell? ⟨w.heap.size,1,none⟩=some (.slice a0 b0 c0):=by rw [hW0];simp
  have X2:W0.cell? ⟨w.heap.size,2,none⟩=some (.int .i64 xa):=by rw [hW0];simp
  have Y0:W0.cell? ⟨w.heap.size+1,0,none⟩=some (.bool pb):=by rw [hW0];simp
  have Y1:W0.cell? ⟨w.heap.size+1,1,none⟩=some (.slice a1 b1 c1):=by rw [hW0];simp
  have Y2:W0.cell? ⟨w.heap.size+1,2,none⟩=some (.int .i64 xb):=by rw [hW0];simp
  have hX:w.heap.size<W0.heap.size:=by rw [hW0];simp;omega
  have hY:w.heap.size+1<W0.heap.size:=by rw [hW0];simp
  have HB:=Lib.hid hbl
  replace KA:=Lib.hid (fun W (h:Below W0.heap.size W0 W)=>KA W (below_on hbl h))
  replace KB:=Lib.hid (fun W (h:Below W0.heap.size W0 W)=>KB W (below_on hbl h))
  clear hbl
  have HA:=Lib.hid ha;have HBB:=Lib.hid hb
  clear ha hb
  go_enter Tryz.func41,Tryz.ntmps41
  go_upto_region 1 with fail
  rw [← hW0]
  clear hW0
  have HLE:=Lib.hid (Nat.le_refl w.heap.size)
  have HBW:Hid (∀ W,Below W0.heap.size W0 W→Below w.heap.size w W):=fun W h=>below_on HB.out h
  refine wp_via (fun a' w'=>∃ g h,a'=⟨#[.agg #[.bool pa,.slice a0 b0 c0,.int .i64 xa],.agg #[.bool pb,.slice a1 b1 c1,.int .i64 xb],.pointer (some ⟨w.heap.size,0,none⟩),.pointer (some ⟨w.heap.size+1,0,none⟩),.bool false,.pointer (some ⟨g,0,none⟩),.pointer (some ⟨h,0,none⟩),.agg #[.bool pa,.slice a0 b0 c0,.int .i64 xa],.agg #[.bool na,.slice ad n cap,.int .i64 e],.agg #[.bool pb,.slice a1 b1 c1,.int .i64 xb],.agg #[.bool nb,.slice ad' n' cap',.int .i64 f],undef,undef,undef,undef,undef,undef,undef,undef,undef,undef,undef,undef,undef,undef,undef,undef,undef,undef,undef,undef],[]⟩∧(Bx w' g na (.slice ad n cap) e∧Bx w' h nb (.slice ad' n' cap') f)∧Below W0.heap.size W0 w') ?_ ?_
  · generalize hG:w.heap.size=G at X0 X1 X2 Y0 Y1 Y2 hX hY ⊢
    generalize hH:G+1=H at Y0 Y1 Y2 hX hY ⊢
    go_region_held_law (fun w'=>w'.cell? ⟨G,0,none⟩=some (.bool pa)∧w'.cell? ⟨G,1,none⟩=some (.slice a0 b0 c0)∧w'.cell? ⟨G,2,none⟩=some (.int .i64 xa)∧w'.cell? ⟨H,0,none⟩=some (.bool pb)∧w'.cell? ⟨H,1,none⟩=some (.slice a1 b1 c1)∧w'.cell? ⟨H,2,none⟩=some (.int .i64 xb)) (exact keep6 (by (repeat (first | with_reducible exact hW1 | with_reducible exact hW2 | with_reducible exact Below.refl _ _ | with_reducible refine below_drew ?_ | with_reducible refine Below.setCell ?_ (by first | omega | (simp;done) | (simp;omega)) _ | with_reducible refine Below.alloc ?_ (by first | omega | (simp;done) | (simp;omega)) _))) hX hY X0 X1 X2 Y0 Y1 Y2)
      (first
        | (refine step_callX rfl 69 _ Tryz.func69 (by kernel_rfl) (by kernel_rfl) #[.tmp 7] _ rfl #[.agg #[.bool pa,.slice a0 b0 c0,.int .i64 xa]] (by simp [Act.eval,Act.put]) (KA.out _ (by (repeat (first | with_reducible exact hW1 | with_reducible exact hW2 | with_reducible exact Below.refl _ _ | with_reducible refine below_drew ?_ | with_reducible refine Below.setCell ?_ (by first | omega | (simp;done) | (simp;omega)) _ | with_reducible refine Below.alloc ?_ (by first | omega | (simp;done) | (simp;omega)) _)))) ?_;rintro r w1 ⟨rfl,hb1⟩;obtain ⟨hc1,hf1⟩:=bcell hb1;have hs1:=hb1.size;(try simp at hs1);have hW1:=below_on (show Below W0.heap.size W0 _ from by (repeat (first | with_reducible exact hW1 | with_reducible exact hW2 | with_reducible exact Below.refl _ _ | with_reducible refine below_drew ?_ | with_reducible refine Below.setCell ?_ (by first | omega | (simp;done) | (simp;omega)) _ | with_reducible refine Below.alloc ?_ (by first | omega | (simp;done) | (simp;omega)) _))) hb1;(try (have hl11:W0.heap.size<w1.heap.size:=(by omega);have hn11:¬ W0.heap.size=w1.heap.size:=(by omega);have hm11:¬ w1.heap.size=W0.heap.size:=(by omega)));(try (have hl12:W0.heap.size+1<w1.heap.size:=(by omega);have hn12:¬ W0.heap.size+1=w1.heap.size:=(by omega);have hm12:¬ w1.heap.size=W0.heap.size+1:=(by omega)));(try (have za:BxZ w1 W0.heap.size:=(by first | with_reducible exact (bxz_new W0).stepD hb1 | with_reducible exact ((bxz_new W0).alloc _).stepD hb1)));(try (have zb:BxZ w1 (W0.heap.size+1):=(by simpa using (bxz_new (W0.alloc _)).stepD hb1)));clear hc1 hf1;refine ⟨_,rfl,?_⟩)
        | (refine step_callX rfl 69 _ Tryz.func69 (by kernel_rfl) (by kernel_rfl) #[.tmp 9] _ rfl #[.agg #[.bool pb,.slice a1 b1 c1,.int .i64 xb]] (by simp [Act.eval,Act.put]) (KB.out _ (by (repeat (first | with_reducible exact hW1 | with_reducible exact hW2 | with_reducible exact Below.refl _ _ | with_reducible refine below_drew ?_ | with_reducible refine Below.setCell ?_ (by first | omega | (simp;done) | (simp;omega)) _ | with_reducible refine Below.alloc ?_ (by first | omega | (simp;done) | (simp;omega)) _)))) ?_;rintro r w2 ⟨rfl,hb2⟩;obtain ⟨hc2,hf2⟩:=bcell hb2;have hs2:=hb2.size;(try simp at hs2);have hW2:=below_on (show Below W0.heap.size W0 _ from by (repeat (first | with_reducible exact hW1 | with_reducible exact hW2 | with_reducible exact Below.refl _ _ | with_reducible refine below_drew ?_ | with_reducible refine Below.setCell ?_ (by first | omega | (simp;done) | (simp;omega)) _ | with_reducible refine Below.alloc ?_ (by first | omega | (simp;done) | (simp;omega)) _))) hb2;(try (have hl21:W0.heap.size<w2.heap.size:=(by omega);have hn21:¬ W0.heap.size=w2.heap.size:=(by omega);have hm21:¬ w2.heap.size=W0.heap.size:=(by omega)));(try (have hl22:W0.heap.size+1<w2.heap.size:=(by omega);have hn22:¬ W0.heap.size+1=w2.heap.size:=(by omega);have hm22:¬ w2.heap.size=W0.heap.size+1:=(by omega)));(try (have hl23:w1.heap.size<w2.heap.size:=(by omega);have hn23:¬ w1.heap.size=w2.heap.size:=(by omega);have hm23:¬ w2.heap.size=w1.heap.size:=(by omega)));(try (have hl24:w1.heap.size+1<w2.heap.size:=(by omega);have hn24:¬ w1.heap.size+1=w2.heap.size:=(by omega);have hm24:¬ w2.heap.size=w1.heap.size+1:=(by omega)));(try (have ya:BxZ w2 W0.heap.size:=(by first | with_reducible exact za.step hb2 | with_reducible exact (za.alloc _).step hb2 | with_reducible exact ((za.alloc _).alloc _).step hb2);have yaz:=Lib.hid ya;obtain ⟨yal,ya0,ya1,ya2,ya3,ya4,ya5⟩:=ya));(try (have yb:BxZ w2 (W0.heap.size+1):=(by first | with_reducible exact zb.step hb2 | with_reducible exact (zb.alloc _).step hb2 | with_reducible exact ((zb.alloc _).alloc _).step hb2);have ybz:=Lib.hid yb;obtain ⟨ybl,yb0,yb1,yb2,yb3,yb4,yb5⟩:=yb));(try (have yc:BxZ w2 w1.heap.size:=(by first | with_reducible exact (bxz_new w1).step hb2 | with_reducible exact ((bxz_new w1).alloc _).step hb2);have ycz:=Lib.hid yc;obtain ⟨ycl,yc0,yc1,yc2,yc3,yc4,yc5⟩:=yc));(try (have yd:BxZ w2 (w1.heap.size+1):=(by simpa using (bxz_new (w1.alloc _)).step hb2);have ydz:=Lib.hid yd;obtain ⟨ydl,yd0,yd1,yd2,yd3,yd4,yd5⟩:=yd));clear hc2 hf2;refine ⟨_,rfl,?_⟩))
    all_goals
      refine ⟨_,_,rfl,?_,by (repeat (first | with_reducible exact hW1 | with_reducible exact hW2 | with_reducible exact Below.refl _ _ | with_reducible refine below_drew ?_ | with_reducible refine Below.setCell ?_ (by first | omega | (simp;done) | (simp;omega)) _ | with_reducible refine Below.alloc ?_ (by first | omega | (simp;done) | (simp;omega)) _))⟩
      first
        | with_reducible exact two_new _ _ _ _ _ _ _
        | with_reducible exact (two_new _ _ _ _ _ _ _).symm
        | (with_reducible refine two_one ?_ ?_ ?_) <;> first | with_reducible exact yaz.out | with_reducible exact ybz.out | with_reducible exact ycz.out | with_reducible exact ydz.out | omega
        | (with_reducible refine two_two ?_) <;> (first | with_reducible exact yaz.out | with_reducible exact ybz.out | with_reducible exact ycz.out | with_reducible exact ydz.out)
        | (with_reducible refine (two_two ?_).symm) <;> (first | with_reducible exact yaz.out | with_reducible exact ybz.out | with_reducible exact ycz.out | with_reducible exact ydz.out)
  · rintro a' wc ⟨g,h,rfl,⟨⟨bl,p0,p1,p2⟩,cl,q0,q1,q2⟩,hb'⟩
    have HBC:=Lib.hid (HBW.out _ hb')
    clear hb' X0 X1 X2 Y0 Y1 Y2 hX hY
    have HAW:=Lib.hid (HA.out.below HBC.out);have HBW2:=Lib.hid (HBB.out.below HBC.out)
    have KC:=Lib.hid (refCmp_any ad n cap xs ad' n' cap' ys wc HAW.out.len HAW.out.cap (by have:=HAW.out.n90;omega) HAW.out.ok HAW.out.rd HBW2.out.len HBW2.out.cap (by have:=HBW2.out.n90;omega) HBW2.out.ok HBW2.out.rd)
    have HV:=Lib.hid (cmp_same HAW.out HBW2.out)
    by_cases c1:na=nb
    · subst c1
      by_cases c2:e=f
      · subst c2
        have HD:Hid (D=decide (xs=ys)):=by show D=_;rw [← HDD.out];simp
        go_wp2_with fail
        refine KC.out.mono ?_
        rintro r w4 ⟨rfl,q4,rfl⟩
        have HB4:=Lib.hid (below_drewN' HBC.out q4)
        have hv:=HV.out
        generalize cmpN (val xs) (val ys)=c at *
        generalize wc.drewN q4=w4 at *
        by_cases c3:xs=ys
        · rw [decide_eq_true c3] at HD
          rw [decide_eq_true c3] at hv
          have hc:c=0:=by simpa using hv
          subst hc
          clear hv
          go_wp2
          go_ret
          exact ⟨by rw [HD.out];rfl,HB4.out⟩
        · rw [decide_eq_false c3] at HD
          rw [decide_eq_false c3] at hv
          go_wp2
          go_ret
          exact ⟨by rw [HD.out];rfl,HB4.out⟩
      · have HD:Hid (D=false):=by show D=_;rw [← HDD.out];exact decide_eq_false (fun h=>c2 h.1.2)
        have hef:(e == f)=false:=by simpa using c2
        go_wp2_with fail
        go_ret
        exact ⟨by rw [HD.out];rfl,HBC.out⟩
    · have HD:Hid (D=false):=by show D=_;rw [← HDD.out];exact decide_eq_false (fun h=>c1 h.1.1)
      have hab:(na == nb)=false:=by simpa using c1
      go_wp2_with fail
      go_ret
      exact ⟨by rw [HD.out];rfl,HBC.out⟩
end Go.Proofs.YtijaphbccnadbaaGreatDoor
namespace Go.Proofs.YtijaphbccnadbaaGreatDoor
open Go.Shelf Go.RowKit Go.Lib
theorem sameN_all:SameN:=by
  intro neg ma ma' mn mc mc' m e W h1 h2
  have l1:=h1.n90;have l2:=h2.n90
  have:=rsame_core neg (.slice ma mn mc) e neg (.slice ma' mn mc') e neg ma mn mc m e neg ma' mn mc' m e W h1 h2 _ _ _ rfl _ _ _ rfl
    (fun V hV=>is_yes neg ma mn mc m e V h1.len h1.cap (by omega) h1.ok (h1.rd.below hV) h1.chk) (fun V hV=>is_yes neg ma' mn mc' m e V h2.len h2.cap (by omega) h2.ok (h2.rd.below hV) h2.chk)
  rwa [show decide ((neg=neg∧e=e)∧m=m)=true from decide_eq_true ⟨⟨rfl,rfl⟩,rfl⟩] at this
theorem refSame_yes {t u:MT} {d:Nat} {w:World} (h:t.bare=u.bare) (hs:SndD t d) (hR:Rep w t) (hU:Rep w u):Calls Tryz.prog 17 #[t.c.val,u.c.val] w (BoolBelow true w):=refSame_any sameN_all t u d w h hs hR hU
theorem blk_toggle (B:List UInt8) {i o:Bool} (h:i=false∨o=false) (rest:List UInt8):blk B i o (34::rest)=[34]++blk B (!i) false rest:=by rw [blk,if_pos ⟨rfl,h⟩];rfl
theorem blk_sign (B:List UInt8) {c:UInt8} (h:sgC c=true) (o:Bool) (rest:List UInt8):blk B false o (c::rest)=(c::B)++blk B false false rest:=by
  have h34:¬ (c=34∧(false=false∨o=false)):=fun e=>by rw [e.1] at h;exact absurd h (by decide)
  rw [blk,if_neg h34,if_pos ⟨rfl,h⟩];rfl
theorem blk_else (B:List UInt8) {c:UInt8} {i o:Bool} (h:¬ (c=34∧(i=false∨o=false))) (h2:¬ (i=false∧sgC c=true)) (rest:List UInt8):blk B i o (c::rest)=[c]++blk B i (c == 92 && !o) rest:=by rw [blk,if_neg h,if_neg h2];rfl
def RBl (B:List UInt8) (s:ByteArray) (g:Nat) (u i x:Value) (w wr:World):Prop :=
  ∃ (Q:ByteArray) (U:List UInt8) (ib:Bool) (j:Nat),j≤s.size∧s.size - j≤g∧u=.string Q∧i=.bool ib∧x=.int .i64 (j:Int)∧Q.data.toList=B++U∧Q.size≤5*j+4∧(ib=true→0<j)∧blk B false false s.data.toList=U++blk B ib (oddL (s.data.toList.take j)) (s.data.toList.drop j)∧Below w.heap.size w wr
theorem RBl.step {B:List UInt8} {s:ByteArray} {g j:Nat} {Q Q':ByteArray} {U X:List UInt8} {ib ib':Bool} {w wr:World} (hj:j<s.size) (hg:s.size - j≤g+1) (hQ:Q.data.toList=B++U) (hz:Q.size≤5*j+4)
    (hk:blk B false false s.data.toList=U++blk B ib (oddL (s.data.toList.take j)) (s.data.toList.drop j)) (hb:Below w.heap.size w wr)
    (hX:∀ rest,blk B ib (oddL (s.data.toList.take j)) (s[j]'hj::rest)=X++blk B ib' (s[j]'hj == 92 && !oddL (s.data.toList.take j)) rest) (h5:X.length≤5) (hQ':Q'.data.toList=Q.data.toList++X):RBl B s g (.string Q') (.bool ib') (.int .i64 ((j+1:Nat):Int)) w wr:=by
  have hs:Q'.size=Q.size+X.length:=by
    have:=congrArg List.length hQ'
    simpa using this
  refine ⟨Q',U++X,ib',j+1,by omega,by omega,rfl,rfl,rfl,by rw [hQ',hQ,List.append_assoc],by omega,fun _=>Nat.succ_pos _,?_,hb⟩
  rw [hk,List.take_succ_eq_append_getElem (by simpa using hj),oddL_snoc,List.drop_eq_getElem_cons (by simpa using hj),List.append_assoc]
  congr 1
  exact hX _
theorem ext_oneW (s:ByteArray) (j:Nat) (h:j<s.size):(s.extract j (j+1)).data.toList=[s[j]'h]:=by
  rw [ByteArray.data_extract,Array.toList_extract,List.extract_eq_take_drop]
  rw [List.drop_eq_getElem_cons (by simpa using h)]
  simp;rfl
theorem odd_not92 {c:UInt8} (o:Bool) (h:c ≠ 92):(c == 92 && !o)=false:=by simp [h]
theorem sgC_iff {c:UInt8}:sgC c=true ↔ c.toNat=91∨c.toNat=93∨c.toNat=123∨c.toNat=125∨c.toNat=44∨c.toNat=58:=by
  unfold sgC
  rw [decide_eq_true_iff]
  have key:∀ d:UInt8,c=d ↔ c.toNat=d.toNat:=fun d=>⟨fun e=>by rw [e],fun e=>UInt8.toNat_inj.1 e⟩
  rw [key 91,key 93,key 123,key 125,key 44,key 58]
  rfl
def blankL (m:Nat):List UInt8:=if m=0 then [32] else if m=1 then [10] else if m=2 then [9,13] else [32,32,10,32]
theorem blankL_ok (m:Nat):Bl (blankL m)∧(blankL m).length≤4:=by
  unfold blankL
  split
  · exact ⟨by unfold Bl;decide,by decide⟩
  · split
    · exact ⟨by unfold Bl;decide,by decide⟩
    · split
      iterate 2
        · exact ⟨by unfold Bl;decide,by decide⟩
theorem idxB0 (w:World):Sem.run Tryz.prog (Instr.index 42 (.agg #[.string ⟨#[32]⟩,.string ⟨#[10]⟩,.string ⟨#[9,13]⟩,.string ⟨#[32,32,10,32]⟩]) (.int .i64 0)) w=Result.ok (.string ⟨(blankL 0).toArray⟩) w:=by kernel_rfl
theorem idxB1 (w:World):Sem.run Tryz.prog (Instr.index 42 (.agg #[.string ⟨#[32]⟩,.string ⟨#[10]⟩,.string ⟨#[9,13]⟩,.string ⟨#[32,32,10,32]⟩]) (.int .i64 1)) w=Result.ok (.string ⟨(blankL 1).toArray⟩) w:=by kernel_rfl
theorem idxB2 (w:World):Sem.run Tryz.prog (Instr.index 42 (.agg #[.string ⟨#[32]⟩,.string ⟨#[10]⟩,.string ⟨#[9,13]⟩,.string ⟨#[32,32,10,32]⟩]) (.int .i64 2)) w=Result.ok (.string ⟨(blankL 2).toArray⟩) w:=by kernel_rfl
theorem idxB3 (w:World):Sem.run Tryz.prog (Instr.index 42 (.agg #[.string ⟨#[32]⟩,.string ⟨#[10]⟩,.string ⟨#[9,13]⟩,.string ⟨#[32,32,10,32]⟩]) (.int .i64 3)) w=Result.ok (.string ⟨(blankL 3).toArray⟩) w:=by kernel_rfl
theorem idx_bl (m:Nat) (hm:m<4) (w:World):Sem.run Tryz.prog (Instr.index 42 (.agg #[.string ⟨#[32]⟩,.string ⟨#[10]⟩,.string ⟨#[9,13]⟩,.string ⟨#[32,32,10,32]⟩]) (.int .i64 (m:Int))) w=Result.ok (.string ⟨(blankL m).toArray⟩) w:=by
  have h:m=0∨m=1∨m=2∨m=3:=by omega
  rcases h with rfl | rfl | rfl | rfl
  · exact idxB0 w
  · exact idxB1 w
  · exact idxB2 w
  · exact idxB3 w
theorem jsonBlanks_main (ad:Option Addr) (n cap:Nat) (k0:Int) (w:World) (h60z:¬ (60:Int)<(n:Int)) (hk0:-9223372036854775808≤k0∧k0≤9223372036854775807) (hU:UT w) (hT:TB w)
    (KM:Hid (Calls Tryz.prog 19 #[.slice ad n cap,.int .i64 4] w (PlnC w))) :
    Calls Tryz.prog 5 #[.slice ad n cap,.int .i64 k0] w (BoolBelow true w):=by
  have HU:=Lib.hid (fun W (h:Below w.heap.size w W)=>hU.below h);have HT:=Lib.hid (fun W (h:Below w.heap.size w W)=>hT.below h)
  have AW:Hid (∀ W,Below w.heap.size w W→Calls Tryz.prog 10 #[] W (BoolBelow true w)):=Lib.hid (fun W h=>(awakeJ_any W (hU.below h) (hT.below h)).mono fun _ _ hp=>⟨hp.1,below_on h hp.2⟩)
  have KP:=Lib.hid (fun W=>place_any k0 4 W hk0 ⟨by decide,by decide⟩)
  obtain ⟨m,hm,hm4⟩:∃ m:Nat,k0 % 4=(m:Int)∧m<4:=⟨(k0 % 4).toNat,by omega,by omega⟩
  rw [hm] at KP
  clear hk0 hU hT hm
  go_enter Tryz.func5,Tryz.ntmps5
  go_wp2_with fail
  refine KM.out.mono ?_
  rintro r w1 ⟨u,rfl,hR,⟨hck,hnb,hel,hfb⟩,hb1⟩
  have hfit:=fit_unbare hfb
  have hco:=Coh.of hR
  have KE:=Lib.hid (fun W (h:Below w1.heap.size w1 W)=>encode_anyj u W (hR.on h) (HU.out _ (below_on hb1 h)) (HT.out _ (below_on hb1 h)))
  rw [encodeL_yes hck hnb (by omega)] at KE
  unfold EncPost at KE
  change Hid (∀ W,_→Calls _ _ _ W (fun e w'=>e=.returned (.tuple #[.string ⟨(encJ u).toArray⟩,.int .i64 0])∧Below W.heap.size W w')) at KE
  obtain ⟨hBb,hB4⟩:=blankL_ok m
  have hdec:=decode_blanks hBb hB4 hfit hnb hco
  have HKB:=Lib.hid (blk_enc (blankL m) u)
  have KD:=Lib.hid (fun W (h:Below w.heap.size w W)=>decode_anyj (blankL m++(encW (blankL m) u++blankL m)) W (by simp only [List.length_append];omega) (HU.out W h))
  rw [hdec.1] at KD
  unfold DecPost at KD
  have KS:=Lib.hid (fun (x:MT) (hx:x.bare=u.bare) W (h:Below w1.heap.size w1 W) (hX:Rep W x)=>refSame_yes (t:=x) (u:=u) (d:=1) (w:=W) hx (SndD.of (by rw [← checkB_bare,hx,checkB_bare];exact hck)).1 hX (hR.on h))
  have HB1:=Lib.hid hb1
  have hWl:=hdec.2
  clear hck hnb hfb hfit hco hR hb1 KM hdec hBb
  generalize encW (blankL m) u=LW at *
  generalize hS:(⟨(encJ u).toArray⟩:ByteArray)=S at *
  have hSl:S.data.toList=encJ u:=by rw [← hS]
  have hSz:S.size≤11060:=by rw [← hS];show (encJ u).toArray.size≤_;simpa using hel
  rw [← hSl] at HKB
  clear hS hSl hel
  generalize u.bare=ub at *
  generalize u.c=c at *
  obtain ⟨qk,qb,qneg,qma,qmn,qmc,qe,qs,qka,qkn,qkc,qva,qvn,qvc⟩:=c
  unfold Cel.val at *
  obtain ⟨W1,hW1⟩:∃ x,w1.alloc (.cells #[.int .i64 qk,.bool qb,.bool qneg,.slice qma qmn qmc,.int .i64 qe,.string qs,.slice qka qkn qkc,.slice qva qvn qvc] 28)=x:=⟨_,rfl⟩
  have hb2:Below w1.heap.size w1 W1:=by rw [← hW1];exact belowC_new _ _
  have HY:=Lib.hid (fun W (h:Below W1.heap.size W1 W)=>(by rw [← hW1] at h;exact boxC8 w1 h:W.cell? ⟨w1.heap.size,0,none⟩=some (.int .i64 qk)∧W.cell? ⟨w1.heap.size,1,none⟩=some (.bool qb)∧W.cell? ⟨w1.heap.size,2,none⟩=some (.bool qneg)∧W.cell? ⟨w1.heap.size,3,none⟩=some (.slice qma qmn qmc)∧W.cell? ⟨w1.heap.size,4,none⟩=some (.int .i64 qe)∧W.cell? ⟨w1.heap.size,5,none⟩=some (.string qs)∧W.cell? ⟨w1.heap.size,6,none⟩=some (.slice qka qkn qkc)∧W.cell? ⟨w1.heap.size,7,none⟩=some (.slice qva qvn qvc)))
  have HW1:=Lib.hid hW1;have H11:=Lib.hid hb2
  have KE:=Lib.hid (KE.out _ hb2)
  clear hW1 hb2
  obtain ⟨c0,c1,c2,c3,c4,c5,c6,c7⟩:=HY.out _ (Below.refl _ _)
  go_wp2_with fail
  rw [HW1.out]
  refine KE.out.mono ?_
  rintro r w3 ⟨rfl,hb3⟩
  have H13:=Lib.hid hb3
  clear hb3 KE c0 c1 c2 c3 c4 c5 c6 c7
  go_wp2_with fail
  refine (KP.out _).mono ?_
  rintro r w4 ⟨rfl,rfl⟩
  have hES:=Lib.hid (fun j (h:j≤S.size) W=>escapedJ_any S j W h (by omega))
  have HB3:=Lib.hid (below_on (below_on HB1.out H11.out) H13.out)
  have HIX:=idx_bl m hm4 w4
  have hBb:=(blankL_ok m).1
  clear HW1 KP HB1
  go_wp2_with fail
  skip
  clear HIX
  generalize blankL m=BL at *
  obtain ⟨Bb,hBB⟩:∃ Bb:ByteArray,(⟨BL.toArray⟩:ByteArray)=Bb:=⟨_,rfl⟩
  have HBL:=Lib.hid (show Bb.data.toList=BL by rw [← hBB])
  have hBz:Bb.size≤4:=by rw [← hBB];show BL.toArray.size≤4;simpa using hB4
  rw [hBB]
  clear hBB hm4
  have HST:=Lib.hid (show RBl BL S S.size (.string Bb) (.bool false) (.int .i64 0) w4 w4 from ⟨Bb,[],false,0,Nat.zero_le _,by omega,rfl,rfl,rfl,by rw [HBL.out];simp,by omega,(fun h=>by cases h),by simp [oddL],Below.refl _ _⟩)
  go_wp2_with fail
  go_loopg [9,10,11] S.size (fun k u i x wr=>RBl BL S k u i x w4 wr)
  case atStart=>exact HST.out
  case round =>
    obtain ⟨Q,U,ib,j,hj,hk,rfl,rfl,rfl,hQ,hz,hi0,hblk,hb⟩:=hrel
    have HB:=Lib.hid hb
    by_cases hlt:j<S.size
    · obtain ⟨k,rfl⟩:∃ k,gk=k+1:=⟨gk - 1,by omega⟩
      have hjz:(j:Int)<(S.size:Int):=by omega
      have HS:=Lib.hid (fun (Q':ByteArray) (X:List UInt8) (ib':Bool) W (hW:Below w4.heap.size w4 W) hX h5 hQ'=>RBl.step (Q':=Q') (X:=X) (ib':=ib') (w:=w4) (wr:=W) hlt hk hQ hz hblk hW hX h5 hQ')
      have KES:=Lib.hid (fun W=>hES.out j hj W)
      have HX:=Lib.hid (ext_oneW S j hlt)
      have hex:(S.extract j (j+1)).size≤1:=by rw [ByteArray.size_extract];omega
      have hqs:Q.size≤1000000:=by omega
      have hqe:(Q++S.extract j (j+1)).size≤1000000:=by rw [ByteArray.size_append];omega
      clear hblk hQ hz hb HST hES
      generalize oddL (List.take j S.data.toList)=o at *
      generalize hx:S[j]'hlt=x at *
      have hxl:=x.toNat_lt
      generalize hE:S.extract j (j+1)=E at *
      have h1:([x]:List UInt8).length≤5:=by rw [List.length_singleton];decide
      cases ib
      · by_cases a34:x.toNat=34
        · have hc:x=34:=UInt8.toNat_inj.1 a34
          subst hc
          clear a34
          go_wp2_with fail
          go_roundg k
          case rel=>exact HS.out (Q++E) [34] true _ HB.out (fun rest=>blk_toggle BL (.inl rfl) rest) (by decide) (by rw [ByteArray.toList_data_append,HX.out])
          case measure=>omega
        · have b34:((x.toNat:Int) == 34)=false:=by rw [beq_eq_false_iff_ne];omega
          by_cases hsg:x.toNat=91∨x.toNat=93∨x.toNat=123∨x.toNat=125∨x.toNat=44∨x.toNat=58
          · have HN:=Lib.hid (sgC_iff.2 hsg)
            have HN2:=Lib.hid (show x ≠ 92 from fun e=>by rw [e] at hsg;revert hsg;decide)
            have h2:(x::BL).length≤5:=by simp only [List.length_cons];omega
            clear a34 b34
            rcases hsg with a | a | a | a | a | a
            all_goals
              have hc:x=UInt8.ofNat x.toNat:=by simp
              rw [a] at hc
              subst hc
              clear a
              go_wp2_with fail
              go_roundg k
              case rel=>exact HS.out (Q++E++Bb) _ false _ HB.out (fun rest=>by rw [odd_not92 _ HN2.out];exact blk_sign BL HN.out o rest) h2 (by rw [ByteArray.toList_data_append,ByteArray.toList_data_append,HX.out,HBL.out];simp)
              case measure=>omega
          · have b1:((x.toNat:Int) == 91)=false:=by rw [beq_eq_false_iff_ne];omega
            have b2:((x.toNat:Int) == 93)=false:=by rw [beq_eq_false_iff_ne];omega
            have b3:((x.toNat:Int) == 123)=false:=by rw [beq_eq_false_iff_ne];omega
            have b4:((x.toNat:Int) == 125)=false:=by rw [beq_eq_false_iff_ne];omega
            have b5:((x.toNat:Int) == 44)=false:=by rw [beq_eq_false_iff_ne];omega
            have b6:((x.toNat:Int) == 58)=false:=by rw [beq_eq_false_iff_ne];omega
            have HN:=Lib.hid (fun rest=>blk_else BL (c:=x) (i:=false) (o:=o) (fun e=>a34 (by rw [e.1];rfl)) (fun e=>hsg (sgC_iff.1 e.2)) rest)
            clear a34 hsg
            go_wp2_with fail
            go_roundg k
            case rel=>exact HS.out (Q++E) [x] false _ HB.out HN.out h1 (by rw [ByteArray.toList_data_append,HX.out])
            case measure=>omega
      · have hj0:(0:Int)<(j:Int):=by have:=hi0 rfl;omega
        by_cases a34:x.toNat=34
        · have hc:x=34:=UInt8.toNat_inj.1 a34
          subst hc
          clear a34
          go_wp2_with fail
          refine (KES.out _).mono ?_
          rintro r w5 ⟨rfl,rfl⟩
          cases o
          · go_wp2_with fail
            go_roundg k
            case rel=>exact HS.out (Q++E) [34] false _ HB.out (fun rest=>blk_toggle BL (.inr rfl) rest) (by decide) (by rw [ByteArray.toList_data_append,HX.out])
            case measure=>omega
          · have HN:=Lib.hid (fun rest=>blk_else BL (c:=34) (i:=true) (o:=true) (fun e=>by rcases e.2 with h | h <;> cases h) (fun e=>by cases e.1) rest)
            go_wp2_with fail
            go_roundg k
            case rel=>exact HS.out (Q++E) [34] true _ HB.out HN.out (by decide) (by rw [ByteArray.toList_data_append,HX.out])
            case measure=>omega
        · have b34:((x.toNat:Int) == 34)=false:=by rw [beq_eq_false_iff_ne];omega
          have HN:=Lib.hid (fun rest=>blk_else BL (c:=x) (i:=true) (o:=o) (fun e=>a34 (by rw [e.1];rfl)) (fun e=>by cases e.1) rest)
          clear a34
          go_wp2_with fail
          go_roundg k
          case rel=>exact HS.out (Q++E) [x] true _ HB.out HN.out h1 (by rw [ByteArray.toList_data_append,HX.out])
          case measure=>omega
    · obtain rfl:j=S.size:=by omega
      have hjz:¬ (S.size:Int)<(S.size:Int):=by omega
      have HQB:=Lib.hid (show Q++Bb=⟨(BL++(LW++BL)).toArray⟩ by
        have e:List.drop S.size S.data.toList=[]:=List.drop_of_length_le (by simp)
        have hUL:U=LW:=by
          rw [e] at hblk
          have h0:blk BL ib (oddL (List.take S.size S.data.toList)) []=[]:=rfl
          rw [h0,List.append_nil] at hblk
          rw [← hblk];exact HKB.out
        apply ByteArray.ext;apply Array.toList_inj.1
        rw [ByteArray.toList_data_append,hQ,HBL.out,hUL]
        simp)
      have hqs:Q.size≤1000000:=by omega
      have HBW:=Lib.hid (below_on HB3.out hb)
      have H1W:=Lib.hid (below_on H13.out hb)
      clear hblk hQ hz hi0 HST hES hb hj hk hlt HKB
      go_wp2_with fail
      rw [HQB.out]
      refine (KD.out _ HBW.out).mono ?_
      rintro r w5 ⟨x,rfl,hxb,hRx,hb5⟩
      have HB5:=Lib.hid (below_on HBW.out hb5)
      have H15:=Lib.hid (below_on H1W.out hb5)
      have KS1:=Lib.hid (fun W (h:Below w5.heap.size w5 W)=>KS.out x hxb W (below_on (below_on H11.out H15.out) h) (hRx.on h))
      clear hxb hRx hb5 KS KD
      generalize x.c=xc at KS1 ⊢
      obtain ⟨uk,ub',uneg,uma,umn,umc,ue,us,uka,ukn,ukc,uva,uvn,uvc⟩:=xc
      dsimp only at KS1 ⊢
      obtain ⟨d0,d1,d2,d3,d4,d5,d6,d7⟩:=HY.out _ (below_on H15.out (belowC_new w5 (.cells #[.int .i64 uk,.bool ub',.bool uneg,.slice uma umn umc,.int .i64 ue,.string us,.slice uka ukn ukc,.slice uva uvn uvc] 28)))
      go_wp2_with fail
      refine (KS1.out _ (belowC_new w5 (.cells #[.int .i64 uk,.bool ub',.bool uneg,.slice uma umn umc,.int .i64 ue,.string us,.slice uka ukn ukc,.slice uva uvn uvc] 28))).mono ?_
      rintro r w6 ⟨rfl,hb6⟩
      have HB6:=Lib.hid (below_on (below_on HB5.out (belowC_new w5 (.cells #[.int .i64 uk,.bool ub',.bool uneg,.slice uma umn umc,.int .i64 ue,.string us,.slice uka ukn ukc,.slice uva uvn uvc] 28))) hb6)
      clear hb6
      go_wp2_with fail
      refine (AW.out _ HB6.out).mono ?_
      rintro r w9 ⟨rfl,hb9⟩
      have HB9:=Lib.hid hb9
      clear hb9
      go_wp2_with fail
      go_ret
      exact BoolBelow.mk rfl HB9.out
end Go.Proofs.YtijaphbccnadbaaGreatDoor
namespace Go.Proofs.YtijaphbccnadbaaGreatDoor
open Go.RowKit Go.Shelf
section
variable {P : Program}
theorem rl_arith (w:World) (ev:Operand→Value) (o:Oper) (op:BinOp) (ty ty':TypeId) (x y:Operand) (a b r:Int) (ho:o.op=.binOp op ty x y ty') (hx:ev x=.int .i64 a) (hy:ev y=.int .i64 b)
    (h:(binOp op ty (.int .i64 a) (.int .i64 b)).run P w=.ok (.int .i64 r) w):(execOp ev o).run P w=.ok (.value (.int .i64 r)) w:=by
  simp [execOp,ho,hx,hy,eqGuard,h,Result.andThen]
theorem ar_quo (w:World) (ty:TypeId) (A B:Nat) (hA:A≤1073741824) (hB:0<B) (hB2:B≤1000):(binOp .quo ty (.int .i64 (A:Int)) (.int .i64 (B:Int))).run P w=.ok (.int .i64 ((A / B:Nat):Int)) w:=by
  have h2:A / B≤A:=Nat.div_le_self _ _
  have h3:((A / B:Nat):Int)=(A:Int) / (B:Int):=by simp
  have h4:IntKind.i64.wrap ((A:Int) / (B:Int))=(A:Int) / (B:Int):=by
    rw [← h3]
    generalize A / B=q at h2 ⊢
    exact IntWalk.i64_in _ (by omega)
  simp [binOp,Op.intDiv,go_sem]
  rw [if_neg (by omega),h4]
theorem ar_rem (w:World) (ty:TypeId) (A B:Nat) (hA:A≤1073741824) (hB:0<B) (hB2:B≤1000):(binOp .rem ty (.int .i64 (A:Int)) (.int .i64 (B:Int))).run P w=.ok (.int .i64 ((A % B:Nat):Int)) w:=by
  simp [binOp,Op.intDiv,go_sem]
  rw [if_neg (by omega),Int.tmod_eq_emod_of_nonneg (by omega)]
theorem ar_mul (w:World) (ty:TypeId) (A B:Nat) (hA:A≤1000) (hB2:B≤1000):(binOp .mul ty (.int .i64 (A:Int)) (.int .i64 (B:Int))).run P w=.ok (.int .i64 ((A*B:Nat):Int)) w:=by
  have h2:A*B≤1000*1000:=Nat.mul_le_mul hA hB2
  have h4:IntKind.i64.wrap ((A:Int)*(B:Int))=(A:Int)*(B:Int):=by rw [← Int.natCast_mul];exact IntWalk.i64_in _ (by omega)
  simp [binOp,Op.intArith,go_sem]
  exact h4
theorem ar_add (w:World) (ty:TypeId) (A B:Nat) (hA:A≤1073741824) (hB2:B≤1073741824):(binOp .add ty (.int .i64 (A:Int)) (.int .i64 (B:Int))).run P w=.ok (.int .i64 ((A+B:Nat):Int)) w:=by
  simp [binOp,Op.intArith,go_sem]
  exact IntWalk.i64_in _ (by omega)
end
section
variable {P : Program} {ops : Array Oper} {Q : Exit → Act → World → Prop}
theorem si1 {A:Prop} {L:Array Bool} (i a:Nat) (ha:(i == a)=false) (M:Prop):(M∧((L.setIfInBounds i true).getD a false=false→A)) ↔ (M∧(L.getD a false=false→A)):=by
  rw [getD_set_ne false (by simpa using ha)]
theorem rl_call {a:Act} {w:World} {K:Act→World→Prop} (i:Nat) (o:Oper) (n:Nat) (fn:Func) (f:Operand) (args:Array Operand) (ts:Array TypeId) (vs:Array Value) (dd:Option Tmp)
    (hi:ops[i]? = some o) (hdd:o.dst=dd) (hw:Region.wanted o (yielded ops a.tmps)=true)
    (ho:o.op=.call { callee:=.value f,args:=args,argTypes:=ts }) (hff:a.eval f=.func (.func n) #[] #[]) (hfn:P.funcs[n]? = some fn) (hn:(fn.name == "runtime.NumGoroutine")=false) (hb:fn.body.isNone=false)
    (hv:args.map a.eval=vs) {Post:Ending→World→Prop} (C:Calls P n vs w Post) (h:∀ r w',Post r w'→∃ v,r=.returned v∧K (a.put dd v) w'):wpOp P ops Q i K a w:=by
  subst hdd
  unfold wpOp
  simp only [hi]
  rw [if_pos hw]
  refine .inl ?_
  unfold Oper.wp
  rw [rg_enter w a.eval o n fn f args ts vs ho hff hfn hn hb hv,Oper.upon_enter]
  exact C.mono (fun r w' hp=>by obtain ⟨v,rfl,hk⟩:=h r w' hp;exact hk)
theorem rl_ldrun (w:World) (ev:Operand→Value) (o:Oper) (ty:TypeId) (x:Operand) (ad:Addr) (v:Value) (d:TypeDesc) (ho:o.op=.load ty x) (hx:ev x=.pointer (some ad)) (hu:P.underlying ty=some d) (hd:d.isRow=false) (hc:w.cell? ad=some v) :
    (execOp ev o).run P w=.ok (.value v) w:=by
  unfold execOp
  simp only [ho,hx,Sem.run_bind,Sem.run_pure,Result.andThen_ok,rg_run1 w ad ty v d hc hu hd]
theorem setCells_put0 (w:World) (b:Nat) (c:Cel):w.setCells b 0 c.cells=put0 w b c:=by
  simp [World.setCells,Cel.cells,put0]
theorem rl_storeT {a:Act} {w:World} {K:Act→World→Prop} (i:Nat) (o:Oper) (ty:TypeId) (x y:Operand) (b:Nat) (c c0:Cel) (d:TypeDesc) (hi:ops[i]? = some o) (hdd:o.dst=none) (hw:Region.wanted o (yielded ops a.tmps)=true)
    (ho:o.op=.store ty x y) (hx:a.eval x=.pointer (some ⟨b,0,none⟩)) (hy:a.eval y=c.val) (h1:(P.info? ty).map (·.size)=some 8) (hb:BoxT w b c0)
    (h:K a (put0 w b c)):wpOp P ops Q i K a w:=by
  unfold wpOp
  simp only [hi]
  rw [if_pos hw]
  refine .inl ?_
  have h8:c.cells.length=8:=by simp [Cel.cells]
  refine wp_store_mid ty x y ho b 0 c.cells.toArray hx hy ?_ (by simpa [h8] using h1) (all_oneCell_toArray (cel_one c)) ?_
  · intro j hj
    rw [List.size_toArray,h8] at hj
    refine ⟨?_,by rw [Nat.zero_add];exact hb.free j⟩
    rw [Nat.zero_add]
    obtain ⟨x0,x1,x2,x3,x4,x5,x6,x7⟩:=hb.cells
    match j,hj with
    | 0,_=>rw [x0];rfl
    | 1,_=>rw [x1];rfl
    | 2,_=>rw [x2];rfl
    | 3,_=>rw [x3];rfl
    | 4,_=>rw [x4];rfl
    | 5,_=>rw [x5];rfl
    | 6,_=>rw [x6];rfl
    | 7,_=>rw [x7];rfl
  · rw [hdd]
    have:=setCells_put0 w b c
    simp only [List.toList_toArray]
    rw [this]
    exact h
end
def nms8:List ByteArray:=[⟨#[97]⟩,⟨#[98]⟩,⟨#[99]⟩,⟨#[100,100]⟩,⟨#[101]⟩,⟨#[]⟩,⟨#[120,47,121]⟩,⟨#[122,126]⟩]
def NamesP (w:World) (e:Ending) (w':World):Prop:=e=.returned (.slice (some ⟨w.heap.size,0,none⟩) 8 8)∧w'=w.alloc (.cells (sv nms8).toArray 9)
theorem names_any (w:World):Calls Tryz.prog 115 #[] w (NamesP w):=by
  go_enter Tryz.func115,Tryz.ntmps115
  go_wp2
  go_ret
  exact ⟨rfl,rfl⟩
theorem nms8_sm:∀ j,j<8→okN (nms8.getD j ByteArray.empty)=true∧(nms8.getD j ByteArray.empty).size≤3:=by decide +kernel
theorem nms8_ok:∀ j,j<8→okN (nms8.getD j ByteArray.empty)=true:=by decide +kernel
structure ObS (W8:World) (b8 d n:Nat) (t:MT) (wr:World):Prop where
  but:But b8 W8 wr
  lt:b8<W8.heap.size
  box:BoxT wr b8 t.c
  obj:∃ ka kc va vc,t.c=objC7 ka t.k.length kc va t.k.length vc
  tm:t.m=[]
  kv:t.v.length=t.k.length
  le:t.k.length≤n
  ris:Ris t.k
  ok:∀ s∈t.k,okN s=true∧s.size≤3
  fit:∀ x∈t.v,Fit d x
  ind:Ind (fun k=>k<W8.heap.size) wr (fun W=>Rep W t)
theorem ObS.o7 {W8 wr:World} {b8 d n:Nat} {t:MT} (h:ObS W8 b8 d n t wr) (hn:n≤100):Obj7 t:=by
  obtain ⟨ka,kc,va,vc,e⟩:=h.obj
  exact ⟨by rw [e];rfl,by rw [e];rfl,by rw [e];rfl,h.kv,Nat.le_trans h.le hn,h.ris⟩
theorem put1_mem {α:Type} {l:List α} {p q:Nat} {x y:α} (h:y∈put1 l p q x):y∈l∨y=x:=by
  unfold put1 at h
  rcases List.mem_append.1 h with h | h
  · rcases List.mem_append.1 h with h | h
    · exact .inl (List.mem_of_mem_take h)
    · exact .inr (List.mem_singleton.1 h)
  · exact .inl (List.mem_of_mem_drop h)
theorem spl_ex {N:List ByteArray} (hr:Ris N) (s:ByteArray):∃ p q,Spl N s p q:=by
  cases hi:ixL N s with
  | none=>exact ⟨_,_,spl_none hr hi⟩
  | some i=>exact ⟨_,_,spl_some hr hi⟩
theorem ObS.step {W8 wr wc w3:World} {b8 d n:Nat} {t x:MT} {s:ByteArray} {p q:Nat} {e:Ending} (h:ObS W8 b8 d n t wr) (hs:okN s=true∧s.size≤3) (hp:Spl t.k s p q) (hf:Fit d x) (hb:Below wr.heap.size wr wc) (hS:SetPost t x s p q (fun k=>k<W8.heap.size) wc e w3) :
    ∃ u:MT,e=.returned u.c.val∧ObS W8 b8 d (n+1) u (put0 w3 b8 u.c)∧BoxT w3 b8 t.c:=by
  obtain ⟨u,he,ho,hm,hk,hv,hi,hb3⟩:=hS
  have hs1:=hb.size;have hs3:=hb3.size;have hlt:=h.lt;have hsw:=h.but.size
  have hb03:Below wr.heap.size wr w3:=hb.trans (hb3.mono hs1)
  have hbox:BoxT w3 b8 t.c:=h.box.on (hb03.block _ h.box.lt)
  have hput:=put0_but w3 b8 u.c
  have l1:=put1_len t.k p q s hp.pq hp.ql
  have l2:=put1_len t.v p q x hp.pq (by rw [h.kv];exact hp.ql)
  have hpq:=hp.pq
  refine ⟨u,he,⟨(h.but.trans (But.of_below hb03)).trans hput,h.lt,put0_box hbox,ho,hm,?_,?_,?_,?_,?_,?_⟩,hbox⟩
  · rw [hk,hv];have:=h.kv;omega
  · rw [hk];have:=h.le;omega
  · rw [hk];exact spl_ris h.ris hp
  · intro y hy
    rw [hk] at hy
    rcases put1_mem hy with hy | rfl
    · exact h.ok y hy
    · exact hs
  · intro y hy
    rw [hv] at hy
    rcases put1_mem hy with hy | rfl
    · exact h.fit y hy
    · exact hf
  · exact hi.to hput.size (fun k hk1 hk2=>hput.block k hk1 (fun e=>hk2 (by omega))) (fun _ _ h=>h) (fun _ h=>h)
def OBL (W8:World) (b8:Nat) (v0:Value) (d m g:Nat) (u iv:Value) (wr:World):Prop :=
  ∃ (i:Nat) (t:MT),i≤m∧m - i≤g∧iv=.int .i64 (i:Int)∧(∀ W,IntsV W v0→IntsV W u)∧ObS W8 b8 d i t wr
theorem risesB_of {l:List ByteArray} (hr:Ris l) (ho:∀ s∈l,okN s=true):risesB l=true:=by
  rw [risesB_iff]
  intro i hi
  have h1:okN (l.getD i ByteArray.empty)=true:=ho _ (by simp [List.getD,hi])
  unfold nameAt
  rw [h1]
  by_cases h0:i=0
  · simp [h0]
  · have:=hr (i - 1) i (by omega) hi
    simp
    exact .inr (by simpa using this)
theorem obj_end {d d' n:Nat} {v0 u0:Value} {w W8 W:World} {b8:Nat} {t:MT} (hd:d=d'+1) (hb:Below w.heap.size w W8) (hb8:w.heap.size<b8) (h1:∀ W,IntsV W v0→IntsV W u0) (h:ObS W8 b8 d' n t W) (hl:n≤3) :
    MadeP d v0 w (.returned (.tuple #[t.c.val,u0])) (put0 W w.heap.size t.c):=by
  subst hd
  have hs:=h.but.size;have hlt:=h.lt;have hsb:=hb.size;have hle:=h.le
  refine made_end rfl (hb.trans (h.but.below (by omega) hb.size)) h1 ?_ ⟨?_,by rw [h.kv];omega,h.fit⟩
  · exact h.ind.to (Nat.le_refl _) (fun _ _ _=>rfl) (fun k hk (hx:k<w.heap.size∨k=w.heap.size)=>show k<W8.heap.size by omega) (fun _ h=>h)
  · obtain ⟨ka,kc,va,vc,e⟩:=h.obj
    have e3:t.k.all (fun k=>decide (k.size≤3))=true:=List.all_eq_true.2 fun s hs=>decide_eq_true (h.ok s hs).2
    unfold fitB smB soundB
    rw [e,e3,h.tm]
    have e1:=risesB_of h.ris (fun s hs=>(h.ok s hs).1)
    have e2:t.k.length≤300:=by omega
    simp [objC7,blankB,e1,e2]
    exact ⟨rfl,rfl⟩
end Go.Proofs.YtijaphbccnadbaaGreatDoor
