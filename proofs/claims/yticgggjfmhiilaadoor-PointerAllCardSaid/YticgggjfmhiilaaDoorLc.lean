/- Texts of the claim. -/
import Derived.Test.YticgggjfmhiilaaDoorLb
import Derived.Lib.ItoaNum
import Derived.Lib.Repeat
import Derived.Deep.RegionHeld3
import Derived.Deep.DeepCutAuto
import Derived.Test.YticgggjfmhiilaaDoorShelf
import Derived.Lib.QuietBelow
set_option linter.unusedVariables false
set_option linter.unusedSimpArgs false
set_option maxHeartbeats 200000
set_option maxRecDepth 100000
namespace Go.Proofs.YticgggjfmhiilaaDoor
open Go.RowKit
open Go.RowKit
open Go.RowKit
open Go.RowKit
def chkB (neg:Bool) (xs:List Nat) (e:Int):Bool :=
  if xs.length=0 then !neg && decide (e=0) else decide (xs.length≤90∧xs.getD (xs.length - 1) 0 ≠ 0∧-1200≤e∧e≤1200∧val xs % 10 ≠ 0)
theorem chkB_nil {neg:Bool} {e:Int}:chkB neg [] e=(!neg && decide (e=0)):=rfl
theorem chkB_zero {neg:Bool} {e:Int} (h:chkB neg [] e=true):neg=false∧e=0:=by
  simpa [chkB] using h
theorem chkB_some {neg:Bool} {xs:List Nat} {e:Int} (h0:xs ≠ []) (h:chkB neg xs e=true):xs.length≤90∧xs.getD (xs.length - 1) 0 ≠ 0∧-1200≤e∧e≤1200∧val xs % 10 ≠ 0:=by
  unfold chkB at h
  rw [if_neg (fun h1=>h0 (List.eq_nil_of_length_eq_zero h1))] at h
  exact of_decide_eq_true h
theorem chkB_bounds {neg:Bool} {xs:List Nat} {e:Int} (h:chkB neg xs e=true):xs.length≤90∧-1200≤e∧e≤1200:=by
  by_cases h0:xs=[]
  · subst h0;obtain ⟨_,rfl⟩:=chkB_zero h;exact ⟨by simp,by omega,by omega⟩
  · obtain ⟨a,_,b,c,_⟩:=chkB_some h0 h;exact ⟨a,b,c⟩
def takes (l:List Nat) (c:Nat):Bool:=l.head? == some c
def rest (l:List Nat) (c:Nat):List Nat:=if takes l c then l.tail else l
def wholeBad (d:List Nat):Prop:=d=[]∨(1<d.length∧d.head? = some 48)
instance (d : List Nat) : Decidable (wholeBad d) := by unfold wholeBad; infer_instance
end Go.Proofs.YticgggjfmhiilaaDoor
namespace Go.Proofs.YticgggjfmhiilaaDoor
open Go.RowKit
open Go.RowKit
open Go.RowKit
def nv (neg:Bool) (v:Value) (e:Int):Value:=.agg #[.bool neg,v,.int .i64 e]
def BoolBelow (b:Bool) (w:World) (e:Ending) (w':World):Prop:=e=.returned (.bool b)∧Below w.heap.size w w'
theorem BoolBelow.mk {a b:Bool} {w w':World} (h:a=b) (hb:Below w.heap.size w w'):BoolBelow b w (.returned (.bool a)) w':=⟨by rw [h],hb⟩
theorem chkB_long {neg:Bool} {xs:List Nat} {e:Int} (h:90<xs.length):chkB neg xs e=false:=by
  unfold chkB;rw [if_neg (by omega)];exact decide_eq_false (by omega)
theorem chkB_top {neg:Bool} {xs:List Nat} {e:Int} (h:xs.length ≠ 0) (h0:xs.getD (xs.length - 1) 0=0):chkB neg xs e=false:=by
  unfold chkB;rw [if_neg h];exact decide_eq_false (fun h1=>h1.2.1 h0)
theorem chkB_out {neg:Bool} {xs:List Nat} {e:Int} (h:xs.length ≠ 0) (h0:e < -1200∨1200<e):chkB neg xs e=false:=by
  unfold chkB;rw [if_neg h];exact decide_eq_false (by omega)
theorem chkB_tens {neg:Bool} {xs:List Nat} {e:Int} (h:xs.length ≠ 0) (h1:xs.length≤90) (h2:xs.getD (xs.length - 1) 0 ≠ 0) (h3:-1200≤e) (h4:e≤1200):chkB neg xs e = !decide (val xs % 10=0):=by
  unfold chkB;rw [if_neg h]
  by_cases h5:val xs % 10=0
  · rw [decide_eq_false (fun h6=>h6.2.2.2.2 h5),decide_eq_true h5];rfl
  · rw [decide_eq_true ⟨h1,h2,h3,h4,h5⟩,decide_eq_false h5];rfl
end Go.Proofs.YticgggjfmhiilaaDoor
namespace Go.Proofs.YticgggjfmhiilaaDoor
open Go.RowKit Go.Sort
open Go.RowKit Go.Sort
structure NumOk (w:World) (neg:Bool) (ad:Option Addr) (n cap:Nat) (xs:List Nat) (e:Int):Prop where
  len:xs.length=n
  cap:n≤cap
  ok:Okl xs
  rd:Rd w ad xs
  chk:chkB neg xs e=true
theorem NumOk.below {w w':World} {neg:Bool} {ad:Option Addr} {n cap:Nat} {xs:List Nat} {e:Int} (h:NumOk w neg ad n cap xs e) (hb:Below w.heap.size w w'):NumOk w' neg ad n cap xs e :=
  ⟨h.len,h.cap,h.ok,h.rd.below hb,h.chk⟩
theorem NumOk.lo {w:World} {neg:Bool} {ad:Option Addr} {n cap:Nat} {xs:List Nat} {e:Int} (h:NumOk w neg ad n cap xs e):-1200≤e∧e≤1200:=(chkB_bounds h.chk).2
theorem below_drew {B:Nat} {a w:World} (h:Below B a w):Below B a w.drew:=h.trans ⟨rfl,rfl,rfl,Nat.le_refl _,fun _ _=>rfl⟩
end Go.Proofs.YticgggjfmhiilaaDoor
