/- Texts of the claim. -/
import Derived.Test.YticgggjfmhiilaaDoorLr
set_option linter.unusedVariables false
set_option linter.unusedSimpArgs false
set_option maxHeartbeats 200000
set_option maxRecDepth 100000
namespace Go.Proofs.YticgggjfmhiilaaDoor
open Go.RowKit Go.Shelf
structure NewNum (B:Nat) (W:World) (ng:Bool) (a:Option Addr) (n c:Nat) (xs:List Nat) (x:Int):Prop where
  len:xs.length=n
  cap:n≤c
  ok:Okl xs
  chk:chkB ng xs x=true
  rd:Rd W a xs
  loc:∀ ad,a=some ad→B≤ad.block∧ad.block<W.heap.size
  sm:xs.length≤6
theorem NewNum.on {B:Nat} {W W':World} {ng:Bool} {a:Option Addr} {n c:Nat} {xs:List Nat} {x:Int} (h:NewNum B W ng a n c xs x) (hb:Below W.heap.size W W'):NewNum B W' ng a n c xs x :=
  ⟨h.len,h.cap,h.ok,h.chk,h.rd.below hb,fun ad e=>⟨(h.loc ad e).1,Nat.lt_of_lt_of_le (h.loc ad e).2 hb.size⟩,h.sm⟩
theorem NewNum.mono {B B':Nat} {W:World} {ng:Bool} {a:Option Addr} {n c:Nat} {xs:List Nat} {x:Int} (h:NewNum B W ng a n c xs x) (hb:B'≤B):NewNum B' W ng a n c xs x :=
  ⟨h.len,h.cap,h.ok,h.chk,h.rd,fun ad e=>⟨Nat.le_trans hb (h.loc ad e).1,(h.loc ad e).2⟩,h.sm⟩
theorem NewNum.but {B g:Nat} {W W':World} {ng:Bool} {a:Option Addr} {n c:Nat} {xs:List Nat} {x:Int} (h:NewNum B W ng a n c xs x) (hg:g<B) (hs:W.heap.size≤W'.heap.size) (hk:∀ k,k<W.heap.size→k ≠ g→W'.heap[k]? = W.heap[k]?):NewNum B W' ng a n c xs x :=
  ⟨h.len,h.cap,h.ok,h.chk,by
    intro i hi
    obtain ⟨b,o,e,hlt,hc⟩:=h.rd i hi
    have:=h.loc _ e
    exact ⟨b,o,e,Nat.lt_of_lt_of_le hlt hs,by rw [World.cell?_of_block (w:=W) (hk b hlt (by simp at this;omega))];exact hc⟩,fun ad e=>⟨(h.loc ad e).1,Nat.lt_of_lt_of_le (h.loc ad e).2 hs⟩,h.sm⟩
end Go.Proofs.YticgggjfmhiilaaDoor
