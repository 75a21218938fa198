/- Texts of the claim. -/
import Derived.Test.YtijaphbccnadbaaGreatDoorUJ
import Derived.Test.YtijaphbccnadbaaGreatDoorUS
import Derived.Test.YtijaphbccnadbaaGreatDoorUr
set_option linter.unusedVariables false
set_option linter.unusedSimpArgs false
set_option maxHeartbeats 200000
set_option maxRecDepth 100000
namespace Go.Proofs.YtijaphbccnadbaaGreatDoor
open Go.Shelf Go.RowKit Go.Lib

theorem boxC8 {k:Int} {b neg:Bool} {ma:Option Addr} {mn mc:Nat} {e:Int} {s:ByteArray} {ka:Option Addr} {kn kc:Nat} {va:Option Addr} {vn vc:Nat} (w:World) {W:World}
    (h:Below (w.alloc (.cells #[.int .i64 k,.bool b,.bool neg,.slice ma mn mc,.int .i64 e,.string s,.slice ka kn kc,.slice va vn vc] 28)).heap.size (w.alloc (.cells #[.int .i64 k,.bool b,.bool neg,.slice ma mn mc,.int .i64 e,.string s,.slice ka kn kc,.slice va vn vc] 28)) W) :
    W.cell? ⟨w.heap.size,0,none⟩=some (.int .i64 k)∧W.cell? ⟨w.heap.size,1,none⟩=some (.bool b)∧W.cell? ⟨w.heap.size,2,none⟩=some (.bool neg)∧W.cell? ⟨w.heap.size,3,none⟩=some (.slice ma mn mc)∧W.cell? ⟨w.heap.size,4,none⟩=some (.int .i64 e)∧W.cell? ⟨w.heap.size,5,none⟩=some (.string s)∧W.cell? ⟨w.heap.size,6,none⟩=some (.slice ka kn kc)∧W.cell? ⟨w.heap.size,7,none⟩=some (.slice va vn vc):=by
  have q:=(h.block _ (by simp)).trans (heap_alloc_new w (.cells #[.int .i64 k,.bool b,.bool neg,.slice ma mn mc,.int .i64 e,.string s,.slice ka kn kc,.slice va vn vc] 28))
  exact ⟨(box_cellsJ q 0 _ rfl).1,(box_cellsJ q 1 _ rfl).1,(box_cellsJ q 2 _ rfl).1,(box_cellsJ q 3 _ rfl).1,(box_cellsJ q 4 _ rfl).1,(box_cellsJ q 5 _ rfl).1,(box_cellsJ q 6 _ rfl).1,(box_cellsJ q 7 _ rfl).1⟩
theorem belowC_new (w:World) (o:Obj):Below w.heap.size w (w.alloc o):=(Below.refl _ _).alloc (Nat.le_refl _) _
def PlnC (w:World) (e:Ending) (w':World):Prop:=∃ u:MT,e=.returned u.c.val∧Rep w' u∧(checkB u=true∧NoB u∧(encJ u).length≤11060∧Fit 4 u.bare)∧Below w.heap.size w w'
end Go.Proofs.YtijaphbccnadbaaGreatDoor
