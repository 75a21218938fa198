/- Texts of the claim. -/
import Derived.Test.YticgggjfmhiilaaDoorLp
import Derived.Deep.DrawnRows
set_option linter.unusedVariables false
set_option linter.unusedSimpArgs false
set_option maxHeartbeats 200000
set_option maxRecDepth 100000
namespace Go.Proofs.YticgggjfmhiilaaDoor
open Go.RowKit Go.Sort

end Go.Proofs.YticgggjfmhiilaaDoor
namespace Go.Proofs.YticgggjfmhiilaaDoor
open Go.RowKit Go.Sort
open Go.RowKit Go.Sort
structure Bx (w:World) (g:Nat) (neg:Bool) (v:Value) (e:Int):Prop where
  lt:g<w.heap.size
  c0:w.cell? ⟨g,0,none⟩=some (.bool neg)
  c1:w.cell? ⟨g,1,none⟩=some v
  c2:w.cell? ⟨g,2,none⟩=some (.int .i64 e)
theorem Bx.step {w w':World} {g:Nat} {neg:Bool} {v:Value} {e:Int} (h:Bx w g neg v e) (hb:Below w.heap.size w w'):Bx w' g neg v e :=
  ⟨Nat.lt_of_lt_of_le h.lt hb.size,(hb.cell (p:=⟨g,0,none⟩) h.lt).trans h.c0,(hb.cell (p:=⟨g,1,none⟩) h.lt).trans h.c1,(hb.cell (p:=⟨g,2,none⟩) h.lt).trans h.c2⟩
theorem Ctx.on {w0 w w':World} {l l':List Ent} (hc:Ctx w w' l') (h:Ctx w0 w l):Ctx w0 w' l':=⟨below_on h.below hc.below,hc.all⟩
end Go.Proofs.YticgggjfmhiilaaDoor
namespace Go.Proofs.YticgggjfmhiilaaDoor
open Go.RowKit


end Go.Proofs.YticgggjfmhiilaaDoor
namespace Go.Proofs.YticgggjfmhiilaaDoor
open Go.RowKit Go.Sort



end Go.Proofs.YticgggjfmhiilaaDoor
