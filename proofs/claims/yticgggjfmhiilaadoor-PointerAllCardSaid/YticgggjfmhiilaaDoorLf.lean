/- Texts of the claim. -/
import Derived.Test.YticgggjfmhiilaaDoorLe
set_option linter.unusedVariables false
set_option linter.unusedSimpArgs false
set_option maxHeartbeats 200000
set_option maxRecDepth 100000
namespace Go.Proofs.YticgggjfmhiilaaDoor
open Go.RowKit Go.Shelf
def soundB (t:MT):Bool :=
  if t.c.k=1 then blankB t.c
  else if t.c.k=2 then blankB { t.c with b:=false }
  else if t.c.k=3 then chkB t.c.neg t.m t.c.e && blankB { t.c with neg:=false,ma:=none,mn:=0,mc:=0,e:=0 }
  else if t.c.k=4 then validL t.c.s.data.toList && (decide (t.c.s.size≤2000) && blankB { t.c with s:=⟨#[]⟩ })
  else if t.c.k=5 then decide (t.c.s.size≤2000) && blankB { t.c with s:=⟨#[]⟩ }
  else if t.c.k=7 then decide (t.c.kn=t.c.vn) && (risesB t.k && (decide (t.c.vn≤300) && blankB { t.c with ka:=none,kn:=0,kc:=0,va:=none,vn:=0,vc:=0 }))
  else if t.c.k=6 then decide (t.c.vn≤300) && blankB { t.c with va:=none,vn:=0,vc:=0 }
  else false
def two2 (w:World) (c d:Cel):World:=(w.alloc (.cells c.cells.toArray 28)).alloc (.cells d.cells.toArray 28)
theorem two_below2 (w:World) (c d:Cel):Below w.heap.size w (two2 w c d):=((Below.refl _ _).alloc (Nat.le_refl _) _).alloc (by simp) _
end Go.Proofs.YticgggjfmhiilaaDoor
