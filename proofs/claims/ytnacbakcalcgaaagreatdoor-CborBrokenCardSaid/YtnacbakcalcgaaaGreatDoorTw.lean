/- Texts of the claim. -/
import Derived.Test.YtnacbakcalcgaaaGreatDoorTv
set_option linter.unusedVariables false
set_option linter.unusedSimpArgs false
set_option maxHeartbeats 200000
set_option maxRecDepth 100000
namespace Go.Proofs.YtnacbakcalcgaaaGreatDoor
open Go.RowKit

end Go.Proofs.YtnacbakcalcgaaaGreatDoor
namespace Go.Proofs.YtnacbakcalcgaaaGreatDoor
open Go.RowKit Go.Lib Go.Sort

structure Byt (w:World) (v:Value) (l:List Nat):Prop where
  at_:∃ ad n cap,v=.slice ad n cap∧l.length=n∧n≤cap∧RdV w ad (bc l)∧Shp ad cap∧(ad=none→cap=0)
theorem Byt.on {w w':World} {v:Value} {l:List Nat} (h:Byt w v l) (hb:Below w.heap.size w w'):Byt w' v l:=by
  obtain ⟨ad,n,cap,h1,h2,h3,h4,h5,h6⟩:=h.at_
  exact ⟨⟨ad,n,cap,h1,h2,h3,h4.on hb,h5,h6⟩⟩
theorem Byt.own {w:World} {B:Nat} {v:Value} {n:Nat} {l:List Nat} (h:w.ownsRow B 5 1 v n (bc l)):Byt w v l:=by
  have hl:l.length=n:=by have:=h.1;rw [bc_len] at this;omega
  rcases h.2 with ⟨rfl,h0⟩ | ⟨g,cap,cur,rfl,_,_,hc,_⟩
  · subst h0
    have:l=[]:=List.eq_nil_of_length_eq_zero hl
    subst this
    exact ⟨none,0,0,rfl,rfl,Nat.le_refl _,RdV.nil _ _,.inl ⟨rfl,rfl⟩,fun _=>rfl⟩
  · obtain ⟨ad,cap',e,_,hr,_⟩:=own_viewN h
    simp only [Value.slice.injEq] at e
    obtain ⟨rfl,_,rfl⟩:=e
    exact ⟨_,n,cap,rfl,hl,hc,hr,.inr ⟨_,_,rfl⟩,fun h=>by cases h⟩
structure NumC (w:World) (c:Cel) (g:Bool) (N:Nat) (E:Int):Prop where
  neg:c.neg=g
  mn:c.mn=(limbs N).length
  e:c.e=E
  le:c.mn≤c.mc
  rd:Rd w c.ma (limbs N)
theorem NumC.on {w w':World} {c:Cel} {g:Bool} {N:Nat} {E:Int} (h:NumC w c g N E) (hb:Below w.heap.size w w'):NumC w' c g N E:=⟨h.neg,h.mn,h.e,h.le,h.rd.below hb⟩
def MdC (w:World) (e:Ending) (w':World):Prop:=∃ t:MT,e=.returned t.c.val∧Rep w' t∧(checkB t=true∧SndC t 2∧t.nodes≤1000∧(encX t).length≤16000)∧Below w.heap.size w w'
end Go.Proofs.YtnacbakcalcgaaaGreatDoor
namespace Go.Proofs.YtnacbakcalcgaaaGreatDoor
open Go.RowKit Go.Sort

theorem box3_cells {w:World} {g:Nat} {x0 x1 x2:Value} (hz:g<w.heap.size) (c0:w.cell? ⟨g,0,none⟩=some x0) (c1:w.cell? ⟨g,1,none⟩=some x1) (c2:w.cell? ⟨g,2,none⟩=some x2) (v0 v1 v2:Value) (b:Array Value) (t:TypeId) :
    ((((w.setCell ⟨g,0,none⟩ v0).setCell ⟨g,1,none⟩ v1).setCell ⟨g,2,none⟩ v2).alloc (.cells b t)).cell? ⟨g,0,none⟩=some v0∧((((w.setCell ⟨g,0,none⟩ v0).setCell ⟨g,1,none⟩ v1).setCell ⟨g,2,none⟩ v2).alloc (.cells b t)).cell? ⟨g,1,none⟩=some v1∧((((w.setCell ⟨g,0,none⟩ v0).setCell ⟨g,1,none⟩ v1).setCell ⟨g,2,none⟩ v2).alloc (.cells b t)).cell? ⟨g,2,none⟩=some v2:=by
  have hb:=below_box (((w.setCell ⟨g,0,none⟩ v0).setCell ⟨g,1,none⟩ v1).setCell ⟨g,2,none⟩ v2) b t
  have hs:g<(((w.setCell ⟨g,0,none⟩ v0).setCell ⟨g,1,none⟩ v1).setCell ⟨g,2,none⟩ v2).heap.size:=by simpa [World.setCell] using hz
  refine ⟨?_,?_,?_⟩
  · rw [hb.cell (p:=⟨g,0,none⟩) hs];simp [go_sem,c0,c1,c2]
  · rw [hb.cell (p:=⟨g,1,none⟩) hs];simp [go_sem,c0,c1,c2]
  · rw [hb.cell (p:=⟨g,2,none⟩) hs];simp [go_sem,c0,c1,c2]

end Go.Proofs.YtnacbakcalcgaaaGreatDoor
