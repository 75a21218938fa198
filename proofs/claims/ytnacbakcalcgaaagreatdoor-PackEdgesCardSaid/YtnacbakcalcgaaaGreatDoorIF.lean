/- Texts of the claim. -/
import Derived.Test.YtnacbakcalcgaaaGreatDoorIE
import Derived.Deep.CutBlock
set_option linter.unusedVariables false
set_option linter.unusedSimpArgs false
set_option maxHeartbeats 2000000
set_option maxRecDepth 100000
namespace Go.Proofs.YtnacbakcalcgaaaGreatDoor
open Go.RowKit Go.Shelf Go.Lib
def QR (s:ByteArray) (B:Nat) (w:World) (k:Nat) (v a:Value) (wr:World):Prop :=
  ∃ pos acc,s.size - pos≤k∧a=.int .i64 ((pos:Nat):Int)∧acc++runesL (tailL s pos)=runesL s.data.toList∧acc.length≤pos∧pos≤s.size∧wr.ownsRow B 21 1 v acc.length (rv acc)∧Below B w wr
theorem QR.step {s:ByteArray} {B:Nat} {w wr w':World} {k pos:Nat} {acc:List Int} {v v':Value} {o:Obj} (hp:pos<s.size) (hk:s.size - pos≤k+1) (ha:acc++runesL (tailL s pos)=runesL s.data.toList) (hl:acc.length≤pos)
    (ho:wr.ownsRow B 21 1 v acc.length (rv acc)) (hb:Below B w wr) (hB:B≤wr.heap.size)
    (h1:w'.ownsRow B 21 1 v' (acc.length+1) (rv acc++[.int .i32 (runeL (tailL s pos)).1])) (h2:(wr.alloc o).grownBy w' v.ownBlock):QR s B w k v' (.int .i64 ((pos+(runeL (tailL s pos)).2:Nat):Int)) w':=by
  have hw:=runeL_width (tailL s pos) (tailL_ne hp)
  rw [tailL_length] at hw
  refine ⟨pos+(runeL (tailL s pos)).2,acc++[(runeL (tailL s pos)).1],by omega,rfl,?_,by simp;omega,by omega,?_,?_⟩
  · rw [← ha,runesL_cons (tailL_ne hp),tailL_drop];simp
  · simpa [rv] using h1
  · exact (hb.alloc hB o).grown h2 (by simp;omega) (fun g hg=>(ho.lt g hg).1)
end Go.Proofs.YtnacbakcalcgaaaGreatDoor
namespace Go.Proofs.YtnacbakcalcgaaaGreatDoor
open Go.RowKit Go.Shelf
theorem box_cellsJC {W:World} {b:Nat} {c:Array Value} {t:TypeId} (h:W.heap[b]? = some (.cells c t)) (i:Nat) (v:Value) (hv:c[i]? = some v):W.cell? ⟨b,i,none⟩=some v∧W.frozen? ⟨b,i,none⟩=false:=by
  simp [World.cell?,World.frozen?,h,hv]
end Go.Proofs.YtnacbakcalcgaaaGreatDoor
namespace Go.Proofs.YtnacbakcalcgaaaGreatDoor
open Go.RowKit Go.Lib Go.Sort

structure Byt (w:World) (v:Value) (l:List Nat):Prop where
  at_:∃ ad n cap,v=.slice ad n cap∧l.length=n∧n≤cap∧RdV w ad (bc l)∧Shp ad cap∧(ad=none→cap=0)
theorem Byt.on {w w':World} {v:Value} {l:List Nat} (h:Byt w v l) (hb:Below w.heap.size w w'):Byt w' v l:=by
  obtain ⟨ad,n,cap,h1,h2,h3,h4,h5,h6⟩:=h.at_
  exact ⟨⟨ad,n,cap,h1,h2,h3,h4.on hb,h5,h6⟩⟩
theorem Byt.own {w:World} {B:Nat} {v:Value} {n:Nat} {l:List Nat} (h:w.ownsRow B 5 1 v n (bc l)):Byt w v l:=by
  have hl:l.length=n:=by have:=h.1;rw [bc_len] at this;omega
  rcases h.2 with ⟨rfl,h0⟩ | ⟨g,cap,cur,rfl,_,_,hc,_⟩
  · subst h0
    have:l=[]:=List.eq_nil_of_length_eq_zero hl
    subst this
    exact ⟨none,0,0,rfl,rfl,Nat.le_refl _,RdV.nil _ _,.inl ⟨rfl,rfl⟩,fun _=>rfl⟩
  · obtain ⟨ad,cap',e,_,hr,_⟩:=own_viewN h
    simp only [Value.slice.injEq] at e
    obtain ⟨rfl,_,rfl⟩:=e
    exact ⟨_,n,cap,rfl,hl,hc,hr,.inr ⟨_,_,rfl⟩,fun h=>by cases h⟩
def zc:Cel:=⟨0,false,false,none,0,0,0,⟨#[]⟩,none,0,0,none,0,0⟩
structure NumC (w:World) (c:Cel) (g:Bool) (N:Nat) (E:Int):Prop where
  neg:c.neg=g
  mn:c.mn=(limbs N).length
  e:c.e=E
  le:c.mn≤c.mc
  rd:Rd w c.ma (limbs N)
theorem NumC.on {w w':World} {c:Cel} {g:Bool} {N:Nat} {E:Int} (h:NumC w c g N E) (hb:Below w.heap.size w w'):NumC w' c g N E:=⟨h.neg,h.mn,h.e,h.le,h.rd.below hb⟩
theorem box8C {k:Int} {b neg:Bool} {ma:Option Addr} {mn mc:Nat} {e:Int} {s:ByteArray} {ka:Option Addr} {kn kc:Nat} {va:Option Addr} {vn vc:Nat} (w:World) {W:World}
    (h:Below (w.alloc (.cells #[.int .i64 k,.bool b,.bool neg,.slice ma mn mc,.int .i64 e,.string s,.slice ka kn kc,.slice va vn vc] 29)).heap.size (w.alloc (.cells #[.int .i64 k,.bool b,.bool neg,.slice ma mn mc,.int .i64 e,.string s,.slice ka kn kc,.slice va vn vc] 29)) W) :
    W.cell? ⟨w.heap.size,0,none⟩=some (.int .i64 k)∧W.cell? ⟨w.heap.size,1,none⟩=some (.bool b)∧W.cell? ⟨w.heap.size,2,none⟩=some (.bool neg)∧W.cell? ⟨w.heap.size,3,none⟩=some (.slice ma mn mc)∧W.cell? ⟨w.heap.size,4,none⟩=some (.int .i64 e)∧W.cell? ⟨w.heap.size,5,none⟩=some (.string s)∧W.cell? ⟨w.heap.size,6,none⟩=some (.slice ka kn kc)∧W.cell? ⟨w.heap.size,7,none⟩=some (.slice va vn vc):=by
  have q:=(h.block _ (by simp)).trans (heap_alloc_new w (.cells #[.int .i64 k,.bool b,.bool neg,.slice ma mn mc,.int .i64 e,.string s,.slice ka kn kc,.slice va vn vc] 29))
  exact ⟨(box_cellsJC q 0 _ rfl).1,(box_cellsJC q 1 _ rfl).1,(box_cellsJC q 2 _ rfl).1,(box_cellsJC q 3 _ rfl).1,(box_cellsJC q 4 _ rfl).1,(box_cellsJC q 5 _ rfl).1,(box_cellsJC q 6 _ rfl).1,(box_cellsJC q 7 _ rfl).1⟩
theorem below_newC (w:World) (o:Obj):Below w.heap.size w (w.alloc o):=(Below.refl _ _).alloc (Nat.le_refl _) _
structure BytA (w:World) (ad:Option Addr) (n cap:Nat) (l:List Nat):Prop where
  ln:l.length=n
  cp:n≤cap
  ok:Okb l
  rd:RdV w ad (bc l)
  shp:Shp ad cap
theorem BytA.on {w w':World} {ad:Option Addr} {n cap:Nat} {l:List Nat} (h:BytA w ad n cap l) (hb:Below w.heap.size w w'):BytA w' ad n cap l:=⟨h.ln,h.cp,h.ok,h.rd.on hb,h.shp⟩
theorem BytA.own {w:World} {B:Nat} {v:Value} {n:Nat} {l:List Nat} (h:w.ownsRow B 5 1 v n (bc l)) (hk:Okb l):∃ ad k cap,v=.slice ad k cap∧BytA w ad k cap l:=by
  obtain ⟨ad,k,cap,e,h1,h2,h3,h4,_⟩:=(Byt.own h).at_
  exact ⟨ad,k,cap,e,h1,h2,hk,h3,h4⟩
end Go.Proofs.YtnacbakcalcgaaaGreatDoor
namespace Go.Proofs.YtnacbakcalcgaaaGreatDoor
open Go.RowKit
end Go.Proofs.YtnacbakcalcgaaaGreatDoor
