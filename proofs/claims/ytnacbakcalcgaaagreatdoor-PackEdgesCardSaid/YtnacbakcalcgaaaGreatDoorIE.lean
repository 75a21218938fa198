/- Texts of the claim. -/
import Derived.Test.YtnacbakcalcgaaaGreatDoorID
set_option linter.unusedVariables false
set_option linter.unusedSimpArgs false
set_option maxHeartbeats 200000
set_option maxRecDepth 100000
namespace Go.Proofs.YtnacbakcalcgaaaGreatDoor
open Go.RowKit Go.Sort



structure BxZ (w:World) (g:Nat):Prop where
  lt:g<w.heap.size
  c0:w.cell? ⟨g,0,none⟩=some (.bool false)
  c1:w.cell? ⟨g,1,none⟩=some (.slice none 0 0)
  c2:w.cell? ⟨g,2,none⟩=some (.int .i64 0)
  f0:w.frozen? ⟨g,0,none⟩=false
  f1:w.frozen? ⟨g,1,none⟩=false
  f2:w.frozen? ⟨g,2,none⟩=false
theorem BxZ.step {w w':World} {g:Nat} (h:BxZ w g) (hb:Below w.heap.size w w'):BxZ w' g :=
  ⟨Nat.lt_of_lt_of_le h.lt hb.size,(hb.cell (p:=⟨g,0,none⟩) h.lt).trans h.c0,(hb.cell (p:=⟨g,1,none⟩) h.lt).trans h.c1,(hb.cell (p:=⟨g,2,none⟩) h.lt).trans h.c2,
    (hb.frozen (p:=⟨g,0,none⟩) h.lt).trans h.f0,(hb.frozen (p:=⟨g,1,none⟩) h.lt).trans h.f1,(hb.frozen (p:=⟨g,2,none⟩) h.lt).trans h.f2⟩
theorem BxZ.alloc {w:World} {g:Nat} (h:BxZ w g) (o:Obj):BxZ (w.alloc o) g:=h.step ((Below.refl _ _).alloc (Nat.le_refl _) _)
end Go.Proofs.YtnacbakcalcgaaaGreatDoor
namespace Go.Proofs.YtnacbakcalcgaaaGreatDoor
open Go.Shelf Go.RowKit Go.Lib

end Go.Proofs.YtnacbakcalcgaaaGreatDoor
namespace Go.Proofs.YtnacbakcalcgaaaGreatDoor
open Go.RowKit Go.Shelf
def rv (l:List Int):List Value:=l.map (Value.int .i32)
def RR (s:ByteArray) (B IT:Nat) (w:World) (k:Nat) (v:Value) (wr:World):Prop :=
  ∃ pos acc,s.size - pos≤k∧acc++runesL (tailL s pos)=runesL s.data.toList∧acc.length≤pos∧pos≤s.size∧wr.ownsRow B 21 1 v acc.length (rv acc)∧wr.heap[IT]? = some (.stringIter s pos)∧Below B w wr
theorem iter_grown {w w':World} {B:Nat} {e:TypeId} {v:Value} {n:Nat} {xs:List Value} {IT:Nat} {s:ByteArray} {p:Nat} (hi:w.heap[IT]? = some (.stringIter s p)) (h:w.ownsRow B e 1 v n xs) (hg:w.grownBy w' v.ownBlock):w'.heap[IT]? = some (.stringIter s p):=by
  rw [hg.block IT (Array.getElem?_eq_some_iff.1 hi).1];exact hi
  intro e
  rcases h.2 with ⟨rfl,_⟩ | ⟨g,cap,cur,rfl,hB,hg,rest⟩
  · simp [Value.ownBlock] at e
  · simp [Value.ownBlock] at e;subst e;rw [hg] at hi;cases hi
theorem iter_alloc {w:World} {IT:Nat} {s:ByteArray} {p:Nat} (hi:w.heap[IT]? = some (.stringIter s p)) (o:Obj):(w.alloc o).heap[IT]? = some (.stringIter s p):=by
  rw [Lib.alloc_old w o IT (Array.getElem?_eq_some_iff.1 hi).1];exact hi
theorem RR.step {s:ByteArray} {B IT:Nat} {w wr w':World} {k pos:Nat} {acc:List Int} {v v':Value} {o:Obj} (hp:pos<s.size) (hk:s.size - pos≤k+1) (ha:acc++runesL (tailL s pos)=runesL s.data.toList) (hl:acc.length≤pos)
    (ho:wr.ownsRow B 21 1 v acc.length (rv acc)) (hi:wr.heap[IT]? = some (.stringIter s (pos+(runeL (tailL s pos)).2))) (hb:Below B w wr) (hB:B≤wr.heap.size)
    (h1:w'.ownsRow B 21 1 v' (acc.length+1) (rv acc++[.int .i32 (runeL (tailL s pos)).1])) (h2:(wr.alloc o).grownBy w' v.ownBlock):RR s B IT w k v' w':=by
  have hw:=runeL_width (tailL s pos) (tailL_ne hp)
  rw [tailL_length] at hw
  refine ⟨pos+(runeL (tailL s pos)).2,acc++[(runeL (tailL s pos)).1],by omega,?_,by simp;omega,by omega,?_,?_,?_⟩
  · rw [← ha,runesL_cons (tailL_ne hp),tailL_drop];simp
  · simpa [rv] using h1
  · exact iter_grown (iter_alloc hi o) (ho.alloc o) h2
  · exact (hb.alloc hB o).grown h2 (by simp;omega) (fun g hg=>(ho.lt g hg).1)
def Rk (k:IntKind) (w:World) (ad:Option Addr) (xs:List Int):Prop :=
  ∀ i,i<xs.length→∃ b o,ad=some ⟨b,o,none⟩∧b<w.heap.size∧w.cell? ⟨b,o+i,none⟩=some (.int k (xs.getD i 0))
theorem Rk.at {k:IntKind} {w:World} {b o:Nat} {xs:List Int} (h:Rk k w (some ⟨b,o,none⟩) xs) (i:Nat) (hi:i<xs.length) :
    w.cell? ⟨b,o+i,none⟩=some (.int k (xs.getD i 0)):=by
  obtain ⟨b',o',e,_,hc⟩:=h i hi
  cases e;exact hc
theorem Rk.nil (k:IntKind) (w:World) (ad:Option Addr):Rk k w ad []:=by intro i h;simp at h
theorem Rk.below {k:IntKind} {w w':World} {ad:Option Addr} {xs:List Int} (h:Rk k w ad xs) (hb:Below w.heap.size w w'):Rk k w' ad xs:=by
  intro i hi
  obtain ⟨b,o,e,hlt,hc⟩:=h i hi
  exact ⟨b,o,e,Nat.lt_of_lt_of_le hlt hb.size,by rw [hb.cell (p:=⟨b,o+i,none⟩) hlt];exact hc⟩
end Go.Proofs.YtnacbakcalcgaaaGreatDoor
namespace Go.Proofs.YtnacbakcalcgaaaGreatDoor
open Go.RowKit Go.Shelf Go.Lib
def RunePost (r m:Int) (w:World) (e:Ending) (w':World):Prop:=e=.returned (.tuple #[.int .i32 r,.int .i64 m])∧∃ q,w'=w.drewN q
def r3 (c:Nat):Int:=if 2048≤c∧(c<55296∨57343<c) then c else -1
def m3 (c:Nat):Int:=if 2048≤c∧(c<55296∨57343<c) then 3 else 1
def r4 (c:Nat):Int:=if 65536≤c∧c≤1114111 then c else -1
def m4 (c:Nat):Int:=if 65536≤c∧c≤1114111 then 4 else 1
theorem RunePost.below {r m:Int} {w:World} {e:Ending} {w':World} (h:RunePost r m w e w'):e=.returned (.tuple #[.int .i32 r,.int .i64 m])∧Below w.heap.size w w':=by
  obtain ⟨he,q,rfl⟩:=h
  exact ⟨he,(Below.refl _ _).trans ⟨rfl,rfl,rfl,Nat.le_refl _,fun _ _=>rfl⟩⟩

end Go.Proofs.YtnacbakcalcgaaaGreatDoor
