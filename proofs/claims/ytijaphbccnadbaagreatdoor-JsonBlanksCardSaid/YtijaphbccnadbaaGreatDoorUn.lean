/- Texts of the claim. -/
import Derived.Test.YtijaphbccnadbaaGreatDoorUm
import Derived.Laws.BitsLemmas
import Derived.Laws.Strings3
import Derived.Lib.IndexBytes
import Derived.Deep.DeepFit
import Derived.Deep.QuietTactic
import Derived.BigQuiet
import Derived.IntWalk
import Derived.Laws.BytesArg
set_option linter.unusedVariables false
set_option linter.unusedSimpArgs false
set_option maxHeartbeats 200000
set_option maxRecDepth 100000
namespace Go.Proofs.YtijaphbccnadbaaGreatDoor
open Go.RowKit Go.Shelf Go.Lib
def RunePost (r m:Int) (w:World) (e:Ending) (w':World):Prop:=e=.returned (.tuple #[.int .i32 r,.int .i64 m])∧∃ q,w'=w.drewN q
def r3 (c:Nat):Int:=if 2048≤c∧(c<55296∨57343<c) then c else -1
def r4 (c:Nat):Int:=if 65536≤c∧c≤1114111 then c else -1
theorem RunePost.below {r m:Int} {w:World} {e:Ending} {w':World} (h:RunePost r m w e w'):e=.returned (.tuple #[.int .i32 r,.int .i64 m])∧Below w.heap.size w w':=by
  obtain ⟨he,q,rfl⟩:=h
  exact ⟨he,(Below.refl _ _).trans ⟨rfl,rfl,rfl,Nat.le_refl _,fun _ _=>rfl⟩⟩

def QR (s:ByteArray) (B:Nat) (w:World) (k:Nat) (v a:Value) (wr:World):Prop :=
  ∃ pos acc,s.size - pos≤k∧a=.int .i64 ((pos:Nat):Int)∧acc++runesL (tailL s pos)=runesL s.data.toList∧acc.length≤pos∧pos≤s.size∧wr.ownsRow B 21 1 v acc.length (rv acc)∧Below B w wr
theorem QR.step {s:ByteArray} {B:Nat} {w wr w':World} {k pos:Nat} {acc:List Int} {v v':Value} {o:Obj} (hp:pos<s.size) (hk:s.size - pos≤k+1) (ha:acc++runesL (tailL s pos)=runesL s.data.toList) (hl:acc.length≤pos)
    (ho:wr.ownsRow B 21 1 v acc.length (rv acc)) (hb:Below B w wr) (hB:B≤wr.heap.size)
    (h1:w'.ownsRow B 21 1 v' (acc.length+1) (rv acc++[.int .i32 (runeL (tailL s pos)).1])) (h2:(wr.alloc o).grownBy w' v.ownBlock):QR s B w k v' (.int .i64 ((pos+(runeL (tailL s pos)).2:Nat):Int)) w':=by
  have hw:=runeL_width (tailL s pos) (tailL_ne hp)
  rw [tailL_length] at hw
  refine ⟨pos+(runeL (tailL s pos)).2,acc++[(runeL (tailL s pos)).1],by omega,rfl,?_,by simp;omega,by omega,?_,?_⟩
  · rw [← ha,runesL_cons (tailL_ne hp),tailL_drop];simp
  · simpa [rv] using h1
  · exact (hb.alloc hB o).grown h2 (by simp;omega) (fun g hg=>(ho.lt g hg).1)
end Go.Proofs.YtijaphbccnadbaaGreatDoor
