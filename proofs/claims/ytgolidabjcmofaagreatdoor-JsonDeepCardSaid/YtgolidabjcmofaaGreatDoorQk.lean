/- Texts of the claim. -/
import Derived.Test.YtgolidabjcmofaaGreatDoorQj
import Derived.Laws.BytesArg
namespace Go.Proofs.YtgolidabjcmofaaGreatDoor
open Go.RowKit Go.Shelf Go.Lib
set_option linter.unusedVariables false
set_option linter.unusedSimpArgs false
end Go.Proofs.YtgolidabjcmofaaGreatDoor
namespace Go.Proofs.YtgolidabjcmofaaGreatDoor
open Go.RowKit Go.Shelf Go.Lib
set_option linter.unusedVariables false
set_option linter.unusedSimpArgs false
def QR (s : ByteArray) (B : Nat) (w : World) (k : Nat) (v a : Value) (wr : World) : Prop :=
  ∃ pos acc, s.size - pos ≤ k ∧ a = .int .i64 ((pos : Nat) : Int) ∧ acc ++ runesL (tailL s pos) = runesL s.data.toList ∧ acc.length ≤ pos ∧ pos ≤ s.size ∧ wr.ownsRow B 21 1 v acc.length (rv acc) ∧ Below B w wr
theorem QR.step {s : ByteArray} {B : Nat} {w wr w' : World} {k pos : Nat} {acc : List Int} {v v' : Value} {o : Obj} (hp : pos < s.size) (hk : s.size - pos ≤ k + 1) (ha : acc ++ runesL (tailL s pos) = runesL s.data.toList) (hl : acc.length ≤ pos)
    (ho : wr.ownsRow B 21 1 v acc.length (rv acc)) (hb : Below B w wr) (hB : B ≤ wr.heap.size)
    (h1 : w'.ownsRow B 21 1 v' (acc.length + 1) (rv acc ++ [.int .i32 (runeL (tailL s pos)).1])) (h2 : (wr.alloc o).grownBy w' v.ownBlock) : QR s B w k v' (.int .i64 ((pos + (runeL (tailL s pos)).2 : Nat) : Int)) w' := by
  have hw := runeL_width (tailL s pos) (tailL_ne hp)
  rw [tailL_length] at hw
  refine ⟨pos + (runeL (tailL s pos)).2, acc ++ [(runeL (tailL s pos)).1], by omega, rfl, ?_, by simp; omega, by omega, ?_, ?_⟩
  · rw [← ha, runesL_cons (tailL_ne hp), tailL_drop]; simp
  · simpa [rv] using h1
  · exact (hb.alloc hB o).grown h2 (by simp; omega) (fun g hg => (ho.lt g hg).1)
end Go.Proofs.YtgolidabjcmofaaGreatDoor
