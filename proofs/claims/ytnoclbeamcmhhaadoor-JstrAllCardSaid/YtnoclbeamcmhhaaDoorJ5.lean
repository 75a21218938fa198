/- The walk of jstr's escape. -/
import Derived.Test.YtnoclbeamcmhhaaDoorJ4
import Derived.Test.YtnoclbeamcmhhaaDoorUb
namespace Go.Proofs.YtnoclbeamcmhhaaDoor
open Go.RowKit Go.Shelf Go.Lib
set_option linter.unusedVariables false
set_option linter.unusedSimpArgs false

def EscPost (c : UInt8) (w : World) (e : Ending) (w' : World) : Prop := e = .returned (.string ⟨(escB c).toArray⟩) ∧ Below w.heap.size w w'

theorem conv2d (w : World) (a b : Int) : Sem.run Tryd.prog (convert 39 9 (.slice (some ⟨w.heap.size, 0, none⟩) 2 2)) ((w.alloc (.cells #[.int .u8 a, .int .u8 b] 5)).drew) = .ok (.string (strOfNums [a, b])) ((w.alloc (.cells #[.int .u8 a, .int .u8 b] 5)).drew) := by
  refine run_convert_bytes_arg _ 39 5 Tryd.underlying39 Tryd.underlying5 w.heap.size 0 2 2 [a, b] rfl ?_ 9 Tryd.underlying9
  intro i hi
  have hi' : i = 0 ∨ i = 1 := by omega
  rcases hi' with rfl | rfl <;> simp
theorem conv2e (w : World) (x y : UInt8) : Sem.run Tryd.prog (convert 39 9 (.slice (some ⟨w.heap.size, 0, none⟩) 2 2)) ((w.alloc (.cells #[.int .u8 (x.toNat : Int), .int .u8 (y.toNat : Int)] 5)).drew) = .ok (.string ⟨#[x, y]⟩) ((w.alloc (.cells #[.int .u8 (x.toNat : Int), .int .u8 (y.toNat : Int)] 5)).drew) := by
  rw [conv2d]
  congr 2
  unfold strOfNums
  simp
theorem dig_hexd : ∀ x : Fin 16, ({ data := #[48, 49, 50, 51, 52, 53, 54, 55, 56, 57, 97, 98, 99, 100, 101, 102] } : ByteArray)[x.val]'(by have := x.isLt; show x.val < 16; omega) = hexd x.val := by decide
theorem strOf_hexd (a b : Nat) : ({ data := #[92, 117, 48, 48] } : ByteArray) ++ ⟨#[hexd a, hexd b]⟩ = ⟨([92, 117, 48, 48, hexd a, hexd b] : List UInt8).toArray⟩ := by
  apply ByteArray.ext
  simp
theorem index_no (c : UInt8) (h : ¬ (c.toNat = 34 ∨ c.toNat = 92 ∨ c.toNat = 8 ∨ c.toNat = 9 ∨ c.toNat = 10 ∨ c.toNat = 12 ∨ c.toNat = 13)) : Lib.indexByte (⟨#[34, 92, 8, 12, 10, 13, 9]⟩ : ByteArray).data.toList c = -1 := by
  have key : ∀ k : UInt8, c.toNat ≠ k.toNat → (k == c) = false := by
    intro k hk; rw [beq_eq_false_iff_ne]; intro e; exact hk (by rw [e])
  simp only [Lib.indexByte, key 34 (by intro e; simp at e; omega), key 92 (by intro e; simp at e; omega), key 8 (by intro e; simp at e; omega), key 12 (by intro e; simp at e; omega), key 10 (by intro e; simp at e; omega), key 13 (by intro e; simp at e; omega), key 9 (by intro e; simp at e; omega)]
  rfl
set_option maxHeartbeats 1000000 in
set_option maxRecDepth 100000 in
theorem escape_any (c : UInt8) (w : World) (hp : plainB c = false) :
    Calls Tryd.prog 54 #[.int .u8 ((c.toNat : Nat) : Int)] w (EscPost c w) := by
  have KI := Lib.hid (Tryd.strings_IndexByte ⟨#[34, 92, 8, 12, 10, 13, 9]⟩ ((c.toNat : Nat) : Int) w)
  have hc := plainB_not hp
  have e : (((c.toNat : Nat) : Int)).toNat.toUInt8 = c := by simp
  rw [e] at KI
  clear e hp
  unfold EscPost
  by_cases h1 : c.toNat = 34 ∨ c.toNat = 92 ∨ c.toNat = 8 ∨ c.toNat = 9 ∨ c.toNat = 10 ∨ c.toNat = 12 ∨ c.toNat = 13
  · have hofn : ∀ k : Nat, c.toNat = k → c = UInt8.ofNat k := by intro k hk; subst hk; simp
    rcases h1 with h1 | h1 | h1 | h1 | h1 | h1 | h1
    all_goals
      have h2 := hofn _ h1
      clear h1 hofn hc
      subst h2
      go_enter Tryd.func54, Tryd.ntmps54
      go_wp2_with fail
      refine KI.out.mono ?_
      rintro r w1 ⟨rfl, rfl⟩
      dsimp only [Lib.indexByte]
      go_wp2
      go_ret
      exact ⟨rfl, Below.refl _ _⟩
  · have hlt : c.toNat < 32 := by omega
    have hi : Lib.indexByte (⟨#[34, 92, 8, 12, 10, 13, 9]⟩ : ByteArray).data.toList c = -1 := index_no c h1
    have hE : escB c = [92, 117, 48, 48, hexd (c.toNat / 16), hexd (c.toNat % 16)] := by
      unfold escB; simp only [show ¬ c.toNat = 34 by omega, show ¬ c.toNat = 92 by omega, show ¬ c.toNat = 8 by omega, show ¬ c.toNat = 9 by omega, show ¬ c.toNat = 10 by omega, show ¬ c.toNat = 12 by omega, show ¬ c.toNat = 13 by omega, if_false]
    rw [hi] at KI
    have HE := Lib.hid hE
    clear hi hE h1 hc
    generalize c.toNat = n at *
    obtain ⟨a, ha⟩ : ∃ a : Nat, n / 16 = a := ⟨_, rfl⟩
    obtain ⟨b, hb⟩ : ∃ b : Nat, n % 16 = b := ⟨_, rfl⟩
    have qa : (n : Int) / 16 = (a : Int) := by omega
    have qb : (n : Int) % 16 = (b : Int) := by omega
    have la : a < 16 := by omega
    have lb : b < 16 := by omega
    rw [ha, hb] at HE
    have hda := dig_hexd ⟨a, la⟩
    have hdb := dig_hexd ⟨b, lb⟩
    simp only at hda hdb
    have hcv := fun W => conv2e W (hexd a) (hexd b)
    have la2 : (a : Int) < 16 := by omega
    have lb2 : (b : Int) < 16 := by omega
    have HS := Lib.hid (strOf_hexd a b)
    clear ha hb hlt
    go_enter Tryd.func54, Tryd.ntmps54
    go_wp2_with fail
    refine KI.out.mono ?_
    rintro r w1 ⟨rfl, rfl⟩
    clear KI
    go_wp2
    go_region
    clear hda hdb hcv
    go_wp2
    go_ret
    exact ⟨by rw [HE.out, HS.out]; rfl, ((Below.refl _ _).alloc (Nat.le_refl _) _).drew⟩
end Go.Proofs.YtnoclbeamcmhhaaDoor
