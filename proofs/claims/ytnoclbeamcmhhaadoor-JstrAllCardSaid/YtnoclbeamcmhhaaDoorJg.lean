/- The walk of the law JstrRunes: its hex. -/
import Derived.Test.YtnoclbeamcmhhaaDoorJf
namespace Go.Proofs.YtnoclbeamcmhhaaDoor
open Go.RowKit Go.Shelf Go.Lib
set_option linter.unusedVariables false
set_option linter.unusedSimpArgs false

theorem ext_low (k : Nat) (h : k < 16) : ({ data := #[48, 49, 50, 51, 52, 53, 54, 55, 56, 57, 97, 98, 99, 100, 101, 102] } : ByteArray).extract k (k + 1) = ⟨#[dg false k]⟩ := by
  have key : ∀ x : Fin 16, ({ data := #[48, 49, 50, 51, 52, 53, 54, 55, 56, 57, 97, 98, 99, 100, 101, 102] } : ByteArray).extract x.val (x.val + 1) = ⟨#[dg false x.val]⟩ := by decide
  exact key ⟨k, h⟩
theorem ext_high (k : Nat) (h : k < 16) : ({ data := #[48, 49, 50, 51, 52, 53, 54, 55, 56, 57, 65, 66, 67, 68, 69, 70] } : ByteArray).extract k (k + 1) = ⟨#[dg true k]⟩ := by
  have key : ∀ x : Fin 16, ({ data := #[48, 49, 50, 51, 52, 53, 54, 55, 56, 57, 65, 66, 67, 68, 69, 70] } : ByteArray).extract x.val (x.val + 1) = ⟨#[dg true x.val]⟩ := by decide
  exact key ⟨k, h⟩
theorem and15i (x : Int) (h₀ : 0 ≤ x) (h₁ : x < 2147483648) : bits .and .i32 x 15 = x % 16 := bits_mask .i32 31 (by decide) wraps_i32 4 (by decide) x h₀ h₁
/-- So many digits are made. -/
def HX (g : Bool) (c : Nat) (k : Nat) (s i : Value) (w wr : World) : Prop :=
  wr = w ∧ ((k = 4 ∧ i = .int .i64 12 ∧ s = .string ⟨#[92, 117]⟩) ∨ (k = 3 ∧ i = .int .i64 8 ∧ s = .string ⟨#[92, 117, dg g (c / 4096 % 16)]⟩) ∨
   (k = 2 ∧ i = .int .i64 4 ∧ s = .string ⟨#[92, 117, dg g (c / 4096 % 16), dg g (c / 256 % 16)]⟩) ∨ (k = 1 ∧ i = .int .i64 0 ∧ s = .string ⟨#[92, 117, dg g (c / 4096 % 16), dg g (c / 256 % 16), dg g (c / 16 % 16)]⟩) ∨
   (k = 0 ∧ i = .int .i64 (-4) ∧ s = .string ⟨#[92, 117, dg g (c / 4096 % 16), dg g (c / 256 % 16), dg g (c / 16 % 16), dg g (c % 16)]⟩))
set_option maxHeartbeats 2000000 in
set_option maxRecDepth 100000 in
theorem hex_false (c : Nat) (w : World) (hc : c ≤ 1114111) :
    Calls Tryd.prog 29 #[.int .i32 (c : Int), .bool false] w fun e w' => e = .returned (.string ⟨(hexL false c).toArray⟩) ∧ w = w' := by
  go_enter Tryd.func29, Tryd.ntmps29
  go_wp2
  go_loopg [6, 7] 4 (fun k s i wr => HX false c k s i w wr)
  case atStart => exact ⟨rfl, .inl ⟨rfl, rfl, rfl⟩⟩
  case round =>
    obtain ⟨rfl, h | h | h | h | h⟩ := hrel
    · obtain ⟨rfl, rfl, rfl⟩ := h
      have hlt : c / 4096 % 16 < 16 := Nat.mod_lt _ (by decide)
      have hx := ext_low _ hlt
      have hb := and15i ((c : Int) / 4096) (by omega) (by omega)
      have hq : ((c : Int) / 4096) % 16 = ((c / 4096 % 16 : Nat) : Int) := by omega
      rw [hq] at hb
      generalize hX : c / 4096 % 16 = x at *
      have HX2 := Lib.hid hX
      clear hq hX
      go_wp2
      go_roundg 3
      case rel => exact ⟨rfl, .inr (.inl ⟨rfl, rfl, by rw [HX2.out]; exact congrArg Value.string (by apply ByteArray.ext; simp)⟩)⟩
      case measure => omega
    · obtain ⟨rfl, rfl, rfl⟩ := h
      have hlt : c / 256 % 16 < 16 := Nat.mod_lt _ (by decide)
      have hx := ext_low _ hlt
      have hb := and15i ((c : Int) / 256) (by omega) (by omega)
      have hq : ((c : Int) / 256) % 16 = ((c / 256 % 16 : Nat) : Int) := by omega
      rw [hq] at hb
      generalize hX : c / 256 % 16 = x at *
      have HX2 := Lib.hid hX
      clear hq hX
      go_wp2
      go_roundg 2
      case rel => exact ⟨rfl, .inr (.inr (.inl ⟨rfl, rfl, by rw [HX2.out]; exact congrArg Value.string (by apply ByteArray.ext; simp)⟩))⟩
      case measure => omega
    · obtain ⟨rfl, rfl, rfl⟩ := h
      have hlt : c / 16 % 16 < 16 := Nat.mod_lt _ (by decide)
      have hx := ext_low _ hlt
      have hb := and15i ((c : Int) / 16) (by omega) (by omega)
      have hq : ((c : Int) / 16) % 16 = ((c / 16 % 16 : Nat) : Int) := by omega
      rw [hq] at hb
      generalize hX : c / 16 % 16 = x at *
      have HX2 := Lib.hid hX
      clear hq hX
      go_wp2
      go_roundg 1
      case rel => exact ⟨rfl, .inr (.inr (.inr (.inl ⟨rfl, rfl, by rw [HX2.out]; exact congrArg Value.string (by apply ByteArray.ext; simp)⟩)))⟩
      case measure => omega
    · obtain ⟨rfl, rfl, rfl⟩ := h
      have hlt : c % 16 < 16 := Nat.mod_lt _ (by decide)
      have hx := ext_low _ hlt
      have hb := and15i (c : Int) (by omega) (by omega)
      have hq : (c : Int) % 16 = ((c % 16 : Nat) : Int) := by omega
      rw [hq] at hb
      generalize hX : c % 16 = x at *
      have HX2 := Lib.hid hX
      clear hq hX
      go_wp2
      go_roundg 0
      case rel => exact ⟨rfl, .inr (.inr (.inr (.inr ⟨rfl, rfl, by rw [HX2.out]; exact congrArg Value.string (by apply ByteArray.ext; simp)⟩)))⟩
      case measure => omega
    · obtain ⟨rfl, rfl, rfl⟩ := h
      go_wp2
      go_ret
      exact ⟨rfl, rfl⟩
set_option maxHeartbeats 2000000 in
set_option maxRecDepth 100000 in
theorem hex_true (c : Nat) (w : World) (hc : c ≤ 1114111) :
    Calls Tryd.prog 29 #[.int .i32 (c : Int), .bool true] w fun e w' => e = .returned (.string ⟨(hexL true c).toArray⟩) ∧ w = w' := by
  go_enter Tryd.func29, Tryd.ntmps29
  go_wp2
  go_loopg [6, 7] 4 (fun k s i wr => HX true c k s i w wr)
  case atStart => exact ⟨rfl, .inl ⟨rfl, rfl, rfl⟩⟩
  case round =>
    obtain ⟨rfl, h | h | h | h | h⟩ := hrel
    · obtain ⟨rfl, rfl, rfl⟩ := h
      have hlt : c / 4096 % 16 < 16 := Nat.mod_lt _ (by decide)
      have hx := ext_high _ hlt
      have hb := and15i ((c : Int) / 4096) (by omega) (by omega)
      have hq : ((c : Int) / 4096) % 16 = ((c / 4096 % 16 : Nat) : Int) := by omega
      rw [hq] at hb
      generalize hX : c / 4096 % 16 = x at *
      have HX2 := Lib.hid hX
      clear hq hX
      go_wp2
      go_roundg 3
      case rel => exact ⟨rfl, .inr (.inl ⟨rfl, rfl, by rw [HX2.out]; exact congrArg Value.string (by apply ByteArray.ext; simp)⟩)⟩
      case measure => omega
    · obtain ⟨rfl, rfl, rfl⟩ := h
      have hlt : c / 256 % 16 < 16 := Nat.mod_lt _ (by decide)
      have hx := ext_high _ hlt
      have hb := and15i ((c : Int) / 256) (by omega) (by omega)
      have hq : ((c : Int) / 256) % 16 = ((c / 256 % 16 : Nat) : Int) := by omega
      rw [hq] at hb
      generalize hX : c / 256 % 16 = x at *
      have HX2 := Lib.hid hX
      clear hq hX
      go_wp2
      go_roundg 2
      case rel => exact ⟨rfl, .inr (.inr (.inl ⟨rfl, rfl, by rw [HX2.out]; exact congrArg Value.string (by apply ByteArray.ext; simp)⟩))⟩
      case measure => omega
    · obtain ⟨rfl, rfl, rfl⟩ := h
      have hlt : c / 16 % 16 < 16 := Nat.mod_lt _ (by decide)
      have hx := ext_high _ hlt
      have hb := and15i ((c : Int) / 16) (by omega) (by omega)
      have hq : ((c : Int) / 16) % 16 = ((c / 16 % 16 : Nat) : Int) := by omega
      rw [hq] at hb
      generalize hX : c / 16 % 16 = x at *
      have HX2 := Lib.hid hX
      clear hq hX
      go_wp2
      go_roundg 1
      case rel => exact ⟨rfl, .inr (.inr (.inr (.inl ⟨rfl, rfl, by rw [HX2.out]; exact congrArg Value.string (by apply ByteArray.ext; simp)⟩)))⟩
      case measure => omega
    · obtain ⟨rfl, rfl, rfl⟩ := h
      have hlt : c % 16 < 16 := Nat.mod_lt _ (by decide)
      have hx := ext_high _ hlt
      have hb := and15i (c : Int) (by omega) (by omega)
      have hq : (c : Int) % 16 = ((c % 16 : Nat) : Int) := by omega
      rw [hq] at hb
      generalize hX : c % 16 = x at *
      have HX2 := Lib.hid hX
      clear hq hX
      go_wp2
      go_roundg 0
      case rel => exact ⟨rfl, .inr (.inr (.inr (.inr ⟨rfl, rfl, by rw [HX2.out]; exact congrArg Value.string (by apply ByteArray.ext; simp)⟩)))⟩
      case measure => omega
    · obtain ⟨rfl, rfl, rfl⟩ := h
      go_wp2
      go_ret
      exact ⟨rfl, rfl⟩
end Go.Proofs.YtnoclbeamcmhhaaDoor
