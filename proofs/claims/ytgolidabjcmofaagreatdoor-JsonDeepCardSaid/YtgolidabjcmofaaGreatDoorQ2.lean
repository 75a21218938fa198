/- Texts of the claim. -/
import Derived.Test.YtgolidabjcmofaaGreatDoorQh
import Derived.Test.YtgolidabjcmofaaGreatDoorQWe
import Derived.Test.YtgolidabjcmofaaGreatDoorQz
import Derived.Test.YtgolidabjcmofaaGreatDoorQc
namespace Go.Proofs.YtgolidabjcmofaaGreatDoor
open Go.Shelf Go.RowKit
set_option linter.unusedVariables false
set_option linter.unusedSimpArgs false
theorem own_belowF {w w' : World} {B : Nat} {e : TypeId} {size : Nat} {v : Value} {n : Nat} {xs : List Value} (h : w.ownsRowF B e size v n xs) (hb : Below w.heap.size w w') : w'.ownsRowF B e size v n xs := by
  refine ⟨h.1, ?_⟩
  rcases h.2 with h2 | ⟨g, cap, cur, fz, rfl, hB, hg, rest⟩
  · exact .inl h2
  · exact .inr ⟨g, cap, cur, fz, rfl, hB, by rw [hb.block g (Array.getElem?_eq_some_iff.1 hg).1]; exact hg, rest⟩
theorem WrJ.on {B b : Nat} {l : List UInt8} {w w' : World} (h : WrJ B b l w) (hb : Below w.heap.size w w') : WrJ B b l w' := by
  unfold WrJ Lib.IsBuilderF at *
  refine h.imp ?_ ?_
  all_goals
    rintro ⟨h1, v, h2, h3, h4⟩
    exact ⟨h1, v, by rw [hb.block b (Array.getElem?_eq_some_iff.1 h2).1]; exact h2, own_belowF h3 hb, h4⟩
structure FrW (B b : Nat) (w w' : World) : Prop where
  bel : Below B w w'
  kep : KepW b w w'
theorem FrW.refl (B b : Nat) (w : World) : FrW B b w w := ⟨Below.refl _ _, Lib.OthersKept.refl _ _ _⟩
theorem FrW.trans {B b : Nat} {w1 w2 w3 : World} (h : FrW B b w1 w2) (k : FrW B b w2 w3) : FrW B b w1 w3 := ⟨h.bel.trans k.bel, h.kep.trans k.kep⟩
theorem FrW.of_below {B b : Nat} {w w' : World} (hB : B ≤ w.heap.size) (h : Below w.heap.size w w') : FrW B b w w' :=
  ⟨h.mono hB, fun k o hk _ _ => by rw [h.block k (Array.getElem?_eq_some_iff.1 hk).1]; exact hk⟩
theorem FrW.size {B b : Nat} {w w' : World} (h : FrW B b w w') : w.heap.size ≤ w'.heap.size := h.bel.size
theorem tree_ne_u8 : (28 : TypeId) ≠ 5 := by decide
theorem FrW.box {B b : Nat} {w w' : World} (h : FrW B b w w') {k : Nat} {cs : Array Value} (hk : w.heap[k]? = some (.cells cs 28)) (hne : k ≠ b) : w'.heap[k]? = some (.cells cs 28) :=
  h.kep k _ hk (fun e => hne (Option.some.inj e)) (fun c fz e => by injection e with _ e2; exact tree_ne_u8 e2)
def EncW (B b : Nat) (l p : List UInt8) (w : World) (e : Ending) (w' : World) : Prop :=
  (l.length + p.length ≤ 32768 ∧ e = .returned (.tuple #[]) ∧ WrJ B b (l ++ p) w' ∧ FrW B b w w') ∨
  (32768 < l.length + p.length ∧ e = .panicked [{ v := .iface 31 (.int .i64 4), recovered := false }] ∧ Below B w w')
theorem EncW.pre {B b : Nat} {l p : List UInt8} {w w1 w' : World} {e : Ending} (hf : FrW B b w w1) (h : EncW B b l p w1 e w') : EncW B b l p w e w' :=
  h.imp (fun ⟨h1, h2, h3, h4⟩ => ⟨h1, h2, h3, hf.trans h4⟩) (fun ⟨h1, h2, h3⟩ => ⟨h1, h2, hf.bel.trans h3⟩)
set_option maxHeartbeats 2000000 in
theorem putw_any (B b : Nat) (l : List UInt8) (s : ByteArray) (w : World) (h : WrJ B b l w) (hl : l.length ≤ 32768) (hs : s.size ≤ 1000000) (hB : B ≤ w.heap.size) :
    Calls Tryz.prog 59 #[.pointer (some ⟨b, 0, none⟩), .string s] w (EncW B b l s.data.toList w) := by
  have KL := Lib.hid (lenW B b _ w h)
  rw [Lib.byteCells_length] at KL
  have hsz : s.data.toList.length = s.size := by rw [Array.length_toList]; rfl
  by_cases hc : l.length + s.size ≤ 32768
  · have KW := Lib.hid (writeStringW B b _ s w h (by rw [Lib.byteCells_length]; omega) hB)
    have hgt : decide ((32768 : Int) < (l.length : Int) + (s.size : Int)) = false := decide_eq_false (by omega)
    have HOK := Lib.hid (fun W (h1 : Lib.BuilderAtF 64 5 B b (.pointer (some ⟨b, 0, none⟩)) (Lib.byteCells l ++ Lib.strCells s) W) (h2 : Below B w W) (h3 : KepW b w W) => (show EncW B b l s.data.toList w (.returned (.tuple #[])) W from
      .inl ⟨by rw [hsz]; exact hc, rfl, .inr (by rw [Lib.strCells_eq] at h1; rw [Lib.byteCells_append]; exact h1), h2, h3⟩))
    clear h hc hsz
    go_enter Tryz.func59, Tryz.ntmps59
    go_wp2_with fail
    refine KL.out.mono ?_
    rintro r w1 ⟨rfl, rfl⟩
    go_wp2_with fail
    refine KW.out.mono ?_
    rintro r w1 ⟨rfl, h1, h2, h3⟩
    have HZ := Lib.hid (HOK.out w1 h1 h2 h3)
    clear h1 h2 h3 KW
    go_wp2
    go_end0
    exact HZ.out
  · have hgt : decide ((32768 : Int) < (l.length : Int) + (s.size : Int)) = true := decide_eq_true (by omega)
    have HZ := Lib.hid (show EncW B b l s.data.toList w (.panicked [{ v := .iface 31 (.int .i64 4), recovered := false }]) w from .inr ⟨by rw [hsz]; omega, rfl, Below.refl _ _⟩)
    clear h hc hsz
    go_enter Tryz.func59, Tryz.ntmps59
    go_wp2_with fail
    refine KL.out.mono ?_
    rintro r w1 ⟨rfl, rfl⟩
    go_wp2
    exact ⟨rfl, HZ.out⟩
def cmaL (i : Nat) : List UInt8 := if 0 < i then [44] else []
set_option maxHeartbeats 2000000 in
theorem comma_any (B b i : Nat) (l : List UInt8) (w : World) (h : WrJ B b l w) (hl : l.length ≤ 32768) (hi : i ≤ 1000000) (hB : B ≤ w.heap.size) :
    Calls Tryz.prog 104 #[.pointer (some ⟨b, 0, none⟩), .int .i64 (i : Int)] w (EncW B b l (cmaL i) w) := by
  by_cases hc : 0 < i
  · have KP := Lib.hid (putw_any B b l ⟨#[44]⟩ w h hl (by decide) hB)
    have e : cmaL i = [44] := if_pos hc
    rw [e]
    have hgt : decide ((0 : Int) < (i : Int)) = true := decide_eq_true (by omega)
    clear h e
    go_enter Tryz.func104, Tryz.ntmps104
    go_wp2_with fail
    refine KP.out.mono ?_
    intro r w1 hp
    rcases hp with ⟨h1, rfl, h2⟩ | ⟨h1, rfl, h2⟩
    · have HZ := Lib.hid (show EncW B b l [44] w (.returned (.tuple #[])) w1 from .inl ⟨h1, rfl, h2⟩)
      clear h1 h2
      go_wp2
      go_end0
      exact HZ.out
    · have HZ := Lib.hid (show EncW B b l [44] w (.panicked [{ v := .iface 31 (.int .i64 4), recovered := false }]) w1 from .inr ⟨h1, rfl, h2⟩)
      clear h1 h2
      go_wp2
      exact ⟨rfl, HZ.out⟩
  · have e : cmaL i = [] := if_neg hc
    rw [e]
    have hgt : decide ((0 : Int) < (i : Int)) = false := decide_eq_false (by omega)
    have HZ := Lib.hid (show EncW B b l [] w (.returned (.tuple #[])) w from .inl ⟨by simpa using hl, rfl, by simpa using h, FrW.refl _ _ _⟩)
    clear h e
    go_enter Tryz.func104, Tryz.ntmps104
    go_wp2
    go_end0
    exact HZ.out
theorem fmtBool_any (x : Bool) (w : World) : Calls Tryz.prog 60 #[.bool x] w fun e w' => e = .returned (.string (if x then ⟨#[116, 114, 117, 101]⟩ else ⟨#[102, 97, 108, 115, 101]⟩)) ∧ w' = w := by
  have K : Calls Tryz.prog 96 #[.bool x] w fun e w' => e = .returned (.string (if x then ⟨#[116, 114, 117, 101]⟩ else ⟨#[102, 97, 108, 115, 101]⟩)) ∧ w' = w := by
    cases x
    · go_enter Tryz.func96, Tryz.ntmps96
      go_wp2
      go_ret
      exact ⟨rfl, rfl⟩
    · go_enter Tryz.func96, Tryz.ntmps96
      go_wp2
      go_ret
      exact ⟨rfl, rfl⟩
  have K := Lib.hid K
  generalize (if x then (⟨#[116, 114, 117, 101]⟩ : ByteArray) else ⟨#[102, 97, 108, 115, 101]⟩) = s at *
  go_enter Tryz.func60, Tryz.ntmps60
  go_wp2_with fail
  refine K.out.mono ?_
  rintro r w1 ⟨rfl, rfl⟩
  go_wp2
  go_ret
  exact ⟨rfl, rfl⟩
end Go.Proofs.YtgolidabjcmofaaGreatDoor
namespace Go.Proofs.YtgolidabjcmofaaGreatDoor
open Go.RowKit Go.Sort
set_option linter.unusedVariables false
set_option linter.unusedSimpArgs false
theorem numText_ok {w : World} {neg : Bool} {ad : Option Addr} {n cap : Nat} {xs : List Nat} {e : Int} (h : NumOk w neg ad n cap xs e) (ht : TB w) :
    Calls Tryz.prog 61 #[.agg #[.bool neg, .slice ad n cap, .int .i64 e]] w (TxtBelow (numTxt neg (val xs) e) w) :=
  numText_core _ neg ad n cap xs e w h ht neg _ e rfl (fun W hb => h.same W hb)
end Go.Proofs.YtgolidabjcmofaaGreatDoor
namespace Go.Proofs.YtgolidabjcmofaaGreatDoor
open Go.RowKit Go.Sort
set_option linter.unusedVariables false
set_option linter.unusedSimpArgs false
structure Bx (w : World) (g : Nat) (neg : Bool) (v : Value) (e : Int) : Prop where
  lt : g < w.heap.size
  c0 : w.cell? ⟨g, 0, none⟩ = some (.bool neg)
  c1 : w.cell? ⟨g, 1, none⟩ = some v
  c2 : w.cell? ⟨g, 2, none⟩ = some (.int .i64 e)
theorem Bx.step {w w' : World} {g : Nat} {neg : Bool} {v : Value} {e : Int} (h : Bx w g neg v e) (hb : Below w.heap.size w w') : Bx w' g neg v e :=
  ⟨Nat.lt_of_lt_of_le h.lt hb.size, (hb.cell (p := ⟨g, 0, none⟩) h.lt).trans h.c0, (hb.cell (p := ⟨g, 1, none⟩) h.lt).trans h.c1, (hb.cell (p := ⟨g, 2, none⟩) h.lt).trans h.c2⟩
theorem Ctx.on {w0 w w' : World} {l l' : List Ent} (hc : Ctx w w' l') (h : Ctx w0 w l) : Ctx w0 w' l' := ⟨below_on h.below hc.below, hc.all⟩
end Go.Proofs.YtgolidabjcmofaaGreatDoor
