/- Texts of the claim. -/
import Derived.Test.YtgolidabjcmofaaGreatDoorQg
import Derived.Test.YtgolidabjcmofaaGreatDoorRows
import Derived.Below
import Derived.WalkKit
import Derived.WalkSpells
import Derived.WalkLawsBesides
import Derived.Laws.BytesArg
namespace Go.Proofs.YtgolidabjcmofaaGreatDoor
open Go.RowKit Go.Shelf
set_option linter.unusedVariables false
set_option linter.unusedSimpArgs false
theorem lm0 : (0 : Nat) ≤ 1000000000000000 := Nat.zero_le _
theorem li0 : -9223372036854775808 ≤ (0 : Int) ∧ (0 : Int) ≤ 9223372036854775807 := by decide
theorem li3 : -9223372036854775808 ≤ (3 : Int) ∧ (3 : Int) ≤ 9223372036854775807 := by decide
theorem li6 : -9223372036854775808 ≤ (6 : Int) ∧ (6 : Int) ≤ 9223372036854775807 := by decide
def leafC (k : Int) (b : Bool) (s : ByteArray) : Cel := ⟨k, b, false, none, 0, 0, 0, s, none, 0, 0, none, 0, 0⟩
def leafT (k : Int) (b : Bool) (s : ByteArray) : MT := .mk (leafC k b s) [] [] []
theorem leafT_rep (w : World) (k : Int) (b : Bool) (s : ByteArray) (hk : -9223372036854775808 ≤ k ∧ k ≤ 9223372036854775807) (hs : s.size ≤ maxLen) : Rep w (leafT k b s) :=
  Rep.mk ⟨rfl, Nat.le_refl _, Okl.nil, Rd.nil _ _, rfl, Nat.le_refl _, RdV.nil _ _, rfl, Nat.le_refl _, RdV.nil _ _, ⟨lm0, lm0, lm0⟩, hs, nofun, li0, hk⟩ nofun
def arrC (va : Option Addr) (n cap : Nat) : Cel := ⟨6, false, false, none, 0, 0, 0, ⟨#[]⟩, none, 0, 0, va, n, cap⟩
def arrT (va : Option Addr) (n cap : Nat) (l : List MT) : MT := .mk (arrC va n cap) [] [] l
theorem arrT_rep {w : World} {va : Option Addr} {n cap : Nat} {l : List MT} (hl : l.length = n) (hc : n ≤ cap) (hm : n ≤ 1000000000000000) (hr : RdV w va (flat (l.map MT.c))) (hp : ∀ t ∈ l, Rep w t) : Rep w (arrT va n cap l) :=
  Rep.mk ⟨rfl, Nat.le_refl _, Okl.nil, Rd.nil _ _, rfl, Nat.le_refl _, RdV.nil _ _, hl, hc, hr, ⟨lm0, lm0, hm⟩, Nat.zero_le _, nofun, li0, li6⟩ hp
def objC7 (ka : Option Addr) (kn kc : Nat) (va : Option Addr) (n cap : Nat) : Cel := ⟨7, false, false, none, 0, 0, 0, ⟨#[]⟩, ka, kn, kc, va, n, cap⟩
def objT (ka : Option Addr) (kn kc : Nat) (va : Option Addr) (n cap : Nat) (ks : List ByteArray) (l : List MT) : MT := .mk (objC7 ka kn kc va n cap) [] ks l
def numC (neg : Bool) (ma : Option Addr) (mn mc : Nat) (e : Int) : Cel := ⟨3, false, neg, ma, mn, mc, e, ⟨#[]⟩, none, 0, 0, none, 0, 0⟩
def numT (neg : Bool) (ma : Option Addr) (mn mc : Nat) (e : Int) (m : List Nat) : MT := .mk (numC neg ma mn mc e) m [] []
theorem numT_rep {w : World} {neg : Bool} {ma : Option Addr} {mn mc : Nat} {e : Int} {m : List Nat} (hl : m.length = mn) (hc : mn ≤ mc) (hm : mn ≤ 1000000000000000) (ho : Okl m) (hr : Rd w ma m) (he : -9223372036854775808 ≤ e ∧ e ≤ 9223372036854775807) : Rep w (numT neg ma mn mc e m) :=
  Rep.mk ⟨hl, hc, ho, hr, rfl, Nat.le_refl _, RdV.nil _ _, rfl, Nat.le_refl _, RdV.nil _ _, ⟨hm, lm0, lm0⟩, Nat.zero_le _, nofun, he, li3⟩ nofun
theorem rdv_new (w : World) (vs : List Value) (e : TypeId) : RdV (w.alloc (.cells vs.toArray e)) (some ⟨w.heap.size, 0, none⟩) vs :=
  BlkV.all (e := e) (by unfold BlkV; exact heap_alloc_new w _)
end Go.Proofs.YtgolidabjcmofaaGreatDoor
namespace Go.Proofs.YtgolidabjcmofaaGreatDoor
open Go.RowKit
set_option linter.unusedVariables false
set_option linter.unusedSimpArgs false
theorem place_any (v n : Int) (w : World) (hv : -9223372036854775808 ≤ v ∧ v ≤ 9223372036854775807) (hn : 0 < n ∧ n ≤ 100000000) :
    Calls Tryz.prog 20 #[.int .i64 v, .int .i64 n] w fun e w' => e = .returned (.int .i64 (v % n)) ∧ w' = w := by
  have h1 := Int.emod_nonneg v (show n ≠ 0 by omega)
  have h2 := Int.emod_lt_of_pos v hn.1
  have ht : v.tmod n = if 0 ≤ v ∨ v % n = 0 then v % n else v % n - n := by
    rw [Int.tmod_eq_emod]
    by_cases h0 : 0 ≤ v ∨ n ∣ v
    · rw [if_pos h0, if_pos (h0.imp id Int.emod_eq_zero_of_dvd)]; omega
    · rw [if_neg h0, if_neg (fun h => h0 (h.imp id Int.dvd_of_emod_eq_zero))]; omega
  have hne : n ≠ 0 := by omega
  have hnb : (n == 0) = false := by rw [beq_eq_false_iff_ne]; exact hne
  generalize v % n = r at *
  by_cases hv0 : 0 ≤ v ∨ r = 0
  · rw [if_pos hv0] at ht
    have hlt : ¬ (r < 0) := by omega
    clear hv0
    go_enter Tryz.func20, Tryz.ntmps20
    go_wp2_with fail
    go_ret
    exact ⟨rfl, rfl⟩
  · rw [if_neg hv0] at ht
    clear hv0
    go_enter Tryz.func20, Tryz.ntmps20
    go_wp2_with fail
    go_ret
    exact ⟨rfl, rfl⟩
end Go.Proofs.YtgolidabjcmofaaGreatDoor
namespace Go.Proofs.YtgolidabjcmofaaGreatDoor
open Go.RowKit Go.Shelf
set_option linter.unusedVariables false
set_option linter.unusedSimpArgs false
def Tw : List Nat → MT
  | [] => leafT 1 false ⟨#[]⟩
  | b :: bs => arrT (some ⟨b, 0, none⟩) 1 1 [Tw bs]
end Go.Proofs.YtgolidabjcmofaaGreatDoor
