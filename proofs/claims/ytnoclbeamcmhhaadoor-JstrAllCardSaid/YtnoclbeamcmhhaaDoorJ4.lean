/- The walks of package jstr: plainBytes, escape, Quote. -/
import Derived.Test.YtnoclbeamcmhhaaDoorJ2
import Derived.Test.YtnoclbeamcmhhaaDoorJ3
import Derived.Test.YtnoclbeamcmhhaaDoorU5
import Derived.RegionTactic
namespace Go.Proofs.YtnoclbeamcmhhaaDoor
open Go.RowKit Go.Shelf
set_option linter.unusedVariables false
set_option linter.unusedSimpArgs false

theorem at_get (s : ByteArray) (k : Nat) (h : k < s.size) : s.data.toList.getD k 0 = s[k]'h := by
  rw [← get!_list]; exact Utf8W.get!_of_lt s k h

set_option maxHeartbeats 1000000 in
theorem plainBytes_any (s : ByteArray) (w : World) (hs : s.size ≤ maxLen) :
    Calls Tryd.prog 52 #[.string s] w fun e w' => e = .returned (.int .i64 ((plainN s.data.toList : Nat) : Int)) ∧ w = w' := by
  unfold maxLen at hs
  have hle := plainN_le s.data.toList
  have hsz : s.data.toList.length = s.size := by simp
  rw [hsz] at hle
  have HLT := Lib.hid (fun k (h : k < plainN s.data.toList) => plainB_iff.1 (plainN_lt h))
  have HST := Lib.hid (fun (h : plainN s.data.toList < s.size) => plainB_not (plainN_stop (l := s.data.toList) (by rw [hsz]; exact h)))
  clear hsz
  generalize hN : plainN s.data.toList = N at *
  clear hN
  go_enter Tryd.func52, Tryd.ntmps52
  go_wp2
  go_loop [3] (fun i => ∃ k : Nat, k ≤ N ∧ i = .int .i64 (k : Int)) (fun i => s.size - (intOf i).toNat)
  case atStart => exact ⟨0, Nat.zero_le _, rfl⟩
  case round =>
    obtain ⟨k, hk, rfl⟩ := hrel
    by_cases hlt : k < N
    · have h1 := HLT.out k hlt
      rw [at_get s k (by omega)] at h1
      have hks : k < s.size := by omega
      have hkz : (k : Int) < (s.size : Int) := by omega
      generalize hx : s[k] = x at *
      have c1 : decide ((32 : Int) ≤ (x.toNat : Int)) = true := decide_eq_true (by omega)
      have c2 : ((x.toNat : Int) != 34) = true := by rw [bne_iff_ne]; omega
      have c3 : ((x.toNat : Int) != 92) = true := by rw [bne_iff_ne]; omega
      have c4 : ((x.toNat : Int) == 34) = false := by rw [beq_eq_false_iff_ne]; omega
      have c5 : ((x.toNat : Int) == 92) = false := by rw [beq_eq_false_iff_ne]; omega
      clear h1
      go_wp2
      go_round
      case rel => exact ⟨k + 1, by omega, by go_num⟩
      case measure => simp [intOf]; omega
    · obtain rfl : k = N := by omega
      by_cases hks : k < s.size
      · have h1 := HST.out hks
        rw [at_get s k hks] at h1
        have hkz : (k : Int) < (s.size : Int) := by omega
        generalize hx : s[k] = x at *
        by_cases d1 : x.toNat < 32
        · have c1 : decide ((32 : Int) ≤ (x.toNat : Int)) = false := decide_eq_false (by omega)
          clear h1 d1
          go_wp2
          go_ret
          exact ⟨rfl, rfl⟩
        · have c1 : decide ((32 : Int) ≤ (x.toNat : Int)) = true := decide_eq_true (by omega)
          rcases h1 with h1 | h1 | h1
          · omega
          · have c2 : ((x.toNat : Int) != 34) = false := by rw [bne_eq_false_iff_eq]; omega
            have c4 : ((x.toNat : Int) == 34) = true := by rw [beq_iff_eq]; omega
            clear h1 d1
            go_wp2
            go_ret
            exact ⟨rfl, rfl⟩
          · have c2 : ((x.toNat : Int) != 34) = true := by rw [bne_iff_ne]; omega
            have c3 : ((x.toNat : Int) != 92) = false := by rw [bne_eq_false_iff_eq]; omega
            have c4 : ((x.toNat : Int) == 34) = false := by rw [beq_eq_false_iff_ne]; omega
            have c5 : ((x.toNat : Int) == 92) = true := by rw [beq_iff_eq]; omega
            clear h1 d1
            go_wp2
            go_ret
            exact ⟨rfl, rfl⟩
      · have hkz : ¬ (k : Int) < (s.size : Int) := by omega
        go_wp2
        go_ret
        exact ⟨rfl, rfl⟩
end Go.Proofs.YtnoclbeamcmhhaaDoor
