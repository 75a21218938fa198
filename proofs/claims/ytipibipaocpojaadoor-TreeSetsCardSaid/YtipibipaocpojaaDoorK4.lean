/- The walks of tree's blank, namesRise. -/
import Derived.Test.YtipibipaocpojaaDoorK3
namespace Go.Proofs.YtipibipaocpojaaDoor
open Go.RowKit Go.Shelf
set_option linter.unusedVariables false
set_option linter.unusedSimpArgs false

/-- Whether no field holds anything but the kind. -/
def blankB (c : Cel) : Bool := !c.b && (!c.neg && (decide (c.mn = 0) && (decide (c.e = 0) && (decide (c.s.size = 0) && (decide (c.kn = 0) && decide (c.vn = 0))))))
theorem nat_beq0 {n : Nat} (h : n = 0) : ((n : Int) == 0) = true := by subst h; rfl
theorem nat_bne0 {n : Nat} (h : ¬ n = 0) : ((n : Int) == 0) = false := by rw [beq_eq_false_iff_ne]; omega

set_option maxHeartbeats 2000000 in
theorem blank_any (c : Cel) (w : World) (hs : c.s.size ≤ maxLen) :
    Calls Tryd.prog 38 #[c.val] w (BoolBelow (blankB c) w) := by
  unfold maxLen at hs
  obtain ⟨k, b, neg, ma, mn, mc, e, s, ka, kn, kc, va, vn, vc⟩ := c
  unfold blankB Cel.val
  simp only at hs ⊢
  have HB := Lib.hid (((Below.refl w.heap.size w).alloc (Nat.le_refl _) (.cells #[.int .i64 k, .bool b, .bool neg, .slice ma mn mc, .int .i64 e, .string s, .slice ka kn kc, .slice va vn vc] 28)).alloc (by simp) (.cells #[.bool neg, .slice ma mn mc, .int .i64 e] 24))
  cases b
  · cases neg
    · by_cases h1 : mn = 0
      · have d1 := nat_beq0 h1
        have D1 := Lib.hid (decide_eq_true h1)
        by_cases h2 : e = 0
        · have d2 : (e == 0) = true := by rw [h2]; rfl
          have D2 := Lib.hid (decide_eq_true h2)
          by_cases h3 : s.size = 0
          · have e3 : s = ⟨#[]⟩ := by apply ByteArray.ext; apply Array.eq_empty_of_size_eq_zero; exact h3
            have D3 := Lib.hid (decide_eq_true h3)
            by_cases h4 : kn = 0
            · have d4 := nat_beq0 h4
              have D4 := Lib.hid (decide_eq_true h4)
              by_cases h5 : vn = 0
              · have d5 := nat_beq0 h5
                have D5 := Lib.hid (decide_eq_true h5)
                rw [D1.out, D2.out, D3.out, D4.out, D5.out]
                subst e3 h1 h2 h4 h5
                clear h3 d1 d2 d4 d5 hs
                go_enter Tryd.func38, Tryd.ntmps38
                go_wp2
                go_ret
                exact BoolBelow.mk rfl HB.out
              · have d5 := nat_bne0 h5
                have D5 := Lib.hid (decide_eq_false h5)
                rw [D1.out, D2.out, D3.out, D4.out, D5.out]
                subst e3 h1 h2 h4
                clear h3 d1 d2 d4 hs h5
                go_enter Tryd.func38, Tryd.ntmps38
                go_wp2
                go_ret
                exact BoolBelow.mk rfl HB.out
            · have d4 := nat_bne0 h4
              have D4 := Lib.hid (decide_eq_false h4)
              rw [D1.out, D2.out, D3.out, D4.out]
              subst e3 h1 h2
              clear h3 d1 d2 hs h4
              go_enter Tryd.func38, Tryd.ntmps38
              go_wp2
              go_ret
              exact BoolBelow.mk rfl HB.out
          · have D3 := Lib.hid (decide_eq_false h3)
            have d3 : s.toList.isEmpty = false := by
              rw [Lib.toList_data]
              cases h : s.data.toList with
              | nil => exact absurd (by have := congrArg List.length h; simpa using this) h3
              | cons _ _ => rfl
            rw [D1.out, D2.out, D3.out]
            subst h1 h2
            clear d1 d2 h3
            go_enter Tryd.func38, Tryd.ntmps38
            go_wp2
            go_ret
            exact BoolBelow.mk rfl HB.out
        · have d2 : (e == 0) = false := by rw [beq_eq_false_iff_ne]; exact h2
          have D2 := Lib.hid (decide_eq_false h2)
          rw [D1.out, D2.out]
          subst h1
          clear d1 h2
          go_enter Tryd.func38, Tryd.ntmps38
          go_wp2
          go_ret
          exact BoolBelow.mk rfl HB.out
      · have d1 := nat_bne0 h1
        have D1 := Lib.hid (decide_eq_false h1)
        rw [D1.out]
        clear h1
        go_enter Tryd.func38, Tryd.ntmps38
        go_wp2
        go_ret
        exact BoolBelow.mk rfl HB.out
    · go_enter Tryd.func38, Tryd.ntmps38
      go_wp2
      go_ret
      exact BoolBelow.mk rfl HB.out
  · go_enter Tryd.func38, Tryd.ntmps38
    go_wp2
    go_ret
    exact BoolBelow.mk rfl HB.out
end Go.Proofs.YtipibipaocpojaaDoor
