/- The walk of the law NumTexts. -/
import Derived.Test.YtokppjfaihkkcaaDoorSp
import Derived.Test.YtokppjfaihkkcaaDoorC8
namespace Go.Proofs.YtokppjfaihkkcaaDoor
open Go.RowKit Go.Sort
set_option linter.unusedVariables false
set_option linter.unusedSimpArgs false

theorem txt_nums (s : ByteArray) : txt (nums s) = s := by
  apply ByteArray.ext
  unfold txt nums
  simp only [List.map_map]
  rw [show (UInt8.ofNat ∘ UInt8.toNat) = id from funext fun x => by simp]
  simp
theorem okb_nums (s : ByteArray) : Okb (nums s) := by
  intro x hx
  unfold nums at hx
  obtain ⟨y, _, rfl⟩ := List.mem_map.1 hx
  exact y.toNat_lt

set_option maxHeartbeats 16000000 in
set_option maxRecDepth 100000 in
theorem numTexts_walk (s : ByteArray) (w : World) (hs : s.size ≤ maxLen) (ht : TB w) :
    Calls Tryd.prog 3 #[.string s] w (BoolBelow true w) := by
  have HT := Lib.hid (fun W (h : Below w.heap.size w W) => ht.below h)
  have HW := Lib.hid (fun W (h : Below w.heap.size w W) => awake2_any W (ht.below h))
  by_cases h25 : 2500 < s.size
  · have h25' : (2500 : Int) < (s.size : Int) := by omega
    have KA := Lib.hid (HW.out w (Below.refl _ _))
    clear ht hs
    go_enter Tryd.func3, Tryd.ntmps3
    go_wp2_with fail
    refine KA.out.mono ?_
    rintro r w1 ⟨rfl, hb1⟩
    have hf := Lib.hid hb1; clear hb1
    go_wp2
    go_ret
    exact BoolBelow.mk rfl hf.out
  · have h25' : ¬ (2500 : Int) < (s.size : Int) := by omega
    have K1 := Lib.hid (show Calls Tryd.prog 8 #[.string s] w (ParsedPost w [] (parseN (nums s))) by have K := numParse_any (Ctx.begin w) (nums s) (okb_nums s); rwa [txt_nums] at K)
    have K2 := Lib.hid (fun W l0 (h : Ctx W W l0) => (show Calls Tryd.prog 9 #[.string s] W (ParsedPost W l0 (parseN (nums s))) by have K := refParse2_all h (nums s) (okb_nums s); rwa [txt_nums] at K))
    clear ht hs
    rcases hp : parseN (nums s) with ⟨neg, m, e⟩ | n
    · rw [hp] at K1 K2
      clear hp
      generalize hlm : limbs m = xs at *
      go_enter Tryd.func3, Tryd.ntmps3
      go_wp2_with fail
      refine K1.out.mono ?_
      rintro r w1 ⟨v1, rfl, hm1⟩
      rw [hlm] at hm1
      obtain ⟨ad1, cap1, rfl, a1, a2, a3, a4, _⟩ := hm1.get 0 rfl
      generalize hxl : xs.length = n at *
      have HXL := Lib.hid hxl
      have h1 := Lib.hid (hm1.step (below_box w1 #[.bool neg, .slice ad1 n cap1, .int .i64 e] 25))
      have B1 := Lib.hid (bx_new w1 neg (.slice ad1 n cap1) e)
      clear hm1 a1 a2 a3 a4 hxl
      go_wp2_with fail
      refine (K2.out _ _ h1.out.again).mono ?_
      rintro r w2 ⟨v2, rfl, hm2⟩
      rw [hlm] at hm2
      obtain ⟨ad2, cap2, hv2, b1, b2, b3, b4, _⟩ := hm2.get 0 rfl
      rw [HXL.out] at hv2; subst hv2
      obtain ⟨_, _, hg1, g1, g2, g3, g4, _⟩ := hm2.get 1 rfl
      simp only [Value.slice.injEq] at hg1
      obtain ⟨rfl, hnn, rfl⟩ := hg1; clear hnn
      have hbx := below_box w2 #[.bool neg, .slice ad2 n cap2, .int .i64 e] 25
      have KS := Lib.hid (sameNum_any neg ad1 n cap1 xs e ad2 cap2 _ HXL.out (by rw [← HXL.out]; exact g1) (by rw [← HXL.out]; exact b1) (by rw [← HXL.out]; omega) (g4.below hbx) (b4.below hbx))
      have h2 := Lib.hid ((hm2.on h1.out).step hbx)
      have hb12 : Below (w1.alloc (.cells #[.bool neg, .slice ad1 n cap1, .int .i64 e] 25)).heap.size (w1.alloc (.cells #[.bool neg, .slice ad1 n cap1, .int .i64 e] 25)) (w2.alloc (.cells #[.bool neg, .slice ad2 n cap2, .int .i64 e] 25)) := below_on hm2.below hbx
      have B2 := Lib.hid (B1.out.step hb12)
      have C2 := Lib.hid (bx_new w2 neg (.slice ad2 n cap2) e)
      clear hm2 b1 b2 b3 b4 g1 g2 g3 g4 hbx hb12 B1 h1
      obtain ⟨x1, x2, x3, x4⟩ := B2.out
      obtain ⟨y1, y2, y3, y4⟩ := C2.out
      go_wp2_with fail
      refine KS.out.mono ?_
      rintro r w3 ⟨rfl, hbs⟩
      have h3 := Lib.hid (h2.out.step hbs)
      have KA := Lib.hid (HW.out _ h3.out.below)
      clear hbs x1 x2 x3 x4 y1 y2 y3 y4 B2 C2 h2 KS
      go_wp2_with fail
      refine KA.out.mono ?_
      rintro r w4 ⟨rfl, hb4⟩
      have hf := Lib.hid (below_on h3.out.below hb4); clear hb4
      go_wp2
      go_ret
      exact BoolBelow.mk rfl hf.out
    · rw [hp] at K1 K2
      clear hp
      have hnn : (n == n) = true := by simp
      go_enter Tryd.func3, Tryd.ntmps3
      go_wp2_with fail
      refine K1.out.mono ?_
      rintro r w1 ⟨rfl, hm1⟩
      have h1 := Lib.hid (hm1.step (below_box w1 #[.bool false, .slice none 0 0, .int .i64 0] 25))
      have B1 := Lib.hid (bx_new w1 false (.slice none 0 0) 0)
      clear hm1
      go_wp2_with fail
      refine (K2.out _ _ h1.out.again).mono ?_
      rintro r w2 ⟨rfl, hm2⟩
      have hbx := below_box w2 #[.bool false, .slice none 0 0, .int .i64 0] 25
      have KS := Lib.hid (sameNum_any false none 0 0 [] 0 none 0 (w2.alloc (.cells #[.bool false, .slice none 0 0, .int .i64 0] 25)) rfl (Nat.le_refl _) (Nat.le_refl _) (by decide) (Rd.nil _ _) (Rd.nil _ _))
      have h2 := Lib.hid ((hm2.on h1.out).step hbx)
      have hb12 : Below (w1.alloc (.cells #[.bool false, .slice none 0 0, .int .i64 0] 25)).heap.size (w1.alloc (.cells #[.bool false, .slice none 0 0, .int .i64 0] 25)) (w2.alloc (.cells #[.bool false, .slice none 0 0, .int .i64 0] 25)) := below_on hm2.below hbx
      have B2 := Lib.hid (B1.out.step hb12)
      have C2 := Lib.hid (bx_new w2 false (.slice none 0 0) 0)
      clear hm2 hbx hb12 B1 h1
      obtain ⟨x1, x2, x3, x4⟩ := B2.out
      obtain ⟨y1, y2, y3, y4⟩ := C2.out
      go_wp2_with fail
      refine KS.out.mono ?_
      rintro r w3 ⟨rfl, hbs⟩
      have h3 := Lib.hid (h2.out.step hbs)
      have KA := Lib.hid (HW.out _ h3.out.below)
      clear hbs x1 x2 x3 x4 y1 y2 y3 y4 B2 C2 h2 KS
      go_wp2_with fail
      refine KA.out.mono ?_
      rintro r w4 ⟨rfl, hb4⟩
      have hf := Lib.hid (below_on h3.out.below hb4); clear hb4
      go_wp2
      go_ret
      exact BoolBelow.mk rfl hf.out
end Go.Proofs.YtokppjfaihkkcaaDoor
