/- Put of heads, walked. -/
import Derived.Test.YtokgodobmcbdoaaH2
namespace Go.Proofs.Ytokgodobmcbdoaa
open Go.RowKit Go.Lib
set_option linter.unusedVariables false
set_option linter.unusedSimpArgs false
/-- Bytes behind what is owned. -/
theorem wpl_put (W : World) (news : List Value) {ops : Array Oper} {rest : List Oper} {o : Oper} {a : Act} {Q : Exit → Act → World → Prop}
    (hg : o.guard = none) (s x : Operand) (hop : o.op = .call { callee := .builtin .append, args := #[s, x], argTypes := #[22, 22] })
    (w0 : World) (v : Value) (n : Nat) (xs : List Nat) (hs : a.eval s = v) (hown : W.ownsRow w0.heap.size 5 1 v n (bv xs)) (hb : Below w0.heap.size w0 W) (k : Nat) (hx : a.eval x = .slice (some ⟨W.heap.size, 0, none⟩) k k) (hk : news.length = k)
    (ys : List Nat) (hy : news = bv ys) (zs : List Nat) (hz : xs ++ ys = zs) (hn : n + k ≤ 1000000000)
    (h : ∀ v' w', w'.ownsRow w0.heap.size 5 1 v' (n + k) (bv zs) → Below w0.heap.size w0 w' → wpList Try.prog ops Q rest (a.put o.dst v') w') :
    wpList Try.prog ops Q (o :: rest) a (W.alloc (.cells news.toArray 5)) := by
  have hbs := hb.size
  refine wpl_appV Try.underlying22 info_u8 rfl (by decide) (by decide) _ hg s x hop w0.heap.size v n (bv xs) hs (hown.alloc _) _ k k news hx (by omega) (rd_new _ _ _) (by rw [hy]; exact bv_one _) (fun h => by cases h) hn (by simp; omega) ?_
  intro v' w' h1 h2
  refine h v' w' (by rw [← hz, bv_app, ← hy]; exact h1) ((hb.alloc hbs _).grown h2 (by simp; omega) (fun g hg => (hown.lt g hg).1))
theorem head_or (Mi : Int) (i : Nat) (hi : i < 32) : bits .or .u8 (Mi % 256 * 32 % 256) (i : Int) = (((Mi % 8).toNat * 32 + i : Nat) : Int) := by
  rw [bits_join .u8 8 (by decide) wraps_u8 5 (Mi % 256 * 32 % 256) (i : Int) (by omega) (by omega) (by omega) (by omega) (by omega) (by omega)]
  omega
/-- What Put leaves. -/
def PutL (l : List Nat) (w : World) (e : Ending) (w' : World) : Prop := ∃ v, e = .returned v ∧ w'.ownsRow w.heap.size 5 1 v l.length (bv l) ∧ Below w.heap.size w w'
theorem hd_0 (m n : Nat) (h : n < 24) : hd m n = [m * 32 + n] := by unfold hd infoN tailN; rw [if_pos h, if_pos h]
theorem hd_1 (m n : Nat) (h0 : 24 ≤ n) (h : n < 256) : hd m n = [m * 32 + 24, n] := by
  unfold hd infoN tailN; rw [if_neg (show ¬ n < 24 by omega), if_neg (show ¬ n < 24 by omega), if_pos h, if_pos h]
theorem hd_2 (m n : Nat) (h0 : 256 ≤ n) (h : n < 65536) : hd m n = [m * 32 + 25, n / 256, n % 256] := by
  unfold hd infoN tailN; rw [if_neg (show ¬ n < 24 by omega), if_neg (show ¬ n < 24 by omega), if_neg (show ¬ n < 256 by omega), if_neg (show ¬ n < 256 by omega), if_pos h, if_pos h]
theorem hd_4 (m n : Nat) (h0 : 65536 ≤ n) (h : n < 4294967296) : hd m n = [m * 32 + 26, n / 16777216, n / 65536 % 256, n / 256 % 256, n % 256] := by
  unfold hd infoN tailN; rw [if_neg (show ¬ n < 24 by omega), if_neg (show ¬ n < 24 by omega), if_neg (show ¬ n < 256 by omega), if_neg (show ¬ n < 256 by omega), if_neg (show ¬ n < 65536 by omega), if_neg (show ¬ n < 65536 by omega), if_pos h, if_pos h]
theorem hd_8 (m n : Nat) (h0 : 4294967296 ≤ n) : hd m n = [m * 32 + 27, n / 72057594037927936, n / 281474976710656 % 256, n / 1099511627776 % 256, n / 4294967296 % 256, n / 16777216 % 256, n / 65536 % 256, n / 256 % 256, n % 256] := by
  unfold hd infoN tailN; rw [if_neg (show ¬ n < 24 by omega), if_neg (show ¬ n < 24 by omega), if_neg (show ¬ n < 256 by omega), if_neg (show ¬ n < 256 by omega), if_neg (show ¬ n < 65536 by omega), if_neg (show ¬ n < 65536 by omega), if_neg (show ¬ n < 4294967296 by omega), if_neg (show ¬ n < 4294967296 by omega)]

set_option maxHeartbeats 1000000 in
set_option maxRecDepth 100000 in
theorem put_0 (ad : Option Addr) (l : List Nat) (n cap N : Nat) (Mi : Int) (w : World) (hl : l.length = n) (hn : n ≤ 1000000) (hc : n ≤ cap) (hr : RdV w ad (bv l)) (h2 : N < 24) :
    Calls Try.prog 7 #[.slice ad n cap, .int .i64 Mi, .int .u64 (N : Int)] w (PutL (l ++ hd (Mi % 8).toNat N) w) := by
  have K1 := Lib.hid (clip_any ad n cap w hc)
  have K2 := Lib.hid (grow_any ad l n w hl (by omega) hr)
  have K3 := Lib.hid (fun W => infoOf_any N W (by omega))
  have hi : infoN N = N := by unfold infoN; rw [if_pos h2]
  rw [hi] at K3
  have HD := Lib.hid (hd_0 (Mi % 8).toNat N h2)
  have HL := Lib.hid hl
  have HN := Lib.hid hn
  have HQ := Lib.hid (show (Mi % 8).toNat < 8 by omega)
  clear hl hr hi hc hn
  go_enter Try.func7, Try.ntmps7
  go_wp2_with fail
  refine K1.out.mono ?_
  rintro x w1 ⟨rfl, rfl⟩
  go_wp2_with fail
  refine K2.out.mono ?_
  rintro x w2 ⟨v0, rfl, ho, hb⟩
  have O0 := Lib.hid ho; have B0 := Lib.hid hb
  clear ho hb
  go_wp2_with fail
  refine (K3.out _).mono ?_
  rintro x w3 ⟨rfl, rfl⟩
  have z1 : decide ((N : Int) = 27) = false := decide_eq_false (by omega)
  have z2 : decide ((N : Int) = 26) = false := decide_eq_false (by omega)
  have z3 : decide ((N : Int) = 25) = false := decide_eq_false (by omega)
  have z4 : decide ((N : Int) = 24) = false := decide_eq_false (by omega)
  have y1 : ((N : Int) == 27) = false := by rw [beq_eq_false_iff_ne]; omega
  have y2 : ((N : Int) == 26) = false := by rw [beq_eq_false_iff_ne]; omega
  have y3 : ((N : Int) == 25) = false := by rw [beq_eq_false_iff_ne]; omega
  have y4 : ((N : Int) == 24) = false := by rw [beq_eq_false_iff_ne]; omega
  go_wp2_with (at_builtin; refine wpl_put _ _ rfl _ _ rfl w1 v0 (l.length) (l) rfl O0.out B0.out 1 rfl rfl [(Mi % 8).toNat * 32 + N] (by rw [head_or Mi N (by omega)]; rfl) (l ++ [(Mi % 8).toNat * 32 + N]) (by simp) (by have := HN.out; have := HL.out; omega) ?_)
  intro v1 u1 ho hb
  have O1 := Lib.hid ho; have B1 := Lib.hid hb
  clear ho hb O0 B0
  go_wp2
  go_ret
  have O := O1.out
  refine ⟨_, rfl, ?_, B1.out⟩
  have e2 : (l ++ hd (Mi % 8).toNat N).length = l.length + 1 := by rw [HD.out]; simp
  rw [e2, HD.out]
  first | exact O | simpa using O

set_option maxHeartbeats 1000000 in
set_option maxRecDepth 100000 in
theorem put_1 (ad : Option Addr) (l : List Nat) (n cap N : Nat) (Mi : Int) (w : World) (hl : l.length = n) (hn : n ≤ 1000000) (hc : n ≤ cap) (hr : RdV w ad (bv l)) (h1 : 24 ≤ N) (h2 : N < 256) :
    Calls Try.prog 7 #[.slice ad n cap, .int .i64 Mi, .int .u64 (N : Int)] w (PutL (l ++ hd (Mi % 8).toNat N) w) := by
  have K1 := Lib.hid (clip_any ad n cap w hc)
  have K2 := Lib.hid (grow_any ad l n w hl (by omega) hr)
  have K3 := Lib.hid (fun W => infoOf_any N W (by omega))
  have hi : infoN N = 24 := by unfold infoN; rw [if_neg (by omega), if_pos (by omega)]
  rw [hi] at K3
  have HD := Lib.hid (hd_1 (Mi % 8).toNat N h1 h2)
  have HL := Lib.hid hl
  have HN := Lib.hid hn
  have HQ := Lib.hid (show (Mi % 8).toNat < 8 by omega)
  clear hl hr hi hc hn
  go_enter Try.func7, Try.ntmps7
  go_wp2_with fail
  refine K1.out.mono ?_
  rintro x w1 ⟨rfl, rfl⟩
  go_wp2_with fail
  refine K2.out.mono ?_
  rintro x w2 ⟨v0, rfl, ho, hb⟩
  have O0 := Lib.hid ho; have B0 := Lib.hid hb
  clear ho hb
  go_wp2_with fail
  refine (K3.out _).mono ?_
  rintro x w3 ⟨rfl, rfl⟩
  go_wp2_with (at_builtin; refine wpl_put _ _ rfl _ _ rfl w1 v0 (l.length) (l) rfl O0.out B0.out 1 rfl rfl [(Mi % 8).toNat * 32 + 24] (by rw [show (24 : Int) = ((24 : Nat) : Int) from rfl, head_or Mi 24 (by decide)]; rfl) (l ++ [(Mi % 8).toNat * 32 + 24]) (by simp) (by have := HN.out; have := HL.out; omega) ?_)
  intro v1 u1 ho hb
  have O1 := Lib.hid ho; have B1 := Lib.hid hb
  clear ho hb O0 B0
  go_wp2_with (at_builtin; refine wpl_put _ _ rfl _ _ rfl w1 v1 (l.length + 1) (l ++ [(Mi % 8).toNat * 32 + 24]) rfl O1.out B1.out 1 rfl rfl [N] (by simp only [bv, List.map_cons, List.map_nil, List.cons.injEq, Value.int.injEq, true_and, and_true] <;> omega) (l ++ [(Mi % 8).toNat * 32 + 24, N]) (by simp) (by have := HN.out; have := HL.out; omega) ?_)
  intro v2 u2 ho hb
  have O2 := Lib.hid ho; have B2 := Lib.hid hb
  clear ho hb O1 B1
  go_wp2
  go_ret
  have O := O2.out
  refine ⟨_, rfl, ?_, B2.out⟩
  have e2 : (l ++ hd (Mi % 8).toNat N).length = l.length + 1 + 1 := by rw [HD.out]; simp
  rw [e2, HD.out]
  first | exact O | simpa using O

set_option maxHeartbeats 1000000 in
set_option maxRecDepth 100000 in
theorem put_2 (ad : Option Addr) (l : List Nat) (n cap N : Nat) (Mi : Int) (w : World) (hl : l.length = n) (hn : n ≤ 1000000) (hc : n ≤ cap) (hr : RdV w ad (bv l)) (h1 : 256 ≤ N) (h2 : N < 65536) :
    Calls Try.prog 7 #[.slice ad n cap, .int .i64 Mi, .int .u64 (N : Int)] w (PutL (l ++ hd (Mi % 8).toNat N) w) := by
  have K1 := Lib.hid (clip_any ad n cap w hc)
  have K2 := Lib.hid (grow_any ad l n w hl (by omega) hr)
  have K3 := Lib.hid (fun W => infoOf_any N W (by omega))
  have hi : infoN N = 25 := by unfold infoN; rw [if_neg (by omega), if_neg (by omega), if_pos (by omega)]
  rw [hi] at K3
  have HD := Lib.hid (hd_2 (Mi % 8).toNat N h1 h2)
  have HL := Lib.hid hl
  have HN := Lib.hid hn
  have HQ := Lib.hid (show (Mi % 8).toNat < 8 by omega)
  clear hl hr hi hc hn
  go_enter Try.func7, Try.ntmps7
  go_wp2_with fail
  refine K1.out.mono ?_
  rintro x w1 ⟨rfl, rfl⟩
  go_wp2_with fail
  refine K2.out.mono ?_
  rintro x w2 ⟨v0, rfl, ho, hb⟩
  have O0 := Lib.hid ho; have B0 := Lib.hid hb
  clear ho hb
  go_wp2_with fail
  refine (K3.out _).mono ?_
  rintro x w3 ⟨rfl, rfl⟩
  go_wp2_with (at_builtin; refine wpl_put _ _ rfl _ _ rfl w1 v0 (l.length) (l) rfl O0.out B0.out 1 rfl rfl [(Mi % 8).toNat * 32 + 25] (by rw [show (25 : Int) = ((25 : Nat) : Int) from rfl, head_or Mi 25 (by decide)]; rfl) (l ++ [(Mi % 8).toNat * 32 + 25]) (by simp) (by have := HN.out; have := HL.out; omega) ?_)
  intro v1 u1 ho hb
  have O1 := Lib.hid ho; have B1 := Lib.hid hb
  clear ho hb O0 B0
  go_wp2_with (at_builtin; refine wpl_put _ _ rfl _ _ rfl w1 v1 (l.length + 1) (l ++ [(Mi % 8).toNat * 32 + 25]) rfl O1.out B1.out 1 rfl rfl [N / 256] (by simp only [bv, List.map_cons, List.map_nil, List.cons.injEq, Value.int.injEq, true_and, and_true] <;> omega) (l ++ [(Mi % 8).toNat * 32 + 25, N / 256]) (by simp) (by have := HN.out; have := HL.out; omega) ?_)
  intro v2 u2 ho hb
  have O2 := Lib.hid ho; have B2 := Lib.hid hb
  clear ho hb O1 B1
  go_wp2_with (at_builtin; refine wpl_put _ _ rfl _ _ rfl w1 v2 (l.length + 1 + 1) (l ++ [(Mi % 8).toNat * 32 + 25, N / 256]) rfl O2.out B2.out 1 rfl rfl [N % 256] (by simp only [bv, List.map_cons, List.map_nil, List.cons.injEq, Value.int.injEq, true_and, and_true] <;> omega) (l ++ [(Mi % 8).toNat * 32 + 25, N / 256, N % 256]) (by simp) (by have := HN.out; have := HL.out; omega) ?_)
  intro v3 u3 ho hb
  have O3 := Lib.hid ho; have B3 := Lib.hid hb
  clear ho hb O2 B2
  go_wp2
  go_ret
  have O := O3.out
  refine ⟨_, rfl, ?_, B3.out⟩
  have e2 : (l ++ hd (Mi % 8).toNat N).length = l.length + 1 + 1 + 1 := by rw [HD.out]; simp
  rw [e2, HD.out]
  first | exact O | simpa using O

set_option maxHeartbeats 1000000 in
set_option maxRecDepth 100000 in
theorem put_4 (ad : Option Addr) (l : List Nat) (n cap N : Nat) (Mi : Int) (w : World) (hl : l.length = n) (hn : n ≤ 1000000) (hc : n ≤ cap) (hr : RdV w ad (bv l)) (h1 : 65536 ≤ N) (h2 : N < 4294967296) :
    Calls Try.prog 7 #[.slice ad n cap, .int .i64 Mi, .int .u64 (N : Int)] w (PutL (l ++ hd (Mi % 8).toNat N) w) := by
  have K1 := Lib.hid (clip_any ad n cap w hc)
  have K2 := Lib.hid (grow_any ad l n w hl (by omega) hr)
  have K3 := Lib.hid (fun W => infoOf_any N W (by omega))
  have hi : infoN N = 26 := by unfold infoN; rw [if_neg (by omega), if_neg (by omega), if_neg (by omega), if_pos (by omega)]
  rw [hi] at K3
  have HD := Lib.hid (hd_4 (Mi % 8).toNat N h1 h2)
  have HL := Lib.hid hl
  have HN := Lib.hid hn
  have HQ := Lib.hid (show (Mi % 8).toNat < 8 by omega)
  clear hl hr hi hc hn
  go_enter Try.func7, Try.ntmps7
  go_wp2_with fail
  refine K1.out.mono ?_
  rintro x w1 ⟨rfl, rfl⟩
  go_wp2_with fail
  refine K2.out.mono ?_
  rintro x w2 ⟨v0, rfl, ho, hb⟩
  have O0 := Lib.hid ho; have B0 := Lib.hid hb
  clear ho hb
  go_wp2_with fail
  refine (K3.out _).mono ?_
  rintro x w3 ⟨rfl, rfl⟩
  go_wp2_with (at_builtin; refine wpl_put _ _ rfl _ _ rfl w1 v0 (l.length) (l) rfl O0.out B0.out 1 rfl rfl [(Mi % 8).toNat * 32 + 26] (by rw [show (26 : Int) = ((26 : Nat) : Int) from rfl, head_or Mi 26 (by decide)]; rfl) (l ++ [(Mi % 8).toNat * 32 + 26]) (by simp) (by have := HN.out; have := HL.out; omega) ?_)
  intro v1 u1 ho hb
  have O1 := Lib.hid ho; have B1 := Lib.hid hb
  clear ho hb O0 B0
  go_wp2_with (at_builtin; refine wpl_put _ _ rfl _ _ rfl w1 v1 (l.length + 1) (l ++ [(Mi % 8).toNat * 32 + 26]) rfl O1.out B1.out 2 rfl rfl [N / 16777216, N / 65536 % 256] (by simp only [bv, List.map_cons, List.map_nil, List.cons.injEq, Value.int.injEq, true_and, and_true] <;> omega) (l ++ [(Mi % 8).toNat * 32 + 26, N / 16777216, N / 65536 % 256]) (by simp) (by have := HN.out; have := HL.out; omega) ?_)
  intro v2 u2 ho hb
  have O2 := Lib.hid ho; have B2 := Lib.hid hb
  clear ho hb O1 B1
  go_wp2_with (at_builtin; refine wpl_put _ _ rfl _ _ rfl w1 v2 (l.length + 1 + 2) (l ++ [(Mi % 8).toNat * 32 + 26, N / 16777216, N / 65536 % 256]) rfl O2.out B2.out 1 rfl rfl [N / 256 % 256] (by simp only [bv, List.map_cons, List.map_nil, List.cons.injEq, Value.int.injEq, true_and, and_true] <;> omega) (l ++ [(Mi % 8).toNat * 32 + 26, N / 16777216, N / 65536 % 256, N / 256 % 256]) (by simp) (by have := HN.out; have := HL.out; omega) ?_)
  intro v3 u3 ho hb
  have O3 := Lib.hid ho; have B3 := Lib.hid hb
  clear ho hb O2 B2
  go_wp2_with (at_builtin; refine wpl_put _ _ rfl _ _ rfl w1 v3 (l.length + 1 + 2 + 1) (l ++ [(Mi % 8).toNat * 32 + 26, N / 16777216, N / 65536 % 256, N / 256 % 256]) rfl O3.out B3.out 1 rfl rfl [N % 256] (by simp only [bv, List.map_cons, List.map_nil, List.cons.injEq, Value.int.injEq, true_and, and_true] <;> omega) (l ++ [(Mi % 8).toNat * 32 + 26, N / 16777216, N / 65536 % 256, N / 256 % 256, N % 256]) (by simp) (by have := HN.out; have := HL.out; omega) ?_)
  intro v4 u4 ho hb
  have O4 := Lib.hid ho; have B4 := Lib.hid hb
  clear ho hb O3 B3
  go_wp2
  go_ret
  have O := O4.out
  refine ⟨_, rfl, ?_, B4.out⟩
  have e2 : (l ++ hd (Mi % 8).toNat N).length = l.length + 1 + 2 + 1 + 1 := by rw [HD.out]; simp
  rw [e2, HD.out]
  first | exact O | simpa using O

set_option maxHeartbeats 1000000 in
set_option maxRecDepth 100000 in
theorem put_8 (ad : Option Addr) (l : List Nat) (n cap N : Nat) (Mi : Int) (w : World) (hl : l.length = n) (hn : n ≤ 1000000) (hc : n ≤ cap) (hr : RdV w ad (bv l)) (h1 : 4294967296 ≤ N) (h2 : N < 18446744073709551616) :
    Calls Try.prog 7 #[.slice ad n cap, .int .i64 Mi, .int .u64 (N : Int)] w (PutL (l ++ hd (Mi % 8).toNat N) w) := by
  have K1 := Lib.hid (clip_any ad n cap w hc)
  have K2 := Lib.hid (grow_any ad l n w hl (by omega) hr)
  have K3 := Lib.hid (fun W => infoOf_any N W (by omega))
  have hi : infoN N = 27 := by unfold infoN; rw [if_neg (by omega), if_neg (by omega), if_neg (by omega), if_neg (by omega)]
  rw [hi] at K3
  have HD := Lib.hid (hd_8 (Mi % 8).toNat N h1)
  have HL := Lib.hid hl
  have HN := Lib.hid hn
  have HQ := Lib.hid (show (Mi % 8).toNat < 8 by omega)
  clear hl hr hi hc hn
  go_enter Try.func7, Try.ntmps7
  go_wp2_with fail
  refine K1.out.mono ?_
  rintro x w1 ⟨rfl, rfl⟩
  go_wp2_with fail
  refine K2.out.mono ?_
  rintro x w2 ⟨v0, rfl, ho, hb⟩
  have O0 := Lib.hid ho; have B0 := Lib.hid hb
  clear ho hb
  go_wp2_with fail
  refine (K3.out _).mono ?_
  rintro x w3 ⟨rfl, rfl⟩
  go_wp2_with (at_builtin; refine wpl_put _ _ rfl _ _ rfl w1 v0 (l.length) (l) rfl O0.out B0.out 1 rfl rfl [(Mi % 8).toNat * 32 + 27] (by rw [show (27 : Int) = ((27 : Nat) : Int) from rfl, head_or Mi 27 (by decide)]; rfl) (l ++ [(Mi % 8).toNat * 32 + 27]) (by simp) (by have := HN.out; have := HL.out; omega) ?_)
  intro v1 u1 ho hb
  have O1 := Lib.hid ho; have B1 := Lib.hid hb
  clear ho hb O0 B0
  go_wp2_with (at_builtin; refine wpl_put _ _ rfl _ _ rfl w1 v1 (l.length + 1) (l ++ [(Mi % 8).toNat * 32 + 27]) rfl O1.out B1.out 4 rfl rfl [N / 72057594037927936, N / 281474976710656 % 256, N / 1099511627776 % 256, N / 4294967296 % 256] (by simp only [bv, List.map_cons, List.map_nil, List.cons.injEq, Value.int.injEq, true_and, and_true] <;> omega) (l ++ [(Mi % 8).toNat * 32 + 27, N / 72057594037927936, N / 281474976710656 % 256, N / 1099511627776 % 256, N / 4294967296 % 256]) (by simp) (by have := HN.out; have := HL.out; omega) ?_)
  intro v2 u2 ho hb
  have O2 := Lib.hid ho; have B2 := Lib.hid hb
  clear ho hb O1 B1
  go_wp2_with (at_builtin; refine wpl_put _ _ rfl _ _ rfl w1 v2 (l.length + 1 + 4) (l ++ [(Mi % 8).toNat * 32 + 27, N / 72057594037927936, N / 281474976710656 % 256, N / 1099511627776 % 256, N / 4294967296 % 256]) rfl O2.out B2.out 2 rfl rfl [N / 16777216 % 256, N / 65536 % 256] (by simp only [bv, List.map_cons, List.map_nil, List.cons.injEq, Value.int.injEq, true_and, and_true] <;> omega) (l ++ [(Mi % 8).toNat * 32 + 27, N / 72057594037927936, N / 281474976710656 % 256, N / 1099511627776 % 256, N / 4294967296 % 256, N / 16777216 % 256, N / 65536 % 256]) (by simp) (by have := HN.out; have := HL.out; omega) ?_)
  intro v3 u3 ho hb
  have O3 := Lib.hid ho; have B3 := Lib.hid hb
  clear ho hb O2 B2
  go_wp2_with (at_builtin; refine wpl_put _ _ rfl _ _ rfl w1 v3 (l.length + 1 + 4 + 2) (l ++ [(Mi % 8).toNat * 32 + 27, N / 72057594037927936, N / 281474976710656 % 256, N / 1099511627776 % 256, N / 4294967296 % 256, N / 16777216 % 256, N / 65536 % 256]) rfl O3.out B3.out 1 rfl rfl [N / 256 % 256] (by simp only [bv, List.map_cons, List.map_nil, List.cons.injEq, Value.int.injEq, true_and, and_true] <;> omega) (l ++ [(Mi % 8).toNat * 32 + 27, N / 72057594037927936, N / 281474976710656 % 256, N / 1099511627776 % 256, N / 4294967296 % 256, N / 16777216 % 256, N / 65536 % 256, N / 256 % 256]) (by simp) (by have := HN.out; have := HL.out; omega) ?_)
  intro v4 u4 ho hb
  have O4 := Lib.hid ho; have B4 := Lib.hid hb
  clear ho hb O3 B3
  go_wp2_with (at_builtin; refine wpl_put _ _ rfl _ _ rfl w1 v4 (l.length + 1 + 4 + 2 + 1) (l ++ [(Mi % 8).toNat * 32 + 27, N / 72057594037927936, N / 281474976710656 % 256, N / 1099511627776 % 256, N / 4294967296 % 256, N / 16777216 % 256, N / 65536 % 256, N / 256 % 256]) rfl O4.out B4.out 1 rfl rfl [N % 256] (by simp only [bv, List.map_cons, List.map_nil, List.cons.injEq, Value.int.injEq, true_and, and_true] <;> omega) (l ++ [(Mi % 8).toNat * 32 + 27, N / 72057594037927936, N / 281474976710656 % 256, N / 1099511627776 % 256, N / 4294967296 % 256, N / 16777216 % 256, N / 65536 % 256, N / 256 % 256, N % 256]) (by simp) (by have := HN.out; have := HL.out; omega) ?_)
  intro v5 u5 ho hb
  have O5 := Lib.hid ho; have B5 := Lib.hid hb
  clear ho hb O4 B4
  go_wp2
  go_ret
  have O := O5.out
  refine ⟨_, rfl, ?_, B5.out⟩
  have e2 : (l ++ hd (Mi % 8).toNat N).length = l.length + 1 + 4 + 2 + 1 + 1 := by rw [HD.out]; simp
  rw [e2, HD.out]
  first | exact O | simpa using O

theorem put_any (ad : Option Addr) (l : List Nat) (n cap N : Nat) (Mi : Int) (w : World) (hl : l.length = n) (hn : n ≤ 1000000) (hc : n ≤ cap) (hr : RdV w ad (bv l)) (h2 : N < 18446744073709551616) :
    Calls Try.prog 7 #[.slice ad n cap, .int .i64 Mi, .int .u64 (N : Int)] w (PutL (l ++ hd (Mi % 8).toNat N) w) := by
  by_cases g1 : N < 24
  · exact put_0 ad l n cap N Mi w hl hn hc hr g1
  by_cases g2 : N < 256
  · exact put_1 ad l n cap N Mi w hl hn hc hr (by omega) g2
  by_cases g3 : N < 65536
  · exact put_2 ad l n cap N Mi w hl hn hc hr (by omega) g3
  by_cases g4 : N < 4294967296
  · exact put_4 ad l n cap N Mi w hl hn hc hr (by omega) g4
  exact put_8 ad l n cap N Mi w hl hn hc hr (by omega) h2
end Go.Proofs.Ytokgodobmcbdoaa
