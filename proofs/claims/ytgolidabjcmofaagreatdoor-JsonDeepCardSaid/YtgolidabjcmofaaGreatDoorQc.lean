/- Texts of the claim. -/
import Derived.Test.YtgolidabjcmofaaGreatDoorQb
import Derived.Laws.OwnMore
import Derived.Lib.Bytealg
import Derived.Lib.ItoaNum
import Derived.Lib.Repeat
import Derived.Deep.RegionHeld3
import Derived.Deep.DeepCutAuto
import Derived.Test.YtgolidabjcmofaaGreatDoorShelf
import Derived.Lib.QuietBelow
namespace Go.Proofs.YtgolidabjcmofaaGreatDoor
open Go.RowKit
set_option linter.unusedVariables false
set_option linter.unusedSimpArgs false
theorem ten_unique {m m' k k' : Nat} (h : m * tenN k = m' * tenN k') (hm : m % 10 ≠ 0) (hm' : m' % 10 ≠ 0) : m = m' ∧ k = k' := by
  have key : ∀ {a b x y : Nat}, a * tenN x = b * tenN y → a % 10 ≠ 0 → x < y → False := by
    intro a b x y h1 h2 h3
    obtain ⟨d, rfl⟩ : ∃ d, y = x + (d + 1) := ⟨y - x - 1, by omega⟩
    rw [tenN_add, tenN_succ] at h1
    have h4 : a = b * tenN d * 10 := by
      have h5 : a * tenN x = (b * tenN d * 10) * tenN x := by rw [h1]; grind
      exact Nat.eq_of_mul_eq_mul_right (tenN_pos x) h5
    rw [h4] at h2
    exact h2 (Nat.mul_mod_left _ _)
  rcases Nat.lt_trichotomy k k' with h1 | h1 | h1
  · exact (key h hm h1).elim
  · subst h1; exact ⟨Nat.eq_of_mul_eq_mul_right (tenN_pos k) h, rfl⟩
  · exact (key h.symm hm' h1).elim
theorem alloc_blk (w : World) (xs : List Nat) : Blk (w.alloc (.cells (xs.map lv).toArray 130)) w.heap.size xs [] := by
  unfold Blk; rw [List.append_nil]; exact heap_alloc_new w _
theorem retb {a b : Bool} (h : a = b) : Ending.returned (.bool a) = .returned (.bool b) := by rw [h]
end Go.Proofs.YtgolidabjcmofaaGreatDoor
namespace Go.Proofs.YtgolidabjcmofaaGreatDoor
open Go.RowKit
set_option linter.unusedVariables false
set_option linter.unusedSimpArgs false
theorem below_on {w w1 w2 : World} (h : Below w.heap.size w w1) (h2 : Below w1.heap.size w1 w2) : Below w.heap.size w w2 := h.trans (h2.mono h.size)
structure Ent where
  v : Value
  len : Nat
  nat : Nat
  xs : List Nat
def ListOk (w : World) (v : Value) (L N : Nat) (xs : List Nat) : Prop := ∃ ad cap, v = .slice ad xs.length cap ∧ xs.length ≤ cap ∧ xs.length ≤ L ∧ Okl xs ∧ Rd w ad xs ∧ val xs = N
def Ent.Ok (w : World) (x : Ent) : Prop := ListOk w x.v x.len x.nat x.xs
structure Ctx (w0 w : World) (l : List Ent) : Prop where
  below : Below w0.heap.size w0 w
  all : ∀ x ∈ l, x.Ok w
theorem Ctx.step {w0 w w' : World} {l : List Ent} (h : Ctx w0 w l) (hb : Below w.heap.size w w') : Ctx w0 w' l :=
  ⟨below_on h.below hb, fun x hx => by
    obtain ⟨ad, cap, h1, h2, h3, h4, h5, h6⟩ := h.all x hx
    exact ⟨ad, cap, h1, h2, h3, h4, h5.below hb, h6⟩⟩
theorem Ctx.drewN {w0 w : World} {l : List Ent} (h : Ctx w0 w l) (q : Nat) : Ctx w0 (w.drewN q) l := h.step (below_drewN' (Below.refl _ _) q)
theorem Ctx.push {w0 w : World} {l : List Ent} (h : Ctx w0 w l) {x : Ent} (hx : x.Ok w) : Ctx w0 w (x :: l) :=
  ⟨h.below, fun y hy => by rcases List.mem_cons.1 hy with rfl | h1 <;> first | exact hx | exact h.all y h1⟩
theorem Ctx.get {w0 w : World} {l : List Ent} (h : Ctx w0 w l) (i : Nat) {v : Value} {L N : Nat} {xs : List Nat} (hi : l[i]? = some ⟨v, L, N, xs⟩) : ListOk w v L N xs := h.all _ (List.mem_of_getElem? hi)
theorem Ctx.begin (w : World) : Ctx w w [] := ⟨Below.refl _ _, fun x hx => by cases hx⟩
theorem ent_own {B : Nat} {w : World} {v : Value} {N L : Nat} (h : Own B w v (limbs N)) (hL : (limbs N).length ≤ L) : Ent.Ok w ⟨v, L, N, limbs N⟩ := by
  obtain ⟨ad, cap, rfl, h1, h2, _⟩ := h.view
  exact ⟨ad, cap, rfl, h1, hL, limbs_ok _, h2, val_limbs _⟩
theorem ent_lit (w : World) {x : Nat} (hx : x < B32) : Ent.Ok (w.alloc (.cells #[.int .u32 (x : Int)] 130)) ⟨.slice (some ⟨w.heap.size, 0, none⟩) 1 1, 1, x, [x]⟩ :=
  ⟨_, 1, rfl, Nat.le_refl _, Nat.le_refl _, Okl.cons hx Okl.nil, (alloc_blk w [x]).rd_all, by simp [val]⟩
theorem Ctx.lit {w0 w : World} {l : List Ent} (h : Ctx w0 w l) {x : Nat} (hx : x < B32) :
    Ctx w0 (w.alloc (.cells #[.int .u32 (x : Int)] 130)) (⟨.slice (some ⟨w.heap.size, 0, none⟩) 1 1, 1, x, [x]⟩ :: l) :=
  (h.step ((Below.refl _ _).alloc (Nat.le_refl _) _)).push (ent_lit w hx)
theorem len_leq {xs : List Nat} (hx : Okl xs) {N L : Nat} (h : N ≤ val xs) (h1 : xs.length ≤ L) : (limbs N).length ≤ L :=
  Nat.le_trans (limbs_len_mono h) (Nat.le_trans (limbs_len_le hx) h1)
section
variable {w0 w : World} {l : List Ent} {v1 v2 : Value} {L1 L2 N1 N2 : Nat} {xs ys : List Nat}
theorem trim_c (h : Ctx w0 w l) (i : Nat) (hi : l[i]? = some ⟨v1, L1, N1, xs⟩) (h1 : L1 ≤ 10000000) :
    Calls Tryz.prog 191 #[v1] w fun e w' => ∃ v m k, e = .returned (.tuple #[v, .int .i64 ((k : Nat) : Int)]) ∧ N1 = m * tenN k ∧ (N1 = 0 → k = 0) ∧ (N1 ≠ 0 → m % 10 ≠ 0) ∧ k ≤ 400000000 ∧ Ctx w0 w' (⟨v, L1, m, limbs m⟩ :: l) := by
  obtain ⟨ad, cap, rfl, a2, a3, a4, a5, rfl⟩ := h.get i hi
  refine (trim_any ad _ cap xs w rfl a2 (by omega) a4 a5).mono ?_
  rintro e w' ⟨v, m, k, rfl, ho, hb, q1, q2, q3, q4⟩
  refine ⟨v, m, k, rfl, q1, q2, q3, q4, (h.step hb).push (ent_own ho (len_leq a4 ?_ a3))⟩
  rw [q1]
  exact Nat.le_mul_of_pos_right _ (Nat.pow_pos (by decide))
end
end Go.Proofs.YtgolidabjcmofaaGreatDoor
namespace Go.Proofs.YtgolidabjcmofaaGreatDoor
open Go.RowKit
set_option linter.unusedVariables false
set_option linter.unusedSimpArgs false
end Go.Proofs.YtgolidabjcmofaaGreatDoor
namespace Go.Proofs.YtgolidabjcmofaaGreatDoor
open Go.RowKit
set_option linter.unusedVariables false
set_option linter.unusedSimpArgs false
end Go.Proofs.YtgolidabjcmofaaGreatDoor
namespace Go.Proofs.YtgolidabjcmofaaGreatDoor
open Go.RowKit
set_option linter.unusedVariables false
set_option linter.unusedSimpArgs false
section
variable {w0 w : World} {l : List Ent} {v1 v2 : Value} {L1 L2 N1 N2 : Nat} {xs ys : List Nat}
end
theorem nums_txt {l : List Nat} (h : Okd l) : nums (txt l) = l := by
  unfold nums txt
  simp only [List.map_map]
  apply List.ext_getElem
  · simp
  · intro i h1 h2
    have hx := h l[i] (List.getElem_mem h2)
    simp only [List.getElem_map, Function.comp_apply, UInt8.toNat_ofNat']
    omega
theorem txt_append (l m : List Nat) : txt l ++ txt m = txt (l ++ m) := by
  apply ByteArray.ext
  simp [txt, ByteArray.data_append]
theorem Okd.append {l m : List Nat} (h : Okd l) (k : Okd m) : Okd (l ++ m) := by
  intro y hy; rcases List.mem_append.1 hy with hy | hy
  · exact h y hy
  · exact k y hy
theorem ten_le (n : Nat) : tenN n ≤ B32 ^ n := Nat.pow_le_pow_left (by decide) n
theorem parse_c {w0 w : World} {l : List Ent} (h : Ctx w0 w l) {d : List Nat} (hd : Okd d) (h1 : 0 < d.length) (M : Nat) (h2 : d.length ≤ M) (hM : M ≤ 2000) (N : Nat) (hN : hval d = N) :
    Calls Tryz.prog 158 #[.string (txt d)] w fun e w' => ∃ v, e = .returned (.tuple #[v, .bool true]) ∧ Ctx w0 w' (⟨v, M, N, limbs N⟩ :: l) := by
  refine (parse_any (txt d) w).mono ?_
  rw [nums_txt hd]
  rintro e w' ⟨⟨_, _, _, v, rfl, ho⟩ | ⟨hno, _⟩, hb⟩
  · subst hN
    exact ⟨v, rfl, (h.step hb).push (ent_own ho (limbs_length_le (Nat.lt_of_lt_of_le (hval_lt hd) (Nat.le_trans (ten_le _) (Nat.pow_le_pow_right (by decide) h2)))))⟩
  · exact absurd ⟨h1, Nat.le_trans h2 hM, hd⟩ hno
theorem tenN_ne (n : Nat) : tenN n ≠ 0 := Nat.pos_iff_ne_zero.1 (Nat.pow_pos (by decide))
end Go.Proofs.YtgolidabjcmofaaGreatDoor
namespace Go.Proofs.YtgolidabjcmofaaGreatDoor
open Go.RowKit
set_option linter.unusedVariables false
set_option linter.unusedSimpArgs false
def chkB (neg : Bool) (xs : List Nat) (e : Int) : Bool :=
  if xs.length = 0 then !neg && decide (e = 0) else decide (xs.length ≤ 90 ∧ xs.getD (xs.length - 1) 0 ≠ 0 ∧ -1200 ≤ e ∧ e ≤ 1200 ∧ val xs % 10 ≠ 0)
theorem chkB_nil {neg : Bool} {e : Int} : chkB neg [] e = (!neg && decide (e = 0)) := rfl
theorem chkB_zero {neg : Bool} {e : Int} (h : chkB neg [] e = true) : neg = false ∧ e = 0 := by
  simpa [chkB] using h
theorem chkB_some {neg : Bool} {xs : List Nat} {e : Int} (h0 : xs ≠ []) (h : chkB neg xs e = true) : xs.length ≤ 90 ∧ xs.getD (xs.length - 1) 0 ≠ 0 ∧ -1200 ≤ e ∧ e ≤ 1200 ∧ val xs % 10 ≠ 0 := by
  unfold chkB at h
  rw [if_neg (fun h1 => h0 (List.eq_nil_of_length_eq_zero h1))] at h
  exact of_decide_eq_true h
theorem chkB_bounds {neg : Bool} {xs : List Nat} {e : Int} (h : chkB neg xs e = true) : xs.length ≤ 90 ∧ -1200 ≤ e ∧ e ≤ 1200 := by
  by_cases h0 : xs = []
  · subst h0; obtain ⟨_, rfl⟩ := chkB_zero h; exact ⟨by simp, by omega, by omega⟩
  · obtain ⟨a, _, b, c, _⟩ := chkB_some h0 h; exact ⟨a, b, c⟩
theorem chkB_mk {neg : Bool} {N : Nat} {e : Int} (h0 : N % 10 ≠ 0) (h1 : (limbs N).length ≤ 90) (h2 : -1200 ≤ e) (h3 : e ≤ 1200) : chkB neg (limbs N) e = true := by
  have hne : N ≠ 0 := by intro h; rw [h] at h0; exact h0 rfl
  have hl : (limbs N).length ≠ 0 := fun h => hne ((limbs_nil_iff N).1 (List.eq_nil_of_length_eq_zero h))
  unfold chkB
  rw [if_neg hl]
  refine decide_eq_true ⟨h1, ?_, h2, h3, by rw [val_limbs]; exact h0⟩
  obtain ⟨t, ht⟩ : ∃ t, (limbs N).length = t + 1 := ⟨(limbs N).length - 1, by omega⟩
  rw [ht]
  exact limbs_top ht
end Go.Proofs.YtgolidabjcmofaaGreatDoor
namespace Go.Proofs.YtgolidabjcmofaaGreatDoor
open Go.RowKit
set_option linter.unusedVariables false
set_option linter.unusedSimpArgs false
theorem dec_small {N : Nat} (h : N < 10) : dec N = [48 + N] := by
  unfold dec
  by_cases h0 : N = 0
  · subst h0; rfl
  · rw [if_neg h0, decl_pos h0, Nat.mod_eq_of_lt h, Nat.div_eq_of_lt h, decl_zero]; rfl
theorem dec_step {N : Nat} (h : 10 ≤ N) : dec N = dec (N / 10) ++ [48 + N % 10] := by
  unfold dec
  rw [if_neg (by omega), if_neg (by omega), decl_pos (by omega), List.reverse_cons]
theorem decDigits_eq (N : Nat) : Lib.decDigits N = (dec N).map UInt8.ofNat := by
  induction N using Nat.strongRecOn with
  | _ N ih =>
    rw [Lib.decDigits]
    split
    · rename_i h; rw [dec_small h]; rfl
    · rename_i h
      rw [ih (N / 10) (by omega), dec_step (N := N) (by omega), List.map_append]; rfl
theorem itoa_txt (k : Nat) : (⟨(Lib.itoa (k : Int)).toArray⟩ : ByteArray) = txt (dec k) := by
  unfold Lib.itoa
  rw [if_neg (by omega), Int.toNat_natCast, decDigits_eq]; rfl
theorem repeat_txt (k : Nat) : (⟨(Lib.repeatL (txt [48]).data.toList k).toArray⟩ : ByteArray) = txt (List.replicate k 48) := by
  have e : (txt [48]).data.toList = List.replicate 1 (48 : UInt8) := rfl
  rw [e, Lib.repeatL_replicate, Nat.mul_one]
  simp [txt]
def expTxt (d : List Nat) (x : Int) : List Nat := d.take 1 ++ ((if 1 < d.length then [46] ++ d.drop 1 else []) ++ ([101, if x < 0 then 45 else 43] ++ dec x.natAbs))
def sizeTxt (d : List Nat) (e : Int) : List Nat :=
  if (d.length : Int) + e < -5 ∨ 21 < (d.length : Int) + e then expTxt d ((d.length : Int) + e - 1)
  else if (d.length : Int) + e ≤ 0 then [48, 46] ++ List.replicate (-((d.length : Int) + e)).toNat 48 ++ d
  else if e < 0 then d.take ((d.length : Int) + e).toNat ++ [46] ++ d.drop ((d.length : Int) + e).toNat
  else d ++ List.replicate e.toNat 48
def numTxt (neg : Bool) (N : Nat) (e : Int) : List Nat := if N = 0 then [48] else (if neg then [45] else []) ++ sizeTxt (dec N) e
theorem txt_take (d : List Nat) (k : Nat) (h : k ≤ d.length) : (txt d).extract 0 k = txt (d.take k) := by
  apply ByteArray.ext
  simp [txt, ByteArray.data_extract, List.map_take, List.extract_eq_take_drop]
theorem txt_drop (d : List Nat) (k : Nat) : (txt d).extract k (txt d).size = txt (d.drop k) := by
  apply ByteArray.ext
  simp only [txt, ByteArray.data_extract, ByteArray.size]
  apply Array.ext'
  simp [List.map_drop, List.extract_eq_take_drop]
  exact List.take_of_length_le (by simp)
theorem expTxt_len {d : List Nat} {x : Int} (hd : d.length ≤ 2000) (hx : -1000000 ≤ x ∧ x ≤ 1000000) : (expTxt d x).length ≤ 4000 := by
  have h := dec_len_le (n := 7) (N := x.natAbs) (by omega) (by have : tenN 7 = 10000000 := by decide
                                                               omega)
  unfold expTxt
  split <;> simp <;> omega
theorem sizeTxt_len {d : List Nat} {e : Int} (hd : d.length ≤ 2000) (he : -1200 ≤ e ∧ e ≤ 1200) : (sizeTxt d e).length ≤ 5000 := by
  unfold sizeTxt
  split
  · have := expTxt_len (d := d) (x := (d.length : Int) + e - 1) hd (by omega)
    omega
  · split
    · simp; omega
    · split <;> simp <;> omega
theorem sizeTxt_len2 {d : List Nat} {e : Int} (hd : d.length ≤ 900) (he : -1200 ≤ e ∧ e ≤ 1200) : (sizeTxt d e).length ≤ 1900 := by
  have h := dec_len_le (n := 7) (N := ((d.length : Int) + e - 1).natAbs) (by omega) (by have : tenN 7 = 10000000 := by decide
                                                                                        omega)
  unfold sizeTxt
  split
  · unfold expTxt
    split <;> simp <;> omega
  · split
    · simp; omega
    · split <;> simp <;> omega
end Go.Proofs.YtgolidabjcmofaaGreatDoor
namespace Go.Proofs.YtgolidabjcmofaaGreatDoor
open Go.RowKit
set_option linter.unusedVariables false
set_option linter.unusedSimpArgs false
def trimF : Nat → Nat → Nat
  | 0, _ => 0
  | f + 1, N => if N % 10 = 0 then trimF f (N / 10) + 1 else 0
def trimK (N : Nat) : Nat := trimF N N
def trimM (N : Nat) : Nat := N / tenN (trimK N)
theorem trimF_spec : ∀ (f N : Nat), N ≤ f → N ≠ 0 → N = N / tenN (trimF f N) * tenN (trimF f N) ∧ N / tenN (trimF f N) % 10 ≠ 0
  | 0, N, h, h0 => by omega
  | f + 1, N, h, h0 => by
    unfold trimF
    by_cases h1 : N % 10 = 0
    · rw [if_pos h1]
      obtain ⟨a, b⟩ := trimF_spec f (N / 10) (by omega) (by omega)
      have e : tenN (trimF f (N / 10) + 1) = 10 * tenN (trimF f (N / 10)) := by rw [tenN_succ, Nat.mul_comm]
      rw [e, ← Nat.div_div_eq_div_mul]
      refine ⟨?_, b⟩
      generalize N / 10 / tenN (trimF f (N / 10)) = Q at *
      have h2 : N = 10 * (N / 10) := by omega
      rw [Nat.mul_left_comm, ← a]
      exact h2
    · rw [if_neg h1, tenN_zero]
      exact ⟨by simp, by simpa using h1⟩
theorem trim_spec {N : Nat} (h : N ≠ 0) : N = trimM N * tenN (trimK N) ∧ trimM N % 10 ≠ 0 := trimF_spec N N (Nat.le_refl _) h
def isd (x : Nat) : Bool := decide (48 ≤ x ∧ x ≤ 57)
def digs (l : List Nat) : List Nat := l.takeWhile isd
def undigs (l : List Nat) : List Nat := l.dropWhile isd
def takes (l : List Nat) (c : Nat) : Bool := l.head? == some c
def rest (l : List Nat) (c : Nat) : List Nat := if takes l c then l.tail else l
theorem digs_ok (l : List Nat) : Okd (digs l) := by
  intro x hx
  have := List.all_takeWhile (p := isd) (l := l)
  have h := (List.all_eq_true.1 this) x hx
  simpa [isd] using h
theorem digs_len (l : List Nat) : (digs l).length ≤ l.length := (List.takeWhile_sublist isd).length_le
theorem undigs_len (l : List Nat) : (undigs l).length ≤ l.length := (List.dropWhile_sublist isd).length_le
theorem rest_len (l : List Nat) (c : Nat) : (rest l c).length ≤ l.length := by unfold rest; split <;> simp
theorem takes_cons (x : Nat) (l : List Nat) (c : Nat) : takes (x :: l) c = decide (x = c) := by by_cases h : x = c <;> simp [takes, h]
theorem takes_true {l : List Nat} {c : Nat} (h : takes l c = true) : ∃ l', l = c :: l' := by
  cases l with
  | nil => cases h
  | cons x l => rw [takes_cons] at h; exact ⟨l, by rw [of_decide_eq_true h]⟩
structure Pt where
  neg : Bool
  whole : List Nat
  frac : List Nat
  down : Bool
  exp : List Nat
def fracL (l : List Nat) : Option (List Nat × List Nat) :=
  if takes l 46 then (if digs l.tail = [] then none else some (digs l.tail, undigs l.tail)) else some ([], l)
def signL (l : List Nat) : List Nat := if takes l 45 then l.tail else rest l 43
def expL (l : List Nat) : Option (Bool × List Nat × List Nat) :=
  if takes l 101 = true ∨ takes l 69 = true then (if digs (signL l.tail) = [] then none else some (takes l.tail 45, digs (signL l.tail), undigs (signL l.tail))) else some (false, [], l)
def wholeBad (d : List Nat) : Prop := d = [] ∨ (1 < d.length ∧ d.head? = some 48)
instance (d : List Nat) : Decidable (wholeBad d) := by unfold wholeBad; infer_instance
def readL (l : List Nat) : Option Pt :=
  if wholeBad (digs (rest l 45)) then none else
  match fracL (undigs (rest l 45)) with
  | none => none
  | some (f, l3) =>
    match expL l3 with
    | none => none
    | some (d, x, l4) => if l4 = [] then some ⟨takes l 45, digs (rest l 45), f, d, x⟩ else none
def expN (p : Pt) : List Nat := p.exp.dropWhile (· == 48)
def expV (p : Pt) : Int := if p.down then -(hval (expN p) : Int) else (hval (expN p) : Int)
def numberL (p : Pt) : Option (Bool × Nat × Int) :=
  if hval (p.whole ++ p.frac) = 0 then some (false, 0, 0) else
  if 6 < (expN p).length then none else
  if (limbs (trimM (hval (p.whole ++ p.frac)))).length ≤ 90 ∧ -1200 ≤ expV p - (p.frac.length : Int) + (trimK (hval (p.whole ++ p.frac)) : Int) ∧ expV p - (p.frac.length : Int) + (trimK (hval (p.whole ++ p.frac)) : Int) ≤ 1200
  then some (p.neg, trimM (hval (p.whole ++ p.frac)), expV p - (p.frac.length : Int) + (trimK (hval (p.whole ++ p.frac)) : Int)) else none
def parseN (l : List Nat) : (Bool × Nat × Int) ⊕ Int :=
  if 2000 < l.length then .inr 4 else
  match readL l with
  | none => .inr 2
  | some p => match numberL p with
    | none => .inr 4
    | some r => .inl r
theorem expV_bd {p : Pt} (h : (expN p).length ≤ 6) (hx : Okd p.exp) : -1000000 ≤ expV p ∧ expV p ≤ 1000000 := by
  have ho : Okd (expN p) := fun a ha => hx a ((List.dropWhile_sublist _).subset ha)
  have h1 := hval_lt ho
  have h2 := tenN_le h
  have h3 : tenN 6 = 1000000 := by decide
  unfold expV
  split <;> omega
end Go.Proofs.YtgolidabjcmofaaGreatDoor
namespace Go.Proofs.YtgolidabjcmofaaGreatDoor
open Go.RowKit
set_option linter.unusedVariables false
set_option linter.unusedSimpArgs false
end Go.Proofs.YtgolidabjcmofaaGreatDoor
namespace Go.Proofs.YtgolidabjcmofaaGreatDoor
open Go.RowKit
set_option linter.unusedVariables false
set_option linter.unusedSimpArgs false
theorem int_beq0 (q : Nat) : ((q : Int) == 0) = decide (q = 0) := by
  by_cases h : q = 0
  · subst h; rfl
  · rw [decide_eq_false h, beq_eq_false_iff_ne]; omega
def TDRel (n : Nat) (xs : List Nat) (r i : Value) : Prop :=
  ∃ (k q : Nat), k ≤ n ∧ i = .int .i64 ((k : Int) - 1) ∧ r = .int .u64 (q : Int) ∧ q < 10 ∧ q = val (xs.drop k) % 10
theorem td_step {V q x j n : Nat} {xs : List Nat} (hj : j < n) (hn : xs.length = n) (hq : q = val (xs.drop (j + 1)) % 10) (hx : xs.getD j 0 = x) : wd q x % 10 = val (xs.drop j) % 10 := by
  rw [val_drop_succ xs j (by omega), hx]
  unfold wd
  rw [B32_eq]
  generalize val (xs.drop (j + 1)) = V at *
  omega
set_option maxHeartbeats 1000000 in
theorem tenDivides_any (ad : Option Addr) (n cap : Nat) (xs : List Nat) (w : World) (hn : xs.length = n) (hcap : n ≤ cap) (hm : n ≤ 1000000000) (ho : Okl xs) (hr : Rd w ad xs) :
    Calls Tryz.prog 139 #[.slice ad n cap] w fun e w' => e = .returned (.bool (decide (val xs % 10 = 0))) ∧ w = w' := by
  have HN := Lib.hid hn; clear hn
  go_enter Tryz.func139, Tryz.ntmps139
  go_wp2
  go_loop [3, 4] (fun r i => TDRel n xs r i) (fun _ i => (intOf i + 1).toNat)
  case atStart => exact ⟨n, 0, Nat.le_refl _, rfl, rfl, by omega, by rw [List.drop_of_length_le (by rw [HN.out]; exact Nat.le_refl _)]; rfl⟩
  case round =>
    obtain ⟨k, q, hk, rfl, rfl, hq, he⟩ := hrel
    have HE := Lib.hid he; clear he
    rcases k with _ | j
    · rw [show (((0 : Nat) : Int) - 1) = -1 from rfl]
      have hv := HE.out
      rw [List.drop_zero] at hv
      have HV := Lib.hid hv; clear hv
      go_wp2
      go_ret
      exact ⟨retb (by rw [← HV.out]; exact int_beq0 q), rfl⟩
    · rw [show (((j + 1 : Nat) : Int) - 1) = (j : Int) by omega]
      obtain ⟨b, o, rfl, _, hc⟩ := hr j (by rw [HN.out]; omega)
      have hxb := ho.getD j
      generalize hx : xs.getD j 0 = x at *
      have HS := Lib.hid (td_step (V := 0) (show j < n by omega) HN.out HE.out hx); clear hx
      have hqB : q < B32 := by rw [B32_eq]; omega
      have hor := wd_or hqB hxb
      have hwl := wd_lt hqB hxb
      rw [B32_eq] at hxb
      clear hqB
      generalize wd q x = W at *
      go_wp2
      go_round
      case rel => exact ⟨j, W % 10, by omega, rfl, by go_num, by omega, HS.out⟩
      case measure => simp [intOf]
def nv (neg : Bool) (v : Value) (e : Int) : Value := .agg #[.bool neg, v, .int .i64 e]
def BoolBelow (b : Bool) (w : World) (e : Ending) (w' : World) : Prop := e = .returned (.bool b) ∧ Below w.heap.size w w'
theorem BoolBelow.mk {a b : Bool} {w w' : World} (h : a = b) (hb : Below w.heap.size w w') : BoolBelow b w (.returned (.bool a)) w' := ⟨by rw [h], hb⟩
theorem chkB_long {neg : Bool} {xs : List Nat} {e : Int} (h : 90 < xs.length) : chkB neg xs e = false := by
  unfold chkB; rw [if_neg (by omega)]; exact decide_eq_false (by omega)
theorem chkB_top {neg : Bool} {xs : List Nat} {e : Int} (h : xs.length ≠ 0) (h0 : xs.getD (xs.length - 1) 0 = 0) : chkB neg xs e = false := by
  unfold chkB; rw [if_neg h]; exact decide_eq_false (fun h1 => h1.2.1 h0)
theorem chkB_out {neg : Bool} {xs : List Nat} {e : Int} (h : xs.length ≠ 0) (h0 : e < -1200 ∨ 1200 < e) : chkB neg xs e = false := by
  unfold chkB; rw [if_neg h]; exact decide_eq_false (by omega)
theorem chkB_tens {neg : Bool} {xs : List Nat} {e : Int} (h : xs.length ≠ 0) (h1 : xs.length ≤ 90) (h2 : xs.getD (xs.length - 1) 0 ≠ 0) (h3 : -1200 ≤ e) (h4 : e ≤ 1200) : chkB neg xs e = !decide (val xs % 10 = 0) := by
  unfold chkB; rw [if_neg h]
  by_cases h5 : val xs % 10 = 0
  · rw [decide_eq_false (fun h6 => h6.2.2.2.2 h5), decide_eq_true h5]; rfl
  · rw [decide_eq_true ⟨h1, h2, h3, h4, h5⟩, decide_eq_false h5]; rfl
set_option maxHeartbeats 2000000 in
theorem check_any (neg : Bool) (ad : Option Addr) (n cap : Nat) (xs : List Nat) (e : Int) (w : World) (hn : xs.length = n) (hcap : n ≤ cap) (hm : n ≤ 1000000000) (ho : Okl xs) (hr : Rd w ad xs) :
    Calls Tryz.prog 90 #[.agg #[.bool neg, .slice ad n cap, .int .i64 e]] w (BoolBelow (chkB neg xs e) w) := by
  have hbl : Below w.heap.size w (w.alloc (.cells #[.bool neg, .slice ad n cap, .int .i64 e] 24)) := (Below.refl _ _).alloc (Nat.le_refl _) _
  have HB := Lib.hid hbl
  have KT := Lib.hid (tenDivides_any ad n cap xs _ hn hcap hm ho (hr.below hbl))
  clear hbl
  by_cases h0 : n = 0
  · subst h0
    have hx : xs = [] := List.eq_nil_of_length_eq_zero hn
    subst hx
    clear hr KT
    have HN := Lib.hid hn; clear hn
    cases neg
    · have HC := Lib.hid (chkB_nil (neg := false) (e := e))
      by_cases he : e = 0
      · subst he
        go_enter Tryz.func90, Tryz.ntmps90
        go_wp2
        go_ret
        exact BoolBelow.mk (by rw [HC.out]; rfl) HB.out
      · have he' : (e == 0) = false := by rw [beq_eq_false_iff_ne]; exact he
        go_enter Tryz.func90, Tryz.ntmps90
        go_wp2
        go_ret
        exact BoolBelow.mk (by rw [HC.out]; simp [he]) HB.out
    · have HC := Lib.hid (chkB_nil (neg := true) (e := e))
      go_enter Tryz.func90, Tryz.ntmps90
      go_wp2
      go_ret
      exact BoolBelow.mk (by rw [HC.out]; rfl) HB.out
  · have h0' : xs.length ≠ 0 := by omega
    have hnb : ((n : Int) == 0) = false := by rw [beq_eq_false_iff_ne]; omega
    by_cases h1 : 90 < n
    · have HC := Lib.hid (chkB_long (neg := neg) (e := e) (show 90 < xs.length by omega))
      have h1' : (90 : Int) < (n : Int) := by omega
      have HN := Lib.hid hn; clear hn h0'
      go_enter Tryz.func90, Tryz.ntmps90
      go_wp2
      go_ret
      exact BoolBelow.mk (by rw [HC.out]) HB.out
    · have h1' : ¬ (90 : Int) < (n : Int) := by omega
      obtain ⟨b, o, rfl, hlt, hc⟩ := hr (n - 1) (by omega)
      have hoff : ((n : Int) - 1).toNat = n - 1 := by omega
      have hc2 : (w.alloc (.cells #[.bool neg, .slice (some ⟨b, o, none⟩) n cap, .int .i64 e] 24)).cell? ⟨b, o + (n - 1), none⟩ = some (.int .u32 ((xs.getD (n - 1) 0 : Nat) : Int)) := by
        rw [HB.out.cell (p := ⟨b, o + (n - 1), none⟩) hlt]; exact hc
      have hxb : xs.getD (n - 1) 0 < 4294967296 := ho.getD _
      by_cases h2 : xs.getD (n - 1) 0 = 0
      · have HC := Lib.hid (chkB_top (neg := neg) (e := e) h0' (by rw [hn]; exact h2))
        rw [h2] at hc hc2
        have HN := Lib.hid hn; clear hn h0' h2 hxb
        go_enter Tryz.func90, Tryz.ntmps90
        go_wp2
        go_ret
        exact BoolBelow.mk (by rw [HC.out]) HB.out
      · have h2' : (((xs.getD (n - 1) 0 : Nat) : Int) == 0) = false := by rw [beq_eq_false_iff_ne]; omega
        by_cases h3 : e < -1200 ∨ 1200 < e
        · have HC := Lib.hid (chkB_out (neg := neg) (e := e) h0' h3)
          have HN := Lib.hid hn; clear hn h0' h2
          generalize xs.getD (n - 1) 0 = x at *
          by_cases h4 : e < -1200
          · clear h3
            go_enter Tryz.func90, Tryz.ntmps90
            go_wp2
            go_ret
            exact BoolBelow.mk (by rw [HC.out]) HB.out
          · have h5 : 1200 < e := by omega
            clear h3
            go_enter Tryz.func90, Tryz.ntmps90
            go_wp2
            go_ret
            exact BoolBelow.mk (by rw [HC.out]) HB.out
        · have h4 : ¬ e < -1200 := by omega
          have h5 : ¬ 1200 < e := by omega
          have HC := Lib.hid (chkB_tens (neg := neg) (e := e) h0' (by omega) (by rw [hn]; exact h2) (by omega) (by omega))
          have HN := Lib.hid hn; clear hn h0' h2 h3
          generalize xs.getD (n - 1) 0 = x at *
          go_enter Tryz.func90, Tryz.ntmps90
          go_wp2_with fail
          refine KT.out.mono ?_
          rintro e w' ⟨rfl, rfl⟩
          go_wp2
          go_ret
          exact BoolBelow.mk (by rw [HC.out]) HB.out
end Go.Proofs.YtgolidabjcmofaaGreatDoor
namespace Go.Proofs.YtgolidabjcmofaaGreatDoor
open Go.RowKit
set_option linter.unusedVariables false
set_option linter.unusedSimpArgs false
theorem bcell {W w1 : World} (hb : Below W.heap.size W w1) : (∀ b o, b < W.heap.size → w1.cell? ⟨b, o, none⟩ = W.cell? ⟨b, o, none⟩) ∧ (∀ b o, b < W.heap.size → w1.frozen? ⟨b, o, none⟩ = W.frozen? ⟨b, o, none⟩) :=
  ⟨fun b o h => hb.cell (p := ⟨b, o, none⟩) h, fun b o h => hb.frozen (p := ⟨b, o, none⟩) h⟩
def NumBelow (neg : Bool) (v : Value) (x : Int) (w : World) (e : Ending) (w' : World) : Prop := e = .returned (.agg #[.bool neg, v, .int .i64 x]) ∧ Below w.heap.size w w'
set_option maxHeartbeats 2000000 in
theorem orZero_yes (neg : Bool) (ad : Option Addr) (n cap : Nat) (xs : List Nat) (e : Int) (w : World) (hn : xs.length = n) (hcap : n ≤ cap) (hm : n ≤ 1000000000) (ho : Okl xs) (hr : Rd w ad xs) (h : chkB neg xs e = true) :
    Calls Tryz.prog 97 #[.agg #[.bool neg, .slice ad n cap, .int .i64 e]] w (NumBelow neg (.slice ad n cap) e w) := by
  have hbl : Below w.heap.size w ((w.alloc (.cells #[.bool neg, .slice ad n cap, .int .i64 e] 24)).alloc (.cells #[.bool false, .slice none 0 0, .int .i64 0] 24)) := ((Below.refl _ _).alloc (Nat.le_refl _) _).alloc (by simp) _
  have HB := Lib.hid hbl
  have K := Lib.hid (check_any neg ad n cap xs e _ hn hcap hm ho (hr.below hbl))
  clear hbl
  have H := Lib.hid h; clear h
  have HN := Lib.hid hn; clear hn
  go_enter Tryz.func97, Tryz.ntmps97
  go_wp2_with fail
  refine K.out.mono ?_
  rintro r w' ⟨rfl, hb⟩
  rw [H.out]
  obtain ⟨hc, hf⟩ := bcell hb
  have hz : w.heap.size + 1 < w'.heap.size := by have := hb.size; simp at this; omega
  have HB2 := Lib.hid hb; clear hb
  go_wp2
  have HB3 := HB.out.trans (HB2.out.mono (by simp; omega))
  exact bodyPost_ret (v := .agg #[.bool neg, .slice ad n cap, .int .i64 e]) (by simp [results, Tryz.results97, go_sem, hc, hf, hz]) rfl ⟨rfl, ((HB3.setCell (by simp) _).setCell (by simp) _).setCell (by simp) _⟩
def IntBelow (i : Int) (w : World) (e : Ending) (w' : World) : Prop := e = .returned (.int .i64 i) ∧ Below w.heap.size w w'
end Go.Proofs.YtgolidabjcmofaaGreatDoor
namespace Go.Proofs.YtgolidabjcmofaaGreatDoor
open Go.RowKit
set_option linter.unusedVariables false
set_option linter.unusedSimpArgs false
def MadePost (w0 : World) (l : List Ent) (L : Nat) (neg : Bool) (m : Nat) (e : Int) (ok : Bool) (r : Ending) (w' : World) : Prop :=
  ∃ v, r = .returned (.tuple #[.agg #[.bool neg, v, .int .i64 e], .bool ok]) ∧ Ctx w0 w' (⟨v, L, m, limbs m⟩ :: l)
theorem ent_nil (w : World) (L : Nat) : Ent.Ok w ⟨.slice none 0 0, L, 0, limbs 0⟩ := ⟨none, 0, rfl, Nat.le_refl _, by simp [limbs_zero], by rw [limbs_zero]; exact Okl.nil, by rw [limbs_zero]; exact Rd.nil _ _, by rw [limbs_zero]; rfl⟩
theorem Ctx.drop1 {w0 w : World} {l : List Ent} {x : Ent} (h : Ctx w0 w (x :: l)) : Ctx w0 w l := ⟨h.below, fun y hy => h.all y (List.mem_cons_of_mem _ hy)⟩
theorem Ctx.low {w0 w w1 : World} {l : List Ent} (h : Ctx w0 w l) (h1 : Ctx w w1 l) : Ctx w0 w1 l := ⟨below_on h.below h1.below, h1.all⟩
theorem Ctx.again {w0 w : World} {l : List Ent} (h : Ctx w0 w l) : Ctx w w l := ⟨Below.refl _ _, h.all⟩
theorem Ctx.back {w0 w2 w1 : World} {l : List Ent} (hb : Below w0.heap.size w0 w2) (h2 : Ctx w2 w1 l) : Ctx w0 w1 l := ⟨below_on hb h2.below, h2.all⟩
theorem Rd.setBox {w : World} {ad : Option Addr} {xs : List Nat} {g j : Nat} {x : Value} (h : Rd w ad xs) (hc : w.cell? ⟨g, j, none⟩ = some x) (hx : ∀ n : Int, x ≠ .int .u32 n) (v : Value) : Rd (w.setCell ⟨g, j, none⟩ v) ad xs := by
  intro i hi
  obtain ⟨b, o, e, hb, hcell⟩ := h i hi
  refine ⟨b, o, e, by simpa [World.setCell] using hb, ?_⟩
  rw [World.cell?_setCell_other (h := ?_)]
  · exact hcell
  · intro heq
    rw [heq, hcell] at hc
    exact hx _ (Option.some.inj hc).symm
theorem Ctx.setBox {w0 w : World} {l : List Ent} {g j : Nat} {x : Value} (h : Ctx w0 w l) (hg : w0.heap.size ≤ g) (hc : w.cell? ⟨g, j, none⟩ = some x) (hx : ∀ n : Int, x ≠ .int .u32 n) (v : Value) : Ctx w0 (w.setCell ⟨g, j, none⟩ v) l :=
  ⟨h.below.setCell hg v, fun y hy => by
    obtain ⟨ad, cap, h1, h2, h3, h4, h5, h6⟩ := h.all y hy
    exact ⟨ad, cap, h1, h2, h3, h4, h5.setBox hc hx v, h6⟩⟩
theorem Ctx.box3 {w0 w : World} {l : List Ent} {g : Nat} {b : Bool} {a : Option Addr} {n c : Nat} {x : Int} (h : Ctx w0 w l) (hg : w0.heap.size ≤ g)
    (c0 : w.cell? ⟨g, 0, none⟩ = some (.bool b)) (c1 : w.cell? ⟨g, 1, none⟩ = some (.slice a n c)) (c2 : w.cell? ⟨g, 2, none⟩ = some (.int .i64 x)) (v0 v1 v2 : Value) :
    Ctx w0 (((w.setCell ⟨g, 0, none⟩ v0).setCell ⟨g, 1, none⟩ v1).setCell ⟨g, 2, none⟩ v2) l := by
  have d1 : (w.setCell ⟨g, 0, none⟩ v0).cell? ⟨g, 1, none⟩ = some (.slice a n c) := by rw [World.cell?_setCell_other (h := by simp)]; exact c1
  have d2 : ((w.setCell ⟨g, 0, none⟩ v0).setCell ⟨g, 1, none⟩ v1).cell? ⟨g, 2, none⟩ = some (.int .i64 x) := by
    rw [World.cell?_setCell_other (h := by simp), World.cell?_setCell_other (h := by simp)]; exact c2
  exact ((h.setBox hg c0 (fun _ => by simp) v0).setBox hg d1 (fun _ => by simp) v1).setBox hg d2 (fun _ => by simp) v2
set_option maxHeartbeats 4000000 in
theorem make_yes {w0 w : World} {l : List Ent} {v : Value} {L N : Nat} {xs : List Nat} (h : Ctx w0 w l) (i : Nat) (hi : l[i]? = some ⟨v, L, N, xs⟩) (hL : L ≤ 1000000) (neg : Bool) (e : Int)
    (m k : Nat) (hN : N = m * tenN k) (hm : m % 10 ≠ 0) (hlen : (limbs m).length ≤ 90) (hlo : -1200 ≤ e + (k : Int)) (hhi : e + (k : Int) ≤ 1200) :
    Calls Tryz.prog 159 #[.bool neg, v, .int .i64 e] w (MadePost w0 l L neg m (e + (k : Int)) true) := by
  have hb1 : Below w.heap.size w (w.alloc (.cells #[.bool false, .slice none 0 0, .int .i64 0] 24)) := (Below.refl _ _).alloc (Nat.le_refl _) _
  have h1 := h.step hb1
  have hW := Lib.hid h.below.size
  have K := Lib.hid (trim_c h1.again i hi (by omega))
  have H1 := Lib.hid h1.below
  have HB1 := Lib.hid hb1
  have HC := Lib.hid (chkB_mk (neg := neg) hm hlen hlo hhi)
  have hne : m ≠ 0 := by intro h0; rw [h0] at hm; exact hm rfl
  have hlb : (((limbs m).length : Int) == 0) = false := by
    rw [beq_eq_false_iff_ne]
    intro h0
    exact hne ((limbs_nil_iff m).1 (List.eq_nil_of_length_eq_zero (by omega)))
  have hN0 : N ≠ 0 := by rw [hN]; exact Nat.mul_ne_zero hne (tenN_ne _)
  have HM := Lib.hid hm
  have HE := Lib.hid hN
  have HLEN := Lib.hid hlen
  have he1 : ¬ (1200 < e) := by omega
  clear h h1 hi hb1 hne hm hN hlen
  go_enter Tryz.func159, Tryz.ntmps159
  go_wp2_with fail
  refine K.out.mono ?_
  rintro r w1 ⟨t, m', k', rfl, q1, q2, q3, hk4, h2⟩
  obtain ⟨rfl, rfl⟩ : m = m' ∧ k = k' := ten_unique (by rw [← q1, ← HE.out]) HM.out (q3 hN0)
  have hv := h2.get 0 rfl
  obtain ⟨ad, cap, rfl, a2, a3, a4, a5, a6⟩ := hv
  obtain ⟨hc, hf⟩ := bcell h2.below
  have hz : w.heap.size < w1.heap.size := by have := h2.below.size; simp at this; omega
  have H2 := Lib.hid h2; clear h2 q1 q2 q3
  have KC := Lib.hid (check_any neg ad (limbs m).length cap (limbs m) (e + (k : Int)) (w1.alloc (.cells #[.bool neg, .slice ad (limbs m).length cap, .int .i64 (e + (k : Int))] 24)) rfl a2 (by have := HLEN.out; omega) a4 (a5.below ((Below.refl _ _).alloc (Nat.le_refl _) _)))
  have A5 := Lib.hid a5
  have A6 := Lib.hid a6
  clear a3 a4 a5 a6
  generalize hn : (limbs m).length = n at *
  have HN := Lib.hid hn; clear hn
  have hsum : IntKind.i64.wrap (e + (k : Int)) = e + (k : Int) := IntWalk.i64_in _ (by omega)
  go_wp2_with fail
  refine KC.out.mono ?_
  rintro r w2 ⟨rfl, hb2⟩
  rw [HC.out]
  obtain ⟨hc2, hf2⟩ := bcell hb2
  have hz2 : w1.heap.size < w2.heap.size := by have := hb2.size; simp at this; omega
  have hzz : w.heap.size < w1.heap.size + 1 := by omega
  have HB2 := Lib.hid hb2; clear hb2
  go_wp2
  have H3 := Ctx.back H1.out H2.out
  have H4 := (H3.step ((Below.refl _ _).alloc (Nat.le_refl _) (.cells #[.bool neg, .slice ad n cap, .int .i64 (e + (k : Int))] 24))).step HB2.out
  refine bodyPost_ret (v := .tuple #[.agg #[.bool neg, .slice ad n cap, .int .i64 (e + (k : Int))], .bool true]) (by simp [results, Tryz.results159, go_sem, hc, hc2, hz, hzz]) rfl ⟨_, rfl, ?_⟩
  exact H4.box3 hW.out (b := false) (a := none) (n := 0) (c := 0) (x := 0) (by simp [hc, hc2, hzz, hz, World.cell?_alloc_lt]) (by simp [hc, hc2, hzz, hz, World.cell?_alloc_lt]) (by simp [hc, hc2, hzz, hz, World.cell?_alloc_lt]) _ _ _
theorem chkB_wide {neg : Bool} {m : Nat} {e : Int} (hm : m ≠ 0) (h : ¬ ((limbs m).length ≤ 90 ∧ -1200 ≤ e ∧ e ≤ 1200)) : chkB neg (limbs m) e = false := by
  unfold chkB
  rw [if_neg (fun h0 => hm ((limbs_nil_iff m).1 (List.eq_nil_of_length_eq_zero h0)))]
  exact decide_eq_false (fun h1 => h ⟨h1.1, h1.2.2.1, h1.2.2.2.1⟩)
set_option maxHeartbeats 4000000 in
theorem make_no {w0 w : World} {l : List Ent} {v : Value} {L N : Nat} {xs : List Nat} (h : Ctx w0 w l) (i : Nat) (hi : l[i]? = some ⟨v, L, N, xs⟩) (hL : L ≤ 1000000) (neg : Bool) (e : Int)
    (m k : Nat) (hN : N = m * tenN k) (hm : m % 10 ≠ 0) (hno : ¬ ((limbs m).length ≤ 90 ∧ -1200 ≤ e + (k : Int) ∧ e + (k : Int) ≤ 1200)) (hE : -9223372036854775808 ≤ e) :
    Calls Tryz.prog 159 #[.bool neg, v, .int .i64 e] w (MadePost w0 l L false 0 0 false) := by
  have hb1 : Below w.heap.size w (w.alloc (.cells #[.bool false, .slice none 0 0, .int .i64 0] 24)) := (Below.refl _ _).alloc (Nat.le_refl _) _
  have h1 := h.step hb1
  have hW := Lib.hid h.below.size
  have K := Lib.hid (trim_c h1.again i hi (by omega))
  have H1 := Lib.hid h1.below
  have HB1 := Lib.hid hb1
  have hne : m ≠ 0 := by intro h0; rw [h0] at hm; exact hm rfl
  have HC := Lib.hid (chkB_wide (neg := neg) hne hno)
  have hlb : (((limbs m).length : Int) == 0) = false := by
    rw [beq_eq_false_iff_ne]
    intro h0
    exact hne ((limbs_nil_iff m).1 (List.eq_nil_of_length_eq_zero (by omega)))
  have hN0 : N ≠ 0 := by rw [hN]; exact Nat.mul_ne_zero hne (tenN_ne _)
  have HM := Lib.hid hm
  have HE := Lib.hid hN
  have HLO := Lib.hid hE
  clear h h1 hi hb1 hne hm hN hno hE
  by_cases he1 : 1200 < e
  · go_enter Tryz.func159, Tryz.ntmps159
    go_wp2_with fail
    refine K.out.mono ?_
    rintro r w1 ⟨t, m', k', rfl, q1, q2, q3, hk4, h2⟩
    obtain ⟨rfl, rfl⟩ : m = m' ∧ k = k' := ten_unique (by rw [← q1, ← HE.out]) HM.out (q3 hN0)
    have hv := h2.get 0 rfl
    obtain ⟨ad, cap, rfl, _⟩ := hv
    obtain ⟨hc, hf⟩ := bcell h2.below
    have hz : w.heap.size < w1.heap.size := by have := h2.below.size; simp at this; omega
    have H2 := Lib.hid h2; clear h2 q1 q2 q3
    generalize (limbs m).length = n at *
    go_wp2
    have H3 := Ctx.back H1.out H2.out
    refine bodyPost_ret (v := .tuple #[.agg #[.bool false, .slice none 0 0, .int .i64 0], .bool false]) (by simp [results, Tryz.results159, go_sem, hc]) rfl ⟨_, rfl, ?_⟩
    have H4 := H3.box3 hW.out (b := false) (a := none) (n := 0) (c := 0) (x := 0) (by simp [hc]) (by simp [hc]) (by simp [hc]) (.bool false) (.slice none 0 0) (.int .i64 0)
    exact (H4.drop1).push (ent_nil _ _)
  · go_enter Tryz.func159, Tryz.ntmps159
    go_wp2_with fail
    refine K.out.mono ?_
    rintro r w1 ⟨t, m', k', rfl, q1, q2, q3, hk4, h2⟩
    obtain ⟨rfl, rfl⟩ : m = m' ∧ k = k' := ten_unique (by rw [← q1, ← HE.out]) HM.out (q3 hN0)
    have hv := h2.get 0 rfl
    obtain ⟨ad, cap, rfl, a2, a3, a4, a5, a6⟩ := hv
    obtain ⟨hc, hf⟩ := bcell h2.below
    have hz : w.heap.size < w1.heap.size := by have := h2.below.size; simp at this; omega
    have H2 := Lib.hid h2; clear h2 q1 q2 q3
    have hlo := HLO.out
    have hsum : IntKind.i64.wrap (e + (k : Int)) = e + (k : Int) := IntWalk.i64_in _ (by omega)
    clear hlo
    have KC := Lib.hid (check_any neg ad (limbs m).length cap (limbs m) (e + (k : Int)) (w1.alloc (.cells #[.bool neg, .slice ad (limbs m).length cap, .int .i64 (e + (k : Int))] 24)) rfl a2 (by omega) a4 (a5.below ((Below.refl _ _).alloc (Nat.le_refl _) _)))
    clear a3 a4 a5 a6
    generalize hn : (limbs m).length = n at *
    have HN := Lib.hid hn; clear hn
    go_wp2_with fail
    refine KC.out.mono ?_
    rintro r w2 ⟨rfl, hb2⟩
    rw [HC.out]
    obtain ⟨hc2, hf2⟩ := bcell hb2
    have hz2 : w1.heap.size < w2.heap.size := by have := hb2.size; simp at this; omega
    have hzz : w.heap.size < w1.heap.size + 1 := by omega
    have HB2 := Lib.hid hb2; clear hb2
    go_wp2
    have H3 := Ctx.back H1.out H2.out
    have H4 := (H3.step ((Below.refl _ _).alloc (Nat.le_refl _) (.cells #[.bool neg, .slice ad n cap, .int .i64 (e + (k : Int))] 24))).step HB2.out
    refine bodyPost_ret (v := .tuple #[.agg #[.bool false, .slice none 0 0, .int .i64 0], .bool false]) (by simp [results, Tryz.results159, go_sem, hc, hc2, hz, hzz]) rfl ⟨_, rfl, ?_⟩
    have H5 := H4.box3 hW.out (b := false) (a := none) (n := 0) (c := 0) (x := 0) (by simp [hc, hc2, hzz, hz, World.cell?_alloc_lt]) (by simp [hc, hc2, hzz, hz, World.cell?_alloc_lt]) (by simp [hc, hc2, hzz, hz, World.cell?_alloc_lt]) (.bool false) (.slice none 0 0) (.int .i64 0)
    exact (H5.drop1).push (ent_nil _ _)
end Go.Proofs.YtgolidabjcmofaaGreatDoor
namespace Go.Proofs.YtgolidabjcmofaaGreatDoor
open Go.RowKit Go.Sort
set_option linter.unusedVariables false
set_option linter.unusedSimpArgs false
theorem txt_list (l : List Nat) : (txt l).data.toList = l.map UInt8.ofNat := by simp [txt]
theorem ten_pow (k : Nat) : tenN (10 * k) = (10 ^ 10) ^ k := Nat.pow_mul _ _ _
theorem dec_len90 {xs : List Nat} (ho : Okl xs) (h : xs.length ≤ 90) : (dec (val xs)).length ≤ 900 := by
  refine dec_len_le (by omega) ?_
  have h1 := val_lt ho
  have h2 : B32 ^ xs.length ≤ B32 ^ 90 := Nat.pow_le_pow_right B32_pos h
  have h3 : B32 ^ 90 ≤ tenN (10 * 90) := by
    rw [ten_pow]
    exact Nat.pow_le_pow_left (by decide) 90
  exact Nat.lt_of_lt_of_le h1 (Nat.le_trans h2 h3)
structure NumOk (w : World) (neg : Bool) (ad : Option Addr) (n cap : Nat) (xs : List Nat) (e : Int) : Prop where
  len : xs.length = n
  cap : n ≤ cap
  ok : Okl xs
  rd : Rd w ad xs
  chk : chkB neg xs e = true
theorem NumOk.below {w w' : World} {neg : Bool} {ad : Option Addr} {n cap : Nat} {xs : List Nat} {e : Int} (h : NumOk w neg ad n cap xs e) (hb : Below w.heap.size w w') : NumOk w' neg ad n cap xs e :=
  ⟨h.len, h.cap, h.ok, h.rd.below hb, h.chk⟩
theorem NumOk.n90 {w : World} {neg : Bool} {ad : Option Addr} {n cap : Nat} {xs : List Nat} {e : Int} (h : NumOk w neg ad n cap xs e) : n ≤ 90 := by have := (chkB_bounds h.chk).1; have := h.len; omega
theorem NumOk.lo {w : World} {neg : Bool} {ad : Option Addr} {n cap : Nat} {xs : List Nat} {e : Int} (h : NumOk w neg ad n cap xs e) : -1200 ≤ e ∧ e ≤ 1200 := (chkB_bounds h.chk).2
theorem NumOk.same {w : World} {neg : Bool} {ad : Option Addr} {n cap : Nat} {xs : List Nat} {e : Int} (h : NumOk w neg ad n cap xs e) (W : World) (hb : Below w.heap.size w W) :
    Calls Tryz.prog 97 #[.agg #[.bool neg, .slice ad n cap, .int .i64 e]] W (NumBelow neg (.slice ad n cap) e W) :=
  orZero_yes neg ad n cap xs e W h.len h.cap (by have := h.n90; omega) h.ok (h.rd.below hb) h.chk
theorem below_drew {B : Nat} {a w : World} (h : Below B a w) : Below B a w.drew := h.trans ⟨rfl, rfl, rfl, Nat.le_refl _, fun _ _ => rfl⟩
end Go.Proofs.YtgolidabjcmofaaGreatDoor
namespace Go.Proofs.YtgolidabjcmofaaGreatDoor
open Go.RowKit Go.Sort
set_option linter.unusedVariables false
set_option linter.unusedSimpArgs false
end Go.Proofs.YtgolidabjcmofaaGreatDoor
