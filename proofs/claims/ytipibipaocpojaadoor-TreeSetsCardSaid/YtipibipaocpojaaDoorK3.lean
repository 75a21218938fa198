/- The walk of tree's all: it hands on every node of a tree, each ahead of those in it. -/
import Derived.Test.YtipibipaocpojaaDoorK2
import Derived.Sort.LoopGhostIn
namespace Go.Proofs.YtipibipaocpojaaDoor
open Go.RowKit Go.Shelf
set_option linter.unusedVariables false
set_option linter.unusedSimpArgs false
attribute [local go_sem] Oper.semAt_some

/-- What is owned, opened: its block, its last place, what is left without it. -/
theorem own_open {w : World} {B : Nat} {e : TypeId} {v : Value} {n : Nat} {xs : List Value} (h : w.ownsRow B e 1 v (n + 1) xs) :
    ∃ g cap, v = .slice (some ⟨g, 0, none⟩) (n + 1) cap ∧ B ≤ g ∧ g < w.heap.size ∧ n + 1 ≤ cap ∧ w.cell? ⟨g, n, none⟩ = xs[n]? ∧ w.frozen? ⟨g, n, none⟩ = false ∧
      (∀ x, (w.setCell ⟨g, n, none⟩ x).ownsRow B e 1 v (n + 1) (xs.set n x)) ∧ w.ownsRow B e 1 (.slice (some ⟨g, 0, none⟩) n cap) n (xs.take n) := by
  rcases h.2 with ⟨_, h0⟩ | ⟨g, cap, cur, rfl, hB, hg, hc, hm, hs, ht⟩
  · omega
  · have hlt : g < w.heap.size := (Array.getElem?_eq_some_iff.1 hg).1
    have hsz : cur.size = cap := by omega
    have hx : xs[n]? = cur[n]? := by rw [← ht, List.getElem?_take]; simp
    refine ⟨g, cap, rfl, hB, hlt, hc, ?_, ?_, fun x => ⟨?_, .inr ⟨g, cap, cur.setIfInBounds n x, rfl, hB, ?_, hc, hm, ?_, ?_⟩⟩, ⟨?_, .inr ⟨g, cap, cur, rfl, hB, hg, by omega, hm, hs, ?_⟩⟩⟩
    · rw [hx]; simp [World.cell?, hg]
    · simp [World.frozen?, hg]
    · rw [List.length_set]; exact h.1
    · simp [World.setCell, Array.getElem?_modify, hg]
    · simp; omega
    · rw [← ht, Array.toList_setIfInBounds, List.take_set]
    · rw [List.length_take, h.1]; omega
    · rw [← ht, List.take_take]; congr 1; omega
theorem own_one (w : World) (B : Nat) (e : TypeId) (x : Value) (hB : B ≤ w.heap.size) : (w.alloc (.cells #[x] e)).ownsRow B e 1 (.slice (some ⟨w.heap.size, 0, none⟩) 1 1) 1 [x] :=
  ⟨rfl, .inr ⟨w.heap.size, 1, #[x], rfl, hB, heap_alloc_new w _, Nat.le_refl _, by decide, rfl, rfl⟩⟩

theorem own_same {w w' : World} {B : Nat} {e : TypeId} {v : Value} {n : Nat} {xs : List Value} (h : w.ownsRow B e 1 v n xs) (hk : ∀ k, v.ownBlock = some k → k < w.heap.size → w'.heap[k]? = w.heap[k]?) : w'.ownsRow B e 1 v n xs := by
  refine ⟨h.1, ?_⟩
  rcases h.2 with h2 | ⟨g, cap, cur, rfl, hB, hg, rest⟩
  · exact .inl h2
  · refine .inr ⟨g, cap, cur, rfl, hB, ?_, rest⟩
    rw [hk g rfl (Array.getElem?_eq_some_iff.1 hg).1]; exact hg
theorem KeepB.grown {V : Nat → Prop} {a w w' : World} {row : Option Nat} (h : KeepB V a w) (hg : w.grownBy w' row) (hr : ∀ k, row = some k → a.heap.size ≤ k) : KeepB V a w' :=
  ⟨hg.os.trans h.os, hg.tape.trans h.tape, hg.output.trans h.output, Nat.le_trans h.size hg.size, fun k h1 h2 => by
    rw [hg.block k (Nat.lt_of_lt_of_le h1 h.size) (fun e => by have := hr k e.symm; omega)]; exact h.block k h1 h2⟩
theorem set_alloc_same (w : World) (o : Obj) {g : Nat} (hg : g < w.heap.size) (i : Nat) (x : Value) : ((w.alloc o).setCell ⟨g, i, none⟩ x).heap[g]? = (w.setCell ⟨g, i, none⟩ x).heap[g]? := by
  simp only [World.setCell, Array.getElem?_modify, Below.heap_alloc w o g hg]
theorem info_slices : (Tryd.prog.info? 26).map (fun i => (i.zero, i.size, i.bytes)) = some (some (.slice none 0 0), 1, 24) := by kernel_rfl
/-- The eight cells of a box that holds a tree. -/
def BoxT (w : World) (b : Nat) (c : Cel) : Prop := w.heap[b]? = some (.cells c.cells.toArray 28)
theorem BoxT.cells {w : World} {b : Nat} {c : Cel} (h : BoxT w b c) :
    w.cell? ⟨b, 0, none⟩ = some (.int .i64 c.k) ∧ w.cell? ⟨b, 1, none⟩ = some (.bool c.b) ∧ w.cell? ⟨b, 2, none⟩ = some (.bool c.neg) ∧ w.cell? ⟨b, 3, none⟩ = some (.slice c.ma c.mn c.mc) ∧
    w.cell? ⟨b, 4, none⟩ = some (.int .i64 c.e) ∧ w.cell? ⟨b, 5, none⟩ = some (.string c.s) ∧ w.cell? ⟨b, 6, none⟩ = some (.slice c.ka c.kn c.kc) ∧ w.cell? ⟨b, 7, none⟩ = some (.slice c.va c.vn c.vc) := by
  unfold BoxT at h
  simp [World.cell?, h, Cel.cells]
theorem BoxT.lt {w : World} {b : Nat} {c : Cel} (h : BoxT w b c) : b < w.heap.size := (Array.getElem?_eq_some_iff.1 h).1
theorem BoxT.on {w w' : World} {b : Nat} {c : Cel} (h : BoxT w b c) (hb : w'.heap[b]? = w.heap[b]?) : BoxT w' b c := by unfold BoxT; rw [hb]; exact h
theorem BoxT.free {w : World} {b : Nat} {c : Cel} (h : BoxT w b c) (i : Nat) : w.frozen? ⟨b, i, none⟩ = false := by
  unfold BoxT at h; simp [World.frozen?, h]

/-- What holds from round to round. -/
def AR (w00 : World) (xs : List (Nat × MT)) (V : Nat → Prop) (I : List (Nat × MT) → World → Prop) (W : World) (k : Nat) (v : Value) (wr : World) : Prop :=
  ∃ (pre : List (Nat × MT)) (R : List SE), xs = pre ++ outR (R.map SE.l) ∧ stepsR (R.map SE.l) ≤ k ∧ wr.ownsRow W.heap.size 26 1 v R.length (R.reverse.map SE.val) ∧ (∀ s ∈ R, SEOk w00 s) ∧ KeepB V W wr ∧ I pre wr ∧ R.length ≤ pre.length

/-- One more at the end of the list of places, within a fence. -/
theorem wpi_app (w : World) {F : Fence} {m : Nat} {ops : Array Oper} {rest : List Oper} {o : Oper} {a : Act} {Q : Exit → Act → World → Prop}
    (hg : o.guard = none) (s x : Operand) (hop : o.op = .call { callee := .builtin .append, args := #[s, x], argTypes := #[66, 66] })
    (B : Nat) (v : Value) (n : Nat) (xs : List Value) (hs : a.eval s = v) (hown : w.ownsRow B 26 1 v n xs) (g : Nat) (y : SE) (hx : a.eval x = .slice (some ⟨g, 0, none⟩) 1 1) (hc : w.cell? ⟨g, 0, none⟩ = some y.val)
    (hn : n ≤ 1000000000) (hB : B ≤ w.heap.size)
    (h : ∀ v' w', w'.ownsRow B 26 1 v' (n + 1) (xs ++ [y.val]) → w.grownBy w' v.ownBlock → wpListIn F m Tryd.prog ops Q rest (a.put o.dst v') w') :
    wpListIn F m Tryd.prog ops Q (o :: rest) a w := by
  obtain ⟨i0, hi, hz0, hz1, hz2⟩ := info_parts info_slices
  refine wpListIn_append_own w hg s x 66 hop B 26 i0 (.slice none 0 0) 1 24 Tryd.underlying66 hi hz0 hz1 hz2 rfl (by decide) v n xs hs hown ⟨g, 0, none⟩ 1 1 [y.val] hx rfl ?_ ?_ (by unfold maxLen; omega) (by omega) hB (fun v' w' h1 h2 _ => h v' w' h1 h2)
  · intro j u hj
    match j, hj with
    | 0, hj => simp at hj; subst hj; simpa [Addr.add] using hc
  · intro u hu; simp at hu; subst hu; rfl

set_option maxHeartbeats 4000000 in
set_option maxRecDepth 100000 in
theorem all1_seq (t : MT) (tb : Nat) (w00 w : World) (m : Nat) (hR : Rep w00 t) (hb : Below w00.heap.size w00 w) (htb : BoxT w tb t.c) (hn : w00.heap.size ≤ tb) :
    SeqAll m 34 #[.pointer (some ⟨tb, 0, none⟩)] (t.pre 1) w00.heap.size tb w := by
  intro l V I Ix W hW hV hI hIx hN hY h0
  refine callsIn_of_wp Tryd.func34 rfl trivial ?_ rfl
  simp only [Tryd.ntmps34, List.size_toArray, List.length_cons, List.length_nil, Nat.reduceAdd, Nat.reduceSub, Array.replicate_succ, Array.replicate_zero, List.push_toArray, List.append_toArray, List.nil_append, List.cons_append]
  have hlt := htb.lt
  have hbox : BoxT W tb t.c := htb.on (hW.block tb hlt)
  obtain ⟨c0, c1, c2, c3, c4, c5, c6, c7⟩ := hbox.cells
  obtain ⟨fn, tmps, assign, body, hy, hRd⟩ := hY [] (1, t) W ⟨outR [t.v], by rw [outR_start]; rfl⟩ (KeepB.refl V W) h0
  have HRD := Lib.hid hRd; clear hRd
  simp only [encT, Cel.val, Int.natCast_one] at hy
  generalize hc : t.c = c at *
  gi_wp2
  refine HRD.out.mono ?_
  rintro e W1 (⟨rfl, hk1, hi1⟩ | ⟨rfl, hk1, hx1⟩)
  · have hnV : ¬ V tb := fun h => (hV tb h).2.2 rfl
    have hbW : BoxT W1 tb c := hbox.on (hk1.block tb hbox.lt hnV)
    obtain ⟨d0, d1, d2, d3, d4, d5, d6, d7⟩ := hbW.cells
    have hsz1 := hk1.size
    have HST := Lib.hid (show AR w00 (t.pre 1) V I W (stepsR [t.v]) (.slice (some ⟨W1.heap.size, 0, none⟩) 1 1) (W1.alloc (.cells #[.slice c.va c.vn c.vc] 26)) from by
      refine ⟨[(1, t)], [t.se], ?_, Nat.le_refl _, ?_, ?_, hk1.alloc _, hI _ W1 _ (fun k h => Below.heap_alloc _ _ _ (by have := (hV k h).2.1; omega)) hi1, Nat.le_refl _⟩
      · rw [outR_start]; rfl
      · rw [← hc]; exact own_one W1 W.heap.size _ _ hsz1
      · intro s hs; simp at hs; subst hs; exact MT.se_ok hR)
    clear c0 c1 c2 c3 c4 c5 c6 c7 hy hbox hk1 hi1 hbW hlt htb
    gi_wp2
    clear d0 d1 d2 d3 d4 d5 d6 d7
    gi_loopg [3] (stepsR [t.v]) (fun k v wr => AR w00 (t.pre 1) V I W k v wr)
    case atStart => exact HST.out
    case round =>
      obtain ⟨pre, R, hxs, hst, ho, hok, hkb, hi, hlen⟩ := hrel
      have HXS := Lib.hid hxs; have HI := Lib.hid hi; have HKB := Lib.hid hkb; have HO := Lib.hid ho; have HOK := Lib.hid hok
      have hN1 := hN _ _ hi
      have hszr := hkb.size
      clear hxs hi hkb ho hok
      cases R with
      | nil =>
        obtain ⟨ad, cap, rfl, _⟩ := own_view HO.out
        have hd : pre = t.pre 1 := by rw [HXS.out]; simp [outR]
        have HD := Lib.hid hd; clear hd
        gi_wp2
        go_end0
        exact ⟨⟨_, rfl⟩, HKB.out, .inl (by rw [← HD.out]; exact HI.out)⟩
      | cons s R =>
        obtain ⟨k, rfl⟩ : ∃ k, gk = k + 1 := ⟨gk - 1, by have := hst; simp only [List.map_cons, stepsR] at this; omega⟩
        have hrv : (s :: R).reverse.map SE.val = R.reverse.map SE.val ++ [s.val] := by simp
        have hlr : (R.reverse.map SE.val).length = R.length := by simp
        have hown : wr.ownsRow W.heap.size 26 1 u3 (R.length + 1) (R.reverse.map SE.val ++ [s.val]) := by rw [← hrv]; exact HO.out
        obtain ⟨g, cap, rfl, hBg, hgl, hcap, hcell, hfz, hset, hpop⟩ := own_open hown
        rw [List.getElem?_append_right (by omega), hlr, Nat.sub_self] at hcell
        have hcell2 : wr.cell? ⟨g, R.length, none⟩ = some (.slice s.ad s.n s.cap) := hcell
        rw [List.take_append_of_le_length (by omega), List.take_of_length_le (by omega)] at hpop
        have hsok := HOK.out s (by simp)
        have HSET := Lib.hid hset; have HPOP := Lib.hid hpop; have HSOK := Lib.hid hsok
        have hRl : R.length ≤ 1000000 := by simp only [List.length_cons] at hlen; omega
        have hRz : (R.length : Int) < ((R.length + 1 : Nat) : Int) := by omega
        simp only [List.length_cons] at hlen
        clear hcell hrv hown hset hpop hsok
        by_cases h0n : s.n = 0
        · have hl0 : s.l = [] := List.eq_nil_of_length_eq_zero (by rw [HSOK.out.ln]; exact h0n)
          have HF := Lib.hid (show AR w00 (t.pre 1) V I W k (.slice (some ⟨g, 0, none⟩) R.length cap) wr from by
            refine ⟨pre, R, ?_, ?_, HPOP.out, fun x hx => HOK.out x (by simp [hx]), HKB.out, HI.out, by omega⟩
            · rw [HXS.out, List.map_cons, hl0, outR_pop]
            · rw [List.map_cons, hl0, stepsR_pop] at hst; omega)
          rw [h0n] at hcell2
          clear hl0 h0n
          generalize R.length = r at *
          generalize s.ad = ad at *
          generalize s.cap = scap at *
          gi_wp2
          gi_roundg k
          case rel => exact HF.out
          case measure => omega
        · obtain ⟨ad, sn, scap, sl⟩ := s
          simp only at h0n hcell2 HSOK
          cases sl with
          | nil => exact absurd HSOK.out.ln.symm (by simpa using h0n)
          | cons x xs =>
            have hln : xs.length + 1 = sn := HSOK.out.ln
            obtain ⟨sm, rfl⟩ : ∃ sm, sn = sm + 1 := ⟨xs.length, hln.symm⟩
            have hxl : xs.length = sm := by omega
            have hsc : sm + 1 ≤ scap := HSOK.out.lc
            obtain ⟨sd, rfl⟩ : ∃ sd, scap = sd + 1 := ⟨scap - 1, by omega⟩
            have hbw : Below w00.heap.size w00 wr := (hb.trans (hW.mono hb.size)).trans (HKB.out.below (by have := hb.size; have := hW.size; omega) (fun k h => (hV k h).1))
            have hrd : RdV wr ad (flat ((x :: xs).map MT.c)) := HSOK.out.rd.on hbw
            obtain ⟨bk, bo, rfl, hbl⟩ := hrd.shape (by rw [flat_len]; simp)
            have hfa := flat_at hrd 0 (by simp) (c := x.c) rfl
            simp only [Nat.zero_mul, Nat.add_zero] at hfa
            obtain ⟨e0, e1, e2, e3, e4, e5, e6, e7⟩ := hfa
            have hxrep := HSOK.out.rp x (by simp)
            have hrdt : RdV w00 (some ⟨bk, bo + 8, none⟩) (flat (xs.map MT.c)) := by
              have := HSOK.out.rd.drop 8
              rw [← flat_tail] at this
              exact this
            generalize hcx : x.c = cx at *
            by_cases hsd : sd = 0
            · subst hsd
              obtain rfl : sm = 0 := by omega
              simp only [Nat.zero_add] at HSOK hcell2
              clear hrdt
              obtain ⟨W2, hW2⟩ : ∃ W2, (wr.setCell ⟨g, R.length, none⟩ (.slice (some ⟨bk, bo, none⟩) 0 0)).alloc (.cells #[.int .i64 cx.k, .bool cx.b, .bool cx.neg, .slice cx.ma cx.mn cx.mc, .int .i64 cx.e, .string cx.s, .slice cx.ka cx.kn cx.kc, .slice cx.va cx.vn cx.vc] 28) = W2 := ⟨_, rfl⟩
              have hVg : ∀ k, V k → k < W.heap.size := fun k h => (hV k h).2.1
              have hk2 : KeepB V W W2 := by rw [← hW2]; exact (HKB.out.setCell (.inr hBg) _).alloc _
              have hs2 : W2.heap.size = wr.heap.size + 1 := by rw [← hW2]; simp [World.setCell]
              have hi2 : I pre W2 := hI pre wr W2 (fun k h => by
                have := hVg k h
                rw [← hW2, Below.heap_alloc _ _ _ (by simp [World.setCell]; omega), Below.heap_setCell _ _ _ _ (by simp; omega)]) HI.out
              have hbox2 : BoxT W2 wr.heap.size cx := by
                unfold BoxT
                rw [← hW2]
                have := heap_alloc_new (wr.setCell ⟨g, R.length, none⟩ (.slice (some ⟨bk, bo, none⟩) 0 0)) (.cells cx.cells.toArray 28)
                simp only [World.setCell, Array.size_modify] at this ⊢
                exact this
              have hown2 : W2.ownsRow W.heap.size 26 1 (.slice (some ⟨g, 0, none⟩) (R.length + 1) cap) (R.length + 1) (R.reverse.map SE.val ++ [.slice (some ⟨bk, bo, none⟩) 0 0]) := by
                have h1 := HSET.out (.slice (some ⟨bk, bo, none⟩) 0 0)
                rw [List.set_append_right _ _ (by omega), hlr, Nat.sub_self, List.set_cons_zero] at h1
                rw [← hW2]; exact h1.alloc _
              have HPF := Lib.hid (show pre ++ [(R.length + 2, x)] <+: t.pre 1 from ⟨outR (x.v :: xs :: R.map SE.l), by rw [HXS.out, List.map_cons, outR_push]; simp⟩)
              obtain ⟨fn2, tmps2, assign2, body2, hy2, hR2⟩ := hY pre (R.length + 2, x) W2 HPF.out hk2 hi2
              simp only [encT, Cel.val, hcx] at hy2
              rw [show (((R.length + 2 : Nat)) : Int) = (R.length : Int) + 2 from rfl] at hy2
              rw [← hW2] at hy2
              have HR2 := Lib.hid hR2; have HW2 := Lib.hid hW2
              clear hR2 hW2
              have HOWN2 := Lib.hid hown2; have HBOX2 := Lib.hid hbox2; have HK2 := Lib.hid hk2
              clear hown2 hbox2 hk2 hi2
              have HLAST := Lib.hid (fun W5 v5 (h1 : W5.ownsRow W.heap.size 26 1 v5 (R.length + 1 + 1) (R.reverse.map SE.val ++ [.slice (some ⟨bk, bo, none⟩) 0 0] ++ [x.se.val])) (h2 : KeepB V W W5) (h3 : I (pre ++ [(R.length + 2, x)]) W5) => (by
                refine ⟨pre ++ [(R.length + 2, x)], x.se :: ⟨some ⟨bk, bo, none⟩, 0, 0, xs⟩ :: R, ?_, ?_, ?_, ?_, h2, h3, ?_⟩
                · rw [HXS.out]; simp only [List.map_cons]; rw [outR_push]; simp [MT.se]
                · simp only [List.map_cons] at hst ⊢; rw [stepsR_push] at hst; show stepsR (x.v :: xs :: _) ≤ k; omega
                · simpa [SE.val] using h1
                · intro y hy
                  rcases List.mem_cons.1 hy with rfl | hy
                  · exact MT.se_ok hxrep
                  · rcases List.mem_cons.1 hy with rfl | hy
                    · exact ⟨hxl, Nat.le_refl _, Nat.zero_le _, by have : xs = [] := List.eq_nil_of_length_eq_zero hxl; subst this; exact RdV.nil _ _, fun y hy => HSOK.out.rp y (by simp [hy])⟩
                    · exact HOK.out y (by simp [hy])
                · simp only [List.length_cons, List.length_append, List.length_nil]; omega : AR w00 (t.pre 1) V I W k v5 W5))
              have hsev : x.se.val = .slice cx.va cx.vn cx.vc := by rw [← hcx]; rfl
              have HSEV := Lib.hid hsev
              clear hsev
              have e0r : (R.length : Int) < ((R.length : Int) + 1) := by omega
              generalize hr : R.length = r at *
              have HRR := Lib.hid hr; clear hr
              gi_wp2
              rw [HW2.out]
              refine HR2.out.mono ?_
              rintro e W3 (⟨rfl, hk3, hi3⟩ | ⟨rfl, hk3, hx3⟩)
              · have hnb : ¬ V wr.heap.size := fun h => by have := hVg _ h; omega
                have hng : ¬ V g := fun h => by have := hVg _ h; omega
                have hb3 := HBOX2.out.on (hk3.block _ (by rw [hs2]; omega) hnb)
                obtain ⟨_, _, _, _, _, _, _, g7⟩ := hb3.cells
                have ho3 := own_same HOWN2.out (w' := W3) (fun k hk hlt => by
                  simp [Value.ownBlock] at hk; subst hk
                  exact hk3.block _ hlt hng)
                have HO3 := Lib.hid ho3; have HK3 := Lib.hid (HK2.out.trans hk3); have HI3 := Lib.hid hi3
                have hs3 := HK3.out.size
                clear hb3 ho3 hk3 hi3 hy2 e0 e1 e2 e3 e4 e5 e6 e7
                gi_wp2_with (gi_at_builtin; refine wpi_app _ rfl _ _ rfl W.heap.size _ (r + 1) _ rfl (HO3.out.alloc _) W3.heap.size x.se rfl (by rw [HSEV.out]; simp) (by omega) (by simp; omega) ?_)
                intro v5 W5 ho5 hg5
                have HF := Lib.hid (HLAST.out W5 v5 (by simpa [List.append_assoc] using ho5) ((HK3.out.alloc _).grown hg5 (fun k hk => by simp [Value.ownBlock] at hk; omega)) (hI _ W3 W5 (fun k h => by
                  have h1 := hVg k h
                  rw [hg5.block k (by simp; omega) (by simp [Value.ownBlock]; omega), Below.heap_alloc _ _ _ (by omega)]) HI3.out))
                clear ho5 hg5
                gi_wp2
                gi_roundg k
                case rel => exact HF.out
                case measure => omega
              · gi_wp2
                refine bodyPost_ret (results_none rfl _ _ _) rfl ?_
                exact ⟨⟨_, rfl⟩, HK2.out.trans hk3, .inr ⟨_, HPF.out, hx3⟩⟩
            · have hsd2 : ¬ sd + 1 = 1 := by omega
              obtain ⟨W2, hW2⟩ : ∃ W2, (wr.setCell ⟨g, R.length, none⟩ (.slice (some ⟨bk, bo + 8, none⟩) sm sd)).alloc (.cells #[.int .i64 cx.k, .bool cx.b, .bool cx.neg, .slice cx.ma cx.mn cx.mc, .int .i64 cx.e, .string cx.s, .slice cx.ka cx.kn cx.kc, .slice cx.va cx.vn cx.vc] 28) = W2 := ⟨_, rfl⟩
              have hVg : ∀ k, V k → k < W.heap.size := fun k h => (hV k h).2.1
              have hk2 : KeepB V W W2 := by rw [← hW2]; exact (HKB.out.setCell (.inr hBg) _).alloc _
              have hs2 : W2.heap.size = wr.heap.size + 1 := by rw [← hW2]; simp [World.setCell]
              have hi2 : I pre W2 := hI pre wr W2 (fun k h => by
                have := hVg k h
                rw [← hW2, Below.heap_alloc _ _ _ (by simp [World.setCell]; omega), Below.heap_setCell _ _ _ _ (by simp; omega)]) HI.out
              have hbox2 : BoxT W2 wr.heap.size cx := by
                unfold BoxT
                rw [← hW2]
                have := heap_alloc_new (wr.setCell ⟨g, R.length, none⟩ (.slice (some ⟨bk, bo + 8, none⟩) sm sd)) (.cells cx.cells.toArray 28)
                simp only [World.setCell, Array.size_modify] at this ⊢
                exact this
              have hown2 : W2.ownsRow W.heap.size 26 1 (.slice (some ⟨g, 0, none⟩) (R.length + 1) cap) (R.length + 1) (R.reverse.map SE.val ++ [.slice (some ⟨bk, bo + 8, none⟩) sm sd]) := by
                have h1 := HSET.out (.slice (some ⟨bk, bo + 8, none⟩) sm sd)
                rw [List.set_append_right _ _ (by omega), hlr, Nat.sub_self, List.set_cons_zero] at h1
                rw [← hW2]; exact h1.alloc _
              have HPF := Lib.hid (show pre ++ [(R.length + 2, x)] <+: t.pre 1 from ⟨outR (x.v :: xs :: R.map SE.l), by rw [HXS.out, List.map_cons, outR_push]; simp⟩)
              obtain ⟨fn2, tmps2, assign2, body2, hy2, hR2⟩ := hY pre (R.length + 2, x) W2 HPF.out hk2 hi2
              simp only [encT, Cel.val, hcx] at hy2
              rw [show (((R.length + 2 : Nat)) : Int) = (R.length : Int) + 2 from rfl] at hy2
              rw [← hW2] at hy2
              have HR2 := Lib.hid hR2; have HW2 := Lib.hid hW2
              clear hR2 hW2
              have HOWN2 := Lib.hid hown2; have HBOX2 := Lib.hid hbox2; have HK2 := Lib.hid hk2
              clear hown2 hbox2 hk2 hi2
              have HLAST := Lib.hid (fun W5 v5 (h1 : W5.ownsRow W.heap.size 26 1 v5 (R.length + 1 + 1) (R.reverse.map SE.val ++ [.slice (some ⟨bk, bo + 8, none⟩) sm sd] ++ [x.se.val])) (h2 : KeepB V W W5) (h3 : I (pre ++ [(R.length + 2, x)]) W5) => (by
                refine ⟨pre ++ [(R.length + 2, x)], x.se :: ⟨some ⟨bk, bo + 8, none⟩, sm, sd, xs⟩ :: R, ?_, ?_, ?_, ?_, h2, h3, ?_⟩
                · rw [HXS.out]; simp only [List.map_cons]; rw [outR_push]; simp [MT.se]
                · simp only [List.map_cons] at hst ⊢; rw [stepsR_push] at hst; show stepsR (x.v :: xs :: _) ≤ k; omega
                · simpa [SE.val] using h1
                · intro y hy
                  rcases List.mem_cons.1 hy with rfl | hy
                  · exact MT.se_ok hxrep
                  · rcases List.mem_cons.1 hy with rfl | hy
                    · exact ⟨hxl, by show sm ≤ sd; omega, by have := HSOK.out.lm; simp only at this; show sm ≤ _; omega, hrdt, fun y hy => HSOK.out.rp y (by simp [hy])⟩
                    · exact HOK.out y (by simp [hy])
                · simp only [List.length_cons, List.length_append, List.length_nil]; omega : AR w00 (t.pre 1) V I W k v5 W5))
              have hsev : x.se.val = .slice cx.va cx.vn cx.vc := by rw [← hcx]; rfl
              have HSEV := Lib.hid hsev
              clear hsev
              have e0r : (R.length : Int) < ((R.length : Int) + 1) := by omega
              generalize hr : R.length = r at *
              have HRR := Lib.hid hr; clear hr
              gi_wp2
              rw [HW2.out]
              refine HR2.out.mono ?_
              rintro e W3 (⟨rfl, hk3, hi3⟩ | ⟨rfl, hk3, hx3⟩)
              · have hnb : ¬ V wr.heap.size := fun h => by have := hVg _ h; omega
                have hng : ¬ V g := fun h => by have := hVg _ h; omega
                have hb3 := HBOX2.out.on (hk3.block _ (by rw [hs2]; omega) hnb)
                obtain ⟨_, _, _, _, _, _, _, g7⟩ := hb3.cells
                have ho3 := own_same HOWN2.out (w' := W3) (fun k hk hlt => by
                  simp [Value.ownBlock] at hk; subst hk
                  exact hk3.block _ hlt hng)
                have HO3 := Lib.hid ho3; have HK3 := Lib.hid (HK2.out.trans hk3); have HI3 := Lib.hid hi3
                have hs3 := HK3.out.size
                clear hb3 ho3 hk3 hi3 hy2 e0 e1 e2 e3 e4 e5 e6 e7
                gi_wp2_with (gi_at_builtin; refine wpi_app _ rfl _ _ rfl W.heap.size _ (r + 1) _ rfl (HO3.out.alloc _) W3.heap.size x.se rfl (by rw [HSEV.out]; simp) (by omega) (by simp; omega) ?_)
                intro v5 W5 ho5 hg5
                have HF := Lib.hid (HLAST.out W5 v5 (by simpa [List.append_assoc] using ho5) ((HK3.out.alloc _).grown hg5 (fun k hk => by simp [Value.ownBlock] at hk; omega)) (hI _ W3 W5 (fun k h => by
                  have h1 := hVg k h
                  rw [hg5.block k (by simp; omega) (by simp [Value.ownBlock]; omega), Below.heap_alloc _ _ _ (by omega)]) HI3.out))
                clear ho5 hg5
                gi_wp2
                gi_roundg k
                case rel => exact HF.out
                case measure => omega
              · gi_wp2
                refine bodyPost_ret (results_none rfl _ _ _) rfl ?_
                exact ⟨⟨_, rfl⟩, HK2.out.trans hk3, .inr ⟨_, HPF.out, hx3⟩⟩
  · gi_wp2
    refine bodyPost_ret (results_none rfl _ _ _) rfl ?_
    exact ⟨⟨_, rfl⟩, hk1, .inr ⟨[(1, t)], ⟨outR [t.v], by rw [outR_start]; rfl⟩, hx1⟩⟩
end Go.Proofs.YtipibipaocpojaaDoor
