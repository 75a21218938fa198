/- The walk of jstr's Quote. -/
import Derived.Test.YtnoclbeamcmhhaaDoorJ5
namespace Go.Proofs.YtnoclbeamcmhhaaDoor
open Go.RowKit Go.Shelf Go.Lib
set_option linter.unusedVariables false
set_option linter.unusedSimpArgs false

/-- A builder stays one while nothing that was there turns. -/
theorem bld_below {T e : TypeId} {B b : Nat} {bs : List Value} {w w' : World} (h : Lib.IsBuilderF T e B b bs w) (hb : Below w.heap.size w w') : Lib.IsBuilderF T e B b bs w' := by
  have key : ∀ p, Lib.BuilderAtF T e B b p bs w → Lib.BuilderAtF T e B b p bs w' := by
    intro p h
    have hlt := h.lt
    obtain ⟨hB, v, hv, hown, hne⟩ := h
    refine ⟨hB, v, by rw [hb.block b hlt]; exact hv, ⟨hown.1, ?_⟩, hne⟩
    rcases hown.2 with h2 | ⟨g, cap, cur, fz, rfl, hB2, hg, rest⟩
    · exact .inl h2
    · refine .inr ⟨g, cap, cur, fz, rfl, hB2, ?_, rest⟩
      rw [hb.block g (Array.getElem?_eq_some_iff.1 hg).1]; exact hg
  exact h.elim (fun x => .inl (key _ x)) (fun x => .inr (key _ x))
theorem take_list (t : ByteArray) (n : Nat) : (t.extract 0 n).data.toList = t.data.toList.take n := by
  rw [ByteArray.data_extract, Array.toList_extract]
  simp [List.extract_eq_take_drop]

theorem arr_size (l : List UInt8) : (⟨l.toArray⟩ : ByteArray).size = l.length := by simp [ByteArray.size]
/-- What holds from round to round of Quote. -/
def QT (L : List UInt8) (N B b : Nat) (w : World) (k : Nat) (v : Value) (wr : World) : Prop :=
  ∃ (t : ByteArray) (acc : List UInt8), v = .string t ∧ t.size ≤ k ∧ t.size ≤ N ∧ acc ++ bodyL t.data.toList = bodyL L ∧ acc.length ≤ 6 * (N - t.size) ∧
    Lib.IsBuilderF 85 5 B b (Lib.byteCells (34 :: acc)) wr ∧ Below B w wr ∧ b < wr.heap.size
theorem bodyL_run (t : ByteArray) : bodyL t.data.toList = t.data.toList.take (plainN t.data.toList) ++ bodyL (t.data.toList.drop (plainN t.data.toList)) := by
  conv => lhs; rw [← List.take_append_drop (plainN t.data.toList) t.data.toList]
  rw [bodyL_append, bodyL_plain (plainN_all _)]
/-- The last round: all that is left stands for itself. -/
theorem QT.last {L : List UInt8} {N B b : Nat} {w w' : World} {t : ByteArray} {acc : List UInt8} (hN : t.size ≤ N) (ha : acc ++ bodyL t.data.toList = bodyL L) (hl : acc.length ≤ 6 * (N - t.size))
    (hn : plainN t.data.toList = t.size) (hb : Below B w w') (hlt : b < w'.heap.size)
    (hI : Lib.BuilderAtF 85 5 B b (.pointer (some ⟨b, 0, none⟩)) (Lib.byteCells (34 :: acc) ++ Lib.strCells (t.extract 0 t.size)) w') :
    QT L N B b w 0 (.string ByteArray.empty) w' := by
  have h0 : (ByteArray.empty).size = 0 := rfl
  have e0 : (ByteArray.empty).data.toList = [] := rfl
  have hb2 : bodyL t.data.toList = t.data.toList := by
    have := bodyL_run t
    rw [hn, List.take_of_length_le (by simp), List.drop_of_length_le (by simp)] at this
    simpa [bodyL] using this
  refine ⟨_, acc ++ t.data.toList, rfl, by omega, by omega, ?_, ?_, ?_, hb, hlt⟩
  · rw [e0, ← ha, hb2]; simp [bodyL]
  · rw [List.length_append, h0]; simp; omega
  · have : Lib.byteCells (34 :: acc) ++ Lib.strCells (t.extract 0 t.size) = Lib.byteCells (34 :: (acc ++ t.data.toList)) := by
      rw [Lib.strCells_eq, take_list, List.take_of_length_le (by simp), ← List.cons_append, Lib.byteCells_append]
    rw [this] at hI; exact .inr hI
/-- A round in which a byte is escaped. -/
theorem QT.step {L : List UInt8} {N B b k n : Nat} {w w' : World} {t : ByteArray} {acc : List UInt8} (hk : t.size ≤ k + 1) (hN : t.size ≤ N) (ha : acc ++ bodyL t.data.toList = bodyL L) (hl : acc.length ≤ 6 * (N - t.size))
    (hn : plainN t.data.toList = n) (hlt : n < t.size) (hb : Below B w w') (hblt : b < w'.heap.size)
    (hI : Lib.BuilderAtF 85 5 B b (.pointer (some ⟨b, 0, none⟩)) (Lib.byteCells (34 :: acc) ++ Lib.strCells (t.extract 0 n) ++ Lib.strCells ⟨(escB (t[n]'hlt)).toArray⟩) w') :
    QT L N B b w k (.string (t.extract (n + 1) t.size)) w' := by
  have hs1 : (t.extract (n + 1) t.size).size = t.size - (n + 1) := by rw [ByteArray.size_extract]; omega
  have hx : plainB (t[n]'hlt) = false := by
    have := plainN_stop (l := t.data.toList) (by rw [hn]; simpa using hlt)
    rw [hn, at_get t n hlt] at this; exact this
  have hd : t.data.toList.drop n = t[n]'hlt :: t.data.toList.drop (n + 1) := by
    rw [List.drop_eq_getElem_cons (by simpa using hlt)]
    congr 1
  have hb2 : bodyL t.data.toList = t.data.toList.take n ++ (escB (t[n]'hlt) ++ bodyL (t.data.toList.drop (n + 1))) := by
    rw [bodyL_run t, hn, hd, bodyL_cons]
    congr 2
    unfold qb; rw [hx]; rfl
  have he := escB_len (t[n]'hlt)
  refine ⟨_, acc ++ (t.data.toList.take n ++ escB (t[n]'hlt)), rfl, by omega, by omega, ?_, ?_, ?_, hb, hblt⟩
  · rw [← ha, hb2, extract_list]; simp
  · rw [List.length_append, List.length_append, List.length_take, hs1]; simp; omega
  · have : Lib.byteCells (34 :: acc) ++ Lib.strCells (t.extract 0 n) ++ Lib.strCells ⟨(escB (t[n]'hlt)).toArray⟩ = Lib.byteCells (34 :: (acc ++ (t.data.toList.take n ++ escB (t[n]'hlt)))) := by
      rw [Lib.strCells_eq, Lib.strCells_eq, take_list, ← List.cons_append, Lib.byteCells_append, Lib.byteCells_append, List.append_assoc]
    rw [this] at hI; exact .inr hI

def QuotePost (L : List UInt8) (w : World) (e : Ending) (w' : World) : Prop := e = .returned (.string ⟨(quoteL L).toArray⟩) ∧ Below w.heap.size w w'

set_option maxHeartbeats 2000000 in
theorem quote_any (s : ByteArray) (w : World) (hs : s.size ≤ 1000000) (hT : UT w) :
    Calls Tryd.prog 26 #[.string s] w (QuotePost s.data.toList w) := by
  have KV := Lib.hid (valid_any s w (by unfold maxLen; omega) hT)
  clear hT
  cases hv : validL s.data.toList
  · have HQ := Lib.hid (show quoteL s.data.toList = [] by unfold quoteL; rw [hv]; rfl)
    rw [hv] at KV
    clear hv
    go_enter Tryd.func26, Tryd.ntmps26
    go_wp2_with fail
    refine KV.out.mono ?_
    rintro r w1 ⟨rfl, hb⟩
    have HB := Lib.hid hb; clear hb
    go_wp2
    go_ret
    exact ⟨by rw [HQ.out]; rfl, HB.out⟩
  · have HQ := Lib.hid (show quoteL s.data.toList = 34 :: (bodyL s.data.toList ++ [34]) by unfold quoteL; rw [hv]; rfl)
    rw [hv] at KV
    clear hv
    go_enter Tryd.func26, Tryd.ntmps26
    go_wp2_with fail
    refine KV.out.mono ?_
    rintro r w1 ⟨rfl, hb⟩
    have hsz := hb.size
    have HB := Lib.hid hb; clear hb
    have hg := Tryd.Builder_Grow_fresh w.heap.size w1.heap.size (s.size + 2) (w1.alloc (.cells #[.pointer none, .slice none 0 0] 85)) hsz (heap_alloc_new w1 _) (by simp; omega) (by omega)
    rw [show ((s.size + 2 : Nat) : Int) = (s.size : Int) + 2 from rfl] at hg
    have KG := Lib.hid hg; clear hg
    go_wp2_with fail
    refine KG.out.mono ?_
    rintro r w2 ⟨rfl, h2, hb2⟩
    have hbw2 : Below w.heap.size w w2 := (HB.out.alloc hsz _).trans hb2
    have hsz2 : w1.heap.size < w2.heap.size := by have := hb2.size; simp at this; omega
    have HB2 := Lib.hid hbw2
    have KB := Lib.hid (writeByte_k w.heap.size w1.heap.size [] 34 w2 (Lib.IsBuilderF.of (.inr h2)) (by simp) hbw2.size)
    clear h2 hb2 hbw2 HB KG
    generalize hb : w1.heap.size = b at *
    have Hb := Lib.hid hb; clear hb
    go_wp2_with fail
    refine KB.out.mono ?_
    rintro r w3 ⟨rfl, h3, hb3, _⟩
    have hbw3 := HB2.out.trans hb3
    have hsz3 : b < w3.heap.size := by have := hb3.size; omega
    have HST := Lib.hid (show QT s.data.toList s.size w.heap.size b w s.size (.string s) w3 from
      ⟨s, [], rfl, Nat.le_refl _, Nat.le_refl _, rfl, by simp, .inr h3, hbw3, hsz3⟩)
    have HUN := Lib.hid (fun W (h : Below w.heap.size w W) => h.size)
    clear h3 hb3 hbw3 hsz3 hsz2 HB2 KB
    generalize hB : w.heap.size = B at *
    have HB := Lib.hid hB; clear hB
    go_wp2
    go_loopg [0] s.size (fun k v wr => QT s.data.toList s.size B b w k v wr)
    case atStart => exact HST.out
    case round =>
      obtain ⟨t, acc, rfl, hk, hN, ha, hl, hI, hbl, hlt⟩ := hrel
      have HA := Lib.hid ha; have HI := Lib.hid hI; have HBL := Lib.hid hbl
      have hun := HUN.out _ hbl
      clear ha hI hbl
      by_cases h0 : t.size = 0
      · have e0 : t = ⟨#[]⟩ := by
          apply ByteArray.ext; apply Array.eq_empty_of_size_eq_zero; exact h0
        have ha0 : acc = bodyL s.data.toList := by rw [← HA.out, e0]; simp [bodyL]
        subst e0
        have KW := Lib.hid (writeByte_k B b (Lib.byteCells (34 :: acc)) 34 wr HI.out (by rw [Lib.byteCells_length]; simp; omega) hun)
        have HA0 := Lib.hid ha0
        clear ha0
        go_wp2_with fail
        refine KW.out.mono ?_
        rintro r w4 ⟨rfl, h4, hb4, _⟩
        have hlt4 : b < w4.heap.size := by have := hb4.size; omega
        have hbl4 := HBL.out.trans hb4
        have hI4 : Lib.IsBuilderF 85 5 B b (Lib.byteCells (34 :: (acc ++ [34]))) w4 := by
          have e : Lib.byteCells (34 :: acc) ++ [Value.int .u8 34] = Lib.byteCells (34 :: (acc ++ [34])) := by
            rw [← List.cons_append, Lib.byteCells_append]; rfl
          rw [e] at h4; exact .inr h4
        have KS := Lib.hid (Tryd.Builder_String_any_k B b (34 :: (acc ++ [34])) w4 hI4 (HUN.out _ hbl4))
        have HB4 := Lib.hid hbl4
        clear h4 hb4 hbl4 hI4 KW
        go_wp2_with fail
        refine KS.out.mono ?_
        rintro r w5 ⟨rfl, _, hb5, _⟩
        have HF := Lib.hid (HB4.out.trans hb5)
        clear hb5 KS
        go_wp2
        go_ret
        unfold QuotePost
        rw [HQ.out, HB.out, HA0.out]
        exact ⟨rfl, HF.out⟩
      · obtain ⟨k, rfl⟩ : ∃ k, gk = k + 1 := ⟨gk - 1, by omega⟩
        have hne : t.toList.isEmpty = false := by
          rw [Lib.toList_data]
          cases h : t.data.toList with
          | nil => exact absurd (by have := congrArg List.length h; simpa using this) h0
          | cons _ _ => rfl
        have hle := plainN_le t.data.toList
        have hsz : t.data.toList.length = t.size := by simp
        rw [hsz] at hle
        clear hsz
        have KP := Lib.hid (plainBytes_any t wr (by unfold maxLen; omega))
        have HSP := Lib.hid (fun (n : Nat) (hn : plainN t.data.toList = n) (hlt : n < t.size) W p1 p2 p3 => QT.step (B := B) (b := b) (w := w) (w' := W) hk hN HA.out hl hn hlt p1 p2 p3)
        have HLS := Lib.hid (fun (hn : plainN t.data.toList = t.size) W p1 p2 p3 => QT.last (B := B) (b := b) (w := w) (w' := W) hN HA.out hl hn p1 p2 p3)
        generalize hn : plainN t.data.toList = n at *
        have HN := Lib.hid hn; clear hn
        have hls : (t.extract 0 n).size ≤ t.size := by rw [ByteArray.size_extract]; omega
        have KW := Lib.hid (writeString_k B b (Lib.byteCells (34 :: acc)) (t.extract 0 n) wr HI.out (by rw [Lib.byteCells_length]; simp; omega) hun)
        go_wp2_with fail
        refine KP.out.mono ?_
        rintro r w4 ⟨rfl, rfl⟩
        go_wp2_with fail
        refine KW.out.mono ?_
        rintro r w5 ⟨rfl, h5, hb5, _⟩
        have hlt5 : b < w5.heap.size := by have := hb5.size; omega
        have hbl5 := HBL.out.trans hb5
        have H5 := Lib.hid h5; have HB5 := Lib.hid hbl5
        have hun5 := HUN.out _ hbl5
        clear h5 hb5 hbl5 KW KP
        by_cases hnt : n < t.size
        · have hntz : (n : Int) < (t.size : Int) := by omega
          have hx : plainB (t[n]'hnt) = false := by
            have := plainN_stop (l := t.data.toList) (by rw [HN.out]; simpa using hnt)
            rw [HN.out, at_get t n hnt] at this; exact this
          have KE := Lib.hid (escape_any (t[n]'hnt) w5 hx)
          unfold EscPost at KE
          have HS := Lib.hid (HSP.out n rfl hnt)
          have hel := escB_len (t[n]'hnt)
          have HW := Lib.hid (fun W (h : Below w5.heap.size w5 W) => writeString_k B b (Lib.byteCells (34 :: acc) ++ Lib.strCells (t.extract 0 n)) ⟨(escB (t[n]'hnt)).toArray⟩ W (bld_below (.inr H5.out) h) (by
            have e1 := Lib.strCells_length (t.extract 0 n)
            have e2 := Lib.byteCells_length (34 :: acc)
            have e3 := arr_size (escB (t[n]'hnt))
            rw [List.length_append, e1, e2, e3, List.length_cons]; omega) (HUN.out W (HB5.out.trans (h.mono hun5))))
          clear hx HSP HLS
          generalize hE : (escB (t[n]'hnt)) = E at *
          clear hE
          generalize hX : t[n]'hnt = x at *
          go_wp2_with fail
          refine KE.out.mono ?_
          rintro r w6 ⟨rfl, h6⟩
          have hb6 := HB5.out.trans (h6.mono hun5)
          have KW6 := Lib.hid (HW.out w6 h6)
          have hlt6 : b < w6.heap.size := by have := h6.size; omega
          have HB6 := Lib.hid hb6
          clear h6 hb6 KE HW
          go_wp2_with fail
          refine KW6.out.mono ?_
          rintro r w7 ⟨rfl, h7, hb7, _⟩
          have HF := Lib.hid (HS.out w7 (HB6.out.trans hb7) (by have := hb7.size; omega) h7)
          clear h7 hb7 KW6
          go_wp2
          go_roundg k
          case rel => exact HF.out
          case measure => omega
        · have hntz : ¬ (n : Int) < (t.size : Int) := by omega
          obtain rfl : n = t.size := by omega
          have HF := Lib.hid (HLS.out rfl w5 HB5.out hlt5 H5.out)
          clear HSP HLS
          go_wp2
          go_roundg 0
          case rel => exact HF.out
          case measure => omega
end Go.Proofs.YtnoclbeamcmhhaaDoor
