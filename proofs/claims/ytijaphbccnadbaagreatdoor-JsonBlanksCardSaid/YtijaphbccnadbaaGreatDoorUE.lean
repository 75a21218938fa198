/- Texts of the claim. -/
import Derived.Test.YtijaphbccnadbaaGreatDoorUD
set_option linter.unusedVariables false
set_option linter.unusedSimpArgs false
set_option maxHeartbeats 8000000
set_option maxRecDepth 100000
namespace Go.Proofs.YtijaphbccnadbaaGreatDoor
open Go.Shelf Go.RowKit
theorem numTxt_lenJ {neg ng:Bool} {xs:List Nat} {e:Int} (ho:Okl xs) (h:chkB neg xs e=true):(numTxt ng (val xs) e).length≤1950:=by
  have hb:=chkB_bounds h
  have hd:=dec_len90 ho hb.1
  have:=sizeTxt_len2 (d:=dec (val xs)) (e:=e) hd hb.2
  unfold numTxt
  split
  · simp
  · cases ng <;> simp <;> omega
theorem rises_ok {l:List ByteArray} (h:risesB l=true):∀ s∈l,okN s=true:=by
  intro s hs
  obtain ⟨i,hi,rfl⟩:=List.getElem_of_mem hs
  have:=risesB_iff.1 h i hi
  unfold nameAt at this
  rw [Bool.and_eq_true] at this
  have e:l.getD i ByteArray.empty=l[i]:=by simp [List.getD,hi]
  rw [e] at this
  exact this.1
theorem rises_size {l:List ByteArray} (h:risesB l=true):∀ s∈l,s.size≤2000:=by
  intro s hs
  have:=rises_ok h s hs
  unfold okN at this
  rw [Bool.and_eq_true,decide_eq_true_eq] at this
  exact this.1
theorem encv_null (B b:Nat) (w0:World) (hBb:B≤b) (h0:w0.heap.size=B) (b0 neg:Bool) (ma:Option Addr) (mn mc:Nat) (e:Int) (s:ByteArray) (ka:Option Addr) (kn kc:Nat) (va:Option Addr) (vn vc:Nat)
    (l:List UInt8) (W:World) (h:WrJ B b l W) (hl:l.length≤32768) (hw:Below B w0 W) (hbw:b<W.heap.size) :
    Calls Tryz.prog 33 #[.pointer (some ⟨b,0,none⟩),.agg #[.int .i64 1,.bool b0,.bool neg,.slice ma mn mc,.int .i64 e,.string s,.slice ka kn kc,.slice va vn vc]] W (EncW B b l (nullB) W):=by
  obtain ⟨W1,hW1⟩:∃ x,W.alloc (.cells #[.int .i64 1,.bool b0,.bool neg,.slice ma mn mc,.int .i64 e,.string s,.slice ka kn kc,.slice va vn vc] 28)=x:=⟨_,rfl⟩
  have hb1:Below W.heap.size W W1:=by rw [← hW1];exact (Below.refl _ _).alloc (Nat.le_refl _) _
  have q1:W1.heap[W.heap.size]? = some (.cells #[.int .i64 1,.bool b0,.bool neg,.slice ma mn mc,.int .i64 e,.string s,.slice ka kn kc,.slice va vn vc] 28):=by rw [← hW1];exact heap_alloc_new W _
  have hf1:FrW B b W W1:=FrW.of_below (by omega) hb1
  have hw1:=h.on hb1
  have hbe:Below B w0 W1:=hw.trans hf1.bel
  have hs1:=hb1.size
  have HW1:=Lib.hid hW1;have HF1:=Lib.hid hf1;have HBE:=Lib.hid hbe;have HWR:=Lib.hid hw1
  have KP:=Lib.hid (putw_any B b l ⟨#[110,117,108,108]⟩ W1 hw1 hl (by decide) (by omega))
  have y0:=(box_cellsJ q1 0 _ rfl).1
  have y1:=(box_cellsJ q1 1 _ rfl).1
  have y2:=(box_cellsJ q1 2 _ rfl).1
  have y3:=(box_cellsJ q1 3 _ rfl).1
  have y4:=(box_cellsJ q1 4 _ rfl).1
  have y5:=(box_cellsJ q1 5 _ rfl).1
  have y6:=(box_cellsJ q1 6 _ rfl).1
  have y7:=(box_cellsJ q1 7 _ rfl).1
  have hsB:B≤W1.heap.size:=by omega
  have HSB:=Lib.hid hsB
  clear hW1 hb1 hf1 hw1 hbe h hw q1 hsB
  go_enter Tryz.func33,Tryz.ntmps33
  go_wp2_with fail
  rw [HW1.out]
  go_wp2_with fail
  refine KP.out.mono ?_
  intro r w5 hp5
  rcases hp5 with ⟨e1,rfl,e2,e3⟩ | ⟨e1,rfl,e2⟩
  · have HZ:=Lib.hid (EncW.pre HF1.out (.inl ⟨e1,rfl,e2,e3⟩))
    clear e1 e2 e3 KP
    go_wp2
    go_end0
    exact HZ.out
  · have HZ:=Lib.hid (EncW.pre HF1.out (.inr ⟨e1,rfl,e2⟩))
    clear e1 e2 KP
    go_wp2
    exact ⟨rfl,HZ.out⟩
theorem encv_truth (B b:Nat) (w0:World) (hBb:B≤b) (h0:w0.heap.size=B) (b0 neg:Bool) (ma:Option Addr) (mn mc:Nat) (e:Int) (s:ByteArray) (ka:Option Addr) (kn kc:Nat) (va:Option Addr) (vn vc:Nat)
    (l:List UInt8) (W:World) (h:WrJ B b l W) (hl:l.length≤32768) (hw:Below B w0 W) (hbw:b<W.heap.size) :
    Calls Tryz.prog 33 #[.pointer (some ⟨b,0,none⟩),.agg #[.int .i64 2,.bool b0,.bool neg,.slice ma mn mc,.int .i64 e,.string s,.slice ka kn kc,.slice va vn vc]] W (EncW B b l (truthB b0) W):=by
  obtain ⟨W1,hW1⟩:∃ x,W.alloc (.cells #[.int .i64 2,.bool b0,.bool neg,.slice ma mn mc,.int .i64 e,.string s,.slice ka kn kc,.slice va vn vc] 28)=x:=⟨_,rfl⟩
  have hb1:Below W.heap.size W W1:=by rw [← hW1];exact (Below.refl _ _).alloc (Nat.le_refl _) _
  have q1:W1.heap[W.heap.size]? = some (.cells #[.int .i64 2,.bool b0,.bool neg,.slice ma mn mc,.int .i64 e,.string s,.slice ka kn kc,.slice va vn vc] 28):=by rw [← hW1];exact heap_alloc_new W _
  have hf1:FrW B b W W1:=FrW.of_below (by omega) hb1
  have hw1:=h.on hb1
  have hbe:Below B w0 W1:=hw.trans hf1.bel
  have hs1:=hb1.size
  have HW1:=Lib.hid hW1;have HF1:=Lib.hid hf1;have HBE:=Lib.hid hbe;have HWR:=Lib.hid hw1
  have KF:=Lib.hid (fmtBool_any b0 W1)
  have KP:=Lib.hid (putw_any B b l (if b0 then ⟨#[116,114,117,101]⟩ else ⟨#[102,97,108,115,101]⟩) W1 hw1 hl (by cases b0 <;> decide) (by omega))
  have HTB:Hid ((if b0 then (⟨#[116,114,117,101]⟩:ByteArray) else ⟨#[102,97,108,115,101]⟩).data.toList=truthB b0):=Lib.hid (by cases b0 <;> rfl)
  generalize (if b0 then (⟨#[116,114,117,101]⟩:ByteArray) else ⟨#[102,97,108,115,101]⟩)=tx at *
  rw [HTB.out] at KP
  have y0:=(box_cellsJ q1 0 _ rfl).1
  have y1:=(box_cellsJ q1 1 _ rfl).1
  have y2:=(box_cellsJ q1 2 _ rfl).1
  have y3:=(box_cellsJ q1 3 _ rfl).1
  have y4:=(box_cellsJ q1 4 _ rfl).1
  have y5:=(box_cellsJ q1 5 _ rfl).1
  have y6:=(box_cellsJ q1 6 _ rfl).1
  have y7:=(box_cellsJ q1 7 _ rfl).1
  have hsB:B≤W1.heap.size:=by omega
  have HSB:=Lib.hid hsB
  clear hW1 hb1 hf1 hw1 hbe h hw q1 hsB
  go_enter Tryz.func33,Tryz.ntmps33
  go_wp2_with fail
  rw [HW1.out]
  go_wp2_with fail
  refine KF.out.mono ?_
  rintro r w2 ⟨rfl,rfl⟩
  go_wp2_with fail
  refine KP.out.mono ?_
  intro r w5 hp5
  rcases hp5 with ⟨e1,rfl,e2,e3⟩ | ⟨e1,rfl,e2⟩
  · have HZ:=Lib.hid (EncW.pre HF1.out (.inl ⟨e1,rfl,e2,e3⟩))
    clear e1 e2 e3 KP
    go_wp2
    go_end0
    exact HZ.out
  · have HZ:=Lib.hid (EncW.pre HF1.out (.inr ⟨e1,rfl,e2⟩))
    clear e1 e2 KP
    go_wp2
    exact ⟨rfl,HZ.out⟩
theorem encv_num (B b:Nat) (w0:World) (hBb:B≤b) (h0:w0.heap.size=B) (b0 neg:Bool) (ma:Option Addr) (mn mc:Nat) (e:Int) (s:ByteArray) (ka:Option Addr) (kn kc:Nat) (va:Option Addr) (vn vc:Nat) (M:List Nat) (hM:M.length=mn) (hMc:mn≤mc) (hMo:Okl M) (hMr:Rd w0 ma M) (hMk:chkB neg M e=true) (hT:TB w0)
    (l:List UInt8) (W:World) (h:WrJ B b l W) (hl:l.length≤32768) (hw:Below B w0 W) (hbw:b<W.heap.size) :
    Calls Tryz.prog 33 #[.pointer (some ⟨b,0,none⟩),.agg #[.int .i64 3,.bool b0,.bool neg,.slice ma mn mc,.int .i64 e,.string s,.slice ka kn kc,.slice va vn vc]] W (EncW B b l (numB neg (val M) e) W):=by
  obtain ⟨W1,hW1⟩:∃ x,W.alloc (.cells #[.int .i64 3,.bool b0,.bool neg,.slice ma mn mc,.int .i64 e,.string s,.slice ka kn kc,.slice va vn vc] 28)=x:=⟨_,rfl⟩
  have hb1:Below W.heap.size W W1:=by rw [← hW1];exact (Below.refl _ _).alloc (Nat.le_refl _) _
  have q1:W1.heap[W.heap.size]? = some (.cells #[.int .i64 3,.bool b0,.bool neg,.slice ma mn mc,.int .i64 e,.string s,.slice ka kn kc,.slice va vn vc] 28):=by rw [← hW1];exact heap_alloc_new W _
  have hf1:FrW B b W W1:=FrW.of_below (by omega) hb1
  have hw1:=h.on hb1
  have hbe:Below B w0 W1:=hw.trans hf1.bel
  have hs1:=hb1.size
  have HW1:=Lib.hid hW1;have HF1:=Lib.hid hf1;have HBE:=Lib.hid hbe;have HWR:=Lib.hid hw1
  have hno:NumOk W1 neg ma mn mc M e:=⟨hM,hMc,hMo,hMr.below (by rw [h0];exact hbe:Below w0.heap.size w0 W1),hMk⟩
  have KF:=Lib.hid (numText_ok hno (hT.below (by rw [h0];exact hbe:Below w0.heap.size w0 W1)))
  unfold TxtBelow at KF
  have HSZ:=Lib.hid (numTxt_lenJ (neg:=neg) (ng:=neg) hMo hMk)
  have HTL:Hid ((txt (numTxt neg (val M) e)).data.toList=numB neg (val M) e):=Lib.hid rfl
  have hts:=txt_size (numTxt neg (val M) e)
  have HTS:Hid ((txt (numTxt neg (val M) e)).size≤1000000):=Lib.hid (by rw [hts];have:=HSZ.out;omega)
  clear hM hMc hMo hMr hMk hT hts
  generalize txt (numTxt neg (val M) e)=tx at *
  have y0:=(box_cellsJ q1 0 _ rfl).1
  have y1:=(box_cellsJ q1 1 _ rfl).1
  have y2:=(box_cellsJ q1 2 _ rfl).1
  have y3:=(box_cellsJ q1 3 _ rfl).1
  have y4:=(box_cellsJ q1 4 _ rfl).1
  have y5:=(box_cellsJ q1 5 _ rfl).1
  have y6:=(box_cellsJ q1 6 _ rfl).1
  have y7:=(box_cellsJ q1 7 _ rfl).1
  have hsB:B≤W1.heap.size:=by omega
  have HSB:=Lib.hid hsB
  clear hW1 hb1 hf1 hw1 hbe h hw q1 hsB
  go_enter Tryz.func33,Tryz.ntmps33
  go_wp2_with fail
  rw [HW1.out]
  go_wp2_with fail
  refine KF.out.mono ?_
  rintro r w2 ⟨rfl,hb2⟩
  have HF2:=Lib.hid (HF1.out.trans (FrW.of_below HSB.out hb2))
  have KP:=Lib.hid (putw_any B b l tx w2 (HWR.out.on hb2) hl HTS.out (by have:=hb2.size;have:=HSB.out;omega))
  rw [HTL.out] at KP
  clear hb2 KF
  go_wp2_with fail
  refine KP.out.mono ?_
  intro r w5 hp5
  rcases hp5 with ⟨e1,rfl,e2,e3⟩ | ⟨e1,rfl,e2⟩
  · have HZ:=Lib.hid (EncW.pre HF2.out (.inl ⟨e1,rfl,e2,e3⟩))
    clear e1 e2 e3 KP
    go_wp2
    go_end0
    exact HZ.out
  · have HZ:=Lib.hid (EncW.pre HF2.out (.inr ⟨e1,rfl,e2⟩))
    clear e1 e2 KP
    go_wp2
    exact ⟨rfl,HZ.out⟩
theorem encv_text (B b:Nat) (w0:World) (hBb:B≤b) (h0:w0.heap.size=B) (b0 neg:Bool) (ma:Option Addr) (mn mc:Nat) (e:Int) (s:ByteArray) (ka:Option Addr) (kn kc:Nat) (va:Option Addr) (vn vc:Nat) (hU:UT w0) (hz:s.size≤2000)
    (l:List UInt8) (W:World) (h:WrJ B b l W) (hl:l.length≤32768) (hw:Below B w0 W) (hbw:b<W.heap.size) :
    Calls Tryz.prog 33 #[.pointer (some ⟨b,0,none⟩),.agg #[.int .i64 4,.bool b0,.bool neg,.slice ma mn mc,.int .i64 e,.string s,.slice ka kn kc,.slice va vn vc]] W (EncW B b l (quoteL s.data.toList) W):=by
  obtain ⟨W1,hW1⟩:∃ x,W.alloc (.cells #[.int .i64 4,.bool b0,.bool neg,.slice ma mn mc,.int .i64 e,.string s,.slice ka kn kc,.slice va vn vc] 28)=x:=⟨_,rfl⟩
  have hb1:Below W.heap.size W W1:=by rw [← hW1];exact (Below.refl _ _).alloc (Nat.le_refl _) _
  have q1:W1.heap[W.heap.size]? = some (.cells #[.int .i64 4,.bool b0,.bool neg,.slice ma mn mc,.int .i64 e,.string s,.slice ka kn kc,.slice va vn vc] 28):=by rw [← hW1];exact heap_alloc_new W _
  have hf1:FrW B b W W1:=FrW.of_below (by omega) hb1
  have hw1:=h.on hb1
  have hbe:Below B w0 W1:=hw.trans hf1.bel
  have hs1:=hb1.size
  have HW1:=Lib.hid hW1;have HF1:=Lib.hid hf1;have HBE:=Lib.hid hbe;have HWR:=Lib.hid hw1
  have KF:=Lib.hid (quote_any s W1 (by omega) (hU.below (by rw [h0];exact hbe:Below w0.heap.size w0 W1)))
  unfold QuotePost at KF
  have h8:s.data.toList.length=s.size:=by rw [Array.length_toList];rfl
  have HQS:Hid ((⟨(quoteL s.data.toList).toArray⟩:ByteArray).size≤1000000):=Lib.hid (by rw [str_size];have h9:=quoteL_len s.data.toList;omega)
  have HTL:Hid ((⟨(quoteL s.data.toList).toArray⟩:ByteArray).data.toList=quoteL s.data.toList):=Lib.hid rfl
  clear h8 hU
  generalize (⟨(quoteL s.data.toList).toArray⟩:ByteArray)=tx at *
  have y0:=(box_cellsJ q1 0 _ rfl).1
  have y1:=(box_cellsJ q1 1 _ rfl).1
  have y2:=(box_cellsJ q1 2 _ rfl).1
  have y3:=(box_cellsJ q1 3 _ rfl).1
  have y4:=(box_cellsJ q1 4 _ rfl).1
  have y5:=(box_cellsJ q1 5 _ rfl).1
  have y6:=(box_cellsJ q1 6 _ rfl).1
  have y7:=(box_cellsJ q1 7 _ rfl).1
  have hsB:B≤W1.heap.size:=by omega
  have HSB:=Lib.hid hsB
  clear hW1 hb1 hf1 hw1 hbe h hw q1 hsB
  go_enter Tryz.func33,Tryz.ntmps33
  go_wp2_with fail
  rw [HW1.out]
  go_wp2_with fail
  refine KF.out.mono ?_
  rintro r w2 ⟨rfl,hb2⟩
  have HF2:=Lib.hid (HF1.out.trans (FrW.of_below HSB.out hb2))
  have KP:=Lib.hid (putw_any B b l tx w2 (HWR.out.on hb2) hl HQS.out (by have:=hb2.size;have:=HSB.out;omega))
  rw [HTL.out] at KP
  clear hb2 KF
  go_wp2_with fail
  refine KP.out.mono ?_
  intro r w5 hp5
  rcases hp5 with ⟨e1,rfl,e2,e3⟩ | ⟨e1,rfl,e2⟩
  · have HZ:=Lib.hid (EncW.pre HF2.out (.inl ⟨e1,rfl,e2,e3⟩))
    clear e1 e2 e3 KP
    go_wp2
    go_end0
    exact HZ.out
  · have HZ:=Lib.hid (EncW.pre HF2.out (.inr ⟨e1,rfl,e2⟩))
    clear e1 e2 KP
    go_wp2
    exact ⟨rfl,HZ.out⟩
theorem encv_arr (B b:Nat) (w0:World) (hBb:B≤b) (h0:w0.heap.size=B) (b0 neg:Bool) (ma:Option Addr) (mn mc:Nat) (e:Int) (s:ByteArray) (ka:Option Addr) (kn kc:Nat) (va:Option Addr) (vn vc:Nat) (us:List MT) (hn:us.length=vn) (hm:vn≤300) (hr:RdV w0 va (flat (us.map MT.c))) (hV:∀ u∈us,EncC B b w0 u)
    (l:List UInt8) (W:World) (h:WrJ B b l W) (hl:l.length≤32768) (hw:Below B w0 W) (hbw:b<W.heap.size) :
    Calls Tryz.prog 33 #[.pointer (some ⟨b,0,none⟩),.agg #[.int .i64 6,.bool b0,.bool neg,.slice ma mn mc,.int .i64 e,.string s,.slice ka kn kc,.slice va vn vc]] W (EncW B b l (arrB (us.map encJ)) W):=by
  obtain ⟨W1,hW1⟩:∃ x,W.alloc (.cells #[.int .i64 6,.bool b0,.bool neg,.slice ma mn mc,.int .i64 e,.string s,.slice ka kn kc,.slice va vn vc] 28)=x:=⟨_,rfl⟩
  have hb1:Below W.heap.size W W1:=by rw [← hW1];exact (Below.refl _ _).alloc (Nat.le_refl _) _
  have q1:W1.heap[W.heap.size]? = some (.cells #[.int .i64 6,.bool b0,.bool neg,.slice ma mn mc,.int .i64 e,.string s,.slice ka kn kc,.slice va vn vc] 28):=by rw [← hW1];exact heap_alloc_new W _
  have hf1:FrW B b W W1:=FrW.of_below (by omega) hb1
  have hw1:=h.on hb1
  have hbe:Below B w0 W1:=hw.trans hf1.bel
  have hs1:=hb1.size
  have HW1:=Lib.hid hW1;have HF1:=Lib.hid hf1;have HBE:=Lib.hid hbe;have HWR:=Lib.hid hw1
  have KP:=Lib.hid (arrw_any B b w0 hBb h0 us va vn vc hn hm hr hV l W1 hw1 hl hbe (by omega))
  clear hn hm hr hV
  have y0:=(box_cellsJ q1 0 _ rfl).1
  have y1:=(box_cellsJ q1 1 _ rfl).1
  have y2:=(box_cellsJ q1 2 _ rfl).1
  have y3:=(box_cellsJ q1 3 _ rfl).1
  have y4:=(box_cellsJ q1 4 _ rfl).1
  have y5:=(box_cellsJ q1 5 _ rfl).1
  have y6:=(box_cellsJ q1 6 _ rfl).1
  have y7:=(box_cellsJ q1 7 _ rfl).1
  have hsB:B≤W1.heap.size:=by omega
  have HSB:=Lib.hid hsB
  clear hW1 hb1 hf1 hw1 hbe h hw q1 hsB
  go_enter Tryz.func33,Tryz.ntmps33
  go_wp2_with fail
  rw [HW1.out]
  go_wp2_with fail
  refine KP.out.mono ?_
  intro r w5 hp5
  rcases hp5 with ⟨e1,rfl,e2,e3⟩ | ⟨e1,rfl,e2⟩
  · have HZ:=Lib.hid (EncW.pre HF1.out (.inl ⟨e1,rfl,e2,e3⟩))
    clear e1 e2 e3 KP
    go_wp2
    go_end0
    exact HZ.out
  · have HZ:=Lib.hid (EncW.pre HF1.out (.inr ⟨e1,rfl,e2⟩))
    clear e1 e2 KP
    go_wp2
    exact ⟨rfl,HZ.out⟩
theorem encv_obj (B b:Nat) (w0:World) (hBb:B≤b) (h0:w0.heap.size=B) (b0 neg:Bool) (ma:Option Addr) (mn mc:Nat) (e:Int) (s:ByteArray) (ka:Option Addr) (kn kc:Nat) (va:Option Addr) (vn vc:Nat) (hU:UT w0) (ks:List ByteArray) (us:List MT) (hk:ks.length=kn) (hkc:kn≤kc) (hkv:kn=vn) (hn:us.length=vn) (hm:vn≤300) (hz:∀ s∈ks,s.size≤2000) (hrk:RdV w0 ka (sv ks)) (hr:RdV w0 va (flat (us.map MT.c))) (hV:∀ u∈us,EncC B b w0 u)
    (l:List UInt8) (W:World) (h:WrJ B b l W) (hl:l.length≤32768) (hw:Below B w0 W) (hbw:b<W.heap.size) :
    Calls Tryz.prog 33 #[.pointer (some ⟨b,0,none⟩),.agg #[.int .i64 7,.bool b0,.bool neg,.slice ma mn mc,.int .i64 e,.string s,.slice ka kn kc,.slice va vn vc]] W (EncW B b l (objB ks (us.map encJ)) W):=by
  obtain ⟨W1,hW1⟩:∃ x,W.alloc (.cells #[.int .i64 7,.bool b0,.bool neg,.slice ma mn mc,.int .i64 e,.string s,.slice ka kn kc,.slice va vn vc] 28)=x:=⟨_,rfl⟩
  have hb1:Below W.heap.size W W1:=by rw [← hW1];exact (Below.refl _ _).alloc (Nat.le_refl _) _
  have q1:W1.heap[W.heap.size]? = some (.cells #[.int .i64 7,.bool b0,.bool neg,.slice ma mn mc,.int .i64 e,.string s,.slice ka kn kc,.slice va vn vc] 28):=by rw [← hW1];exact heap_alloc_new W _
  have hf1:FrW B b W W1:=FrW.of_below (by omega) hb1
  have hw1:=h.on hb1
  have hbe:Below B w0 W1:=hw.trans hf1.bel
  have hs1:=hb1.size
  have HW1:=Lib.hid hW1;have HF1:=Lib.hid hf1;have HBE:=Lib.hid hbe;have HWR:=Lib.hid hw1
  subst hkv
  have KP:=Lib.hid (objw_any B b w0 hBb h0 hU ks ka kc us va kn vc hk hkc hn hm hz hrk hr hV l W1 hw1 hl hbe (by omega))
  clear hn hm hr hV hU hk hkc hz hrk
  have y0:=(box_cellsJ q1 0 _ rfl).1
  have y1:=(box_cellsJ q1 1 _ rfl).1
  have y2:=(box_cellsJ q1 2 _ rfl).1
  have y3:=(box_cellsJ q1 3 _ rfl).1
  have y4:=(box_cellsJ q1 4 _ rfl).1
  have y5:=(box_cellsJ q1 5 _ rfl).1
  have y6:=(box_cellsJ q1 6 _ rfl).1
  have y7:=(box_cellsJ q1 7 _ rfl).1
  have hsB:B≤W1.heap.size:=by omega
  have HSB:=Lib.hid hsB
  clear hW1 hb1 hf1 hw1 hbe h hw q1 hsB
  go_enter Tryz.func33,Tryz.ntmps33
  go_wp2_with fail
  rw [HW1.out]
  go_wp2_with fail
  refine KP.out.mono ?_
  intro r w5 hp5
  rcases hp5 with ⟨e1,rfl,e2,e3⟩ | ⟨e1,rfl,e2⟩
  · have HZ:=Lib.hid (EncW.pre HF1.out (.inl ⟨e1,rfl,e2,e3⟩))
    clear e1 e2 e3 KP
    go_wp2
    go_end0
    exact HZ.out
  · have HZ:=Lib.hid (EncW.pre HF1.out (.inr ⟨e1,rfl,e2⟩))
    clear e1 e2 KP
    go_wp2
    exact ⟨rfl,HZ.out⟩
theorem encv_any (B b:Nat) (w0:World) (hBb:B≤b) (h0:w0.heap.size=B) (hU:UT w0) (hT:TB w0) (t:MT):Rep w0 t→(∀ s,t.sub s→soundB s=true∧s.c.k ≠ 5)→EncC B b w0 t:=by
  refine MT.ind (P:=fun t=>Rep w0 t→(∀ s,t.sub s→soundB s=true∧s.c.k ≠ 5)→EncC B b w0 t) ?_ t
  intro t ih hR hS l W h hl hw hbw
  have own:=hR.own
  have hV:∀ u∈t.v,EncC B b w0 u:=fun u hu=>ih u hu (hR.part hu) (fun s hs=>hS s (MT.sub_v hu hs))
  obtain ⟨hs,h5⟩:=hS t t.sub_refl
  rw [encJ_eq]
  obtain ⟨⟨k,b0,neg,ma,mn,mc,e,s,ka,kn,kc,va,vn,vc⟩,M,ks,us⟩:=t
  clear ih hS hR
  unfold soundB at hs
  simp only [MT.c,MT.m,MT.k,MT.v] at hs h5 hV own ⊢
  unfold Cel.val
  obtain ⟨o1,o2,o3,o4,o5,o6,o7,o8,o9,o10,o11,o12,o13,o14,o15⟩:=own
  simp only [MT.c,MT.m,MT.k,MT.v] at o1 o2 o3 o4 o5 o6 o7 o8 o9 o10 o11 o12 o13
  by_cases k1:k=1
  · subst k1
    exact encv_null B b w0 hBb h0 b0 neg ma mn mc e s ka kn kc va vn vc l W h hl hw hbw
  by_cases k2:k=2
  · subst k2
    exact encv_truth B b w0 hBb h0 b0 neg ma mn mc e s ka kn kc va vn vc l W h hl hw hbw
  by_cases k3:k=3
  · subst k3
    simp at hs
    exact encv_num B b w0 hBb h0 b0 neg ma mn mc e s ka kn kc va vn vc M o1 o2 o3 o4 hs.1 hT l W h hl hw hbw
  by_cases k4:k=4
  · subst k4
    simp at hs
    exact encv_text B b w0 hBb h0 b0 neg ma mn mc e s ka kn kc va vn vc hU (of_decide_eq_true hs.2.1) l W h hl hw hbw
  by_cases k7:k=7
  · subst k7
    simp at hs
    exact encv_obj B b w0 hBb h0 b0 neg ma mn mc e s ka kn kc va vn vc hU ks us o5 o6 (of_decide_eq_true hs.1) o8 (of_decide_eq_true hs.2.2.1) (rises_size hs.2.1) o7 o10 hV l W h hl hw hbw
  by_cases k6:k=6
  · subst k6
    simp at hs
    exact encv_arr B b w0 hBb h0 b0 neg ma mn mc e s ka kn kc va vn vc us o8 (of_decide_eq_true hs.1) o10 hV l W h hl hw hbw
  · simp [k1,k2,k3,k4,h5,k7,k6] at hs
end Go.Proofs.YtijaphbccnadbaaGreatDoor
