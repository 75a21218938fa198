/- Texts of the claim. -/
import Derived.Test.YticgggjfmhiilaaDoorLm
set_option linter.unusedVariables false
set_option linter.unusedSimpArgs false
set_option maxHeartbeats 16000000
set_option maxRecDepth 100000
namespace Go.Proofs.YticgggjfmhiilaaDoor
open Go.RowKit Go.Shelf
def zeroB (neg:Bool) (mn:Nat) (e:Int):Bool:=!neg && (decide (mn=0) && decide (e=0))
theorem refZero_any (neg:Bool) (ma:Option Addr) (mn mc:Nat) (e:Int) (w:World):Calls Tryd.prog 108 #[.agg #[.bool neg,.slice ma mn mc,.int .i64 e]] w (BoolBelow (zeroB neg mn e) w):=by
  have HB:=Lib.hid ((Below.refl w.heap.size w).alloc (Nat.le_refl _) (.cells #[.bool neg,.slice ma mn mc,.int .i64 e] 25))
  cases neg with
  | true =>
    go_enter Tryd.func108,Tryd.ntmps108
    go_wp2
    go_ret
    exact BoolBelow.mk rfl HB.out
  | false =>
    by_cases h1:mn=0
    · subst h1
      by_cases h2:e=0
      · subst h2
        go_enter Tryd.func108,Tryd.ntmps108
        go_wp2
        go_ret
        exact BoolBelow.mk rfl HB.out
      · have h2b:(e == 0)=false:=beq_eq_false_iff_ne.2 h2
        go_enter Tryd.func108,Tryd.ntmps108
        go_wp2
        go_ret
        exact BoolBelow.mk (by unfold zeroB;rw [decide_eq_false h2];rfl) HB.out
    · have h1b:=nat_bne0 h1
      go_enter Tryd.func108,Tryd.ntmps108
      go_wp2
      go_ret
      exact BoolBelow.mk (by unfold zeroB;rw [decide_eq_false h1];rfl) HB.out
theorem blank_num {c:Cel} (h:zeroB c.neg c.mn c.e=false):blankB c=false:=by
  unfold zeroB at h;unfold blankB
  revert h
  cases c.b <;> cases c.neg <;> cases decide (c.mn=0) <;> cases decide (c.e=0) <;> simp
theorem zero_yes {neg:Bool} {mn:Nat} {e:Int} (h:zeroB neg mn e=true):neg=false∧mn=0∧e=0:=by
  unfold zeroB at h
  simp at h
  exact h
theorem empA:(⟨#[]⟩:ByteArray)=ByteArray.empty:=rfl
theorem str_neA (s:ByteArray) (h:s.size ≠ 0):s.toList.isEmpty=false:=by
  have:=Lib.size_eq s
  rw [Lib.toList_data]
  cases e:s.data.toList with
  | nil=>rw [e] at this;exact absurd this h
  | cons a l=>rfl
theorem str_nilA (s:ByteArray) (h:s.size=0):s=⟨#[]⟩:=by
  obtain ⟨⟨l⟩⟩:=s
  cases l with
  | nil=>rfl
  | cons a l=>simp [ByteArray.size] at h
theorem box_cellsA {W:World} {b:Nat} {c:Array Value} {t:TypeId} (h:W.heap[b]? = some (.cells c t)) (i:Nat) (v:Value) (hv:c[i]? = some v):W.cell? ⟨b,i,none⟩=some v:=by
  simp [World.cell?,h,hv]
theorem fcells {W:World} {b:Nat} {k:Int} {b0 neg:Bool} {ma:Option Addr} {mn mc:Nat} {e:Int} {s:ByteArray} {ka:Option Addr} {kn kc:Nat} {va:Option Addr} {vn vc:Nat} (q:W.heap[b]? = some (.cells #[.int .i64 k,.bool b0,.bool neg,.slice ma mn mc,.int .i64 e,.string s,.slice ka kn kc,.slice va vn vc] 28)) :
    W.cell? ⟨b,0,none⟩=some (.int .i64 k)∧W.cell? ⟨b,1,none⟩=some (.bool b0)∧W.cell? ⟨b,2,none⟩=some (.bool neg)∧W.cell? ⟨b,3,none⟩=some (.slice ma mn mc)∧W.cell? ⟨b,4,none⟩=some (.int .i64 e)∧W.cell? ⟨b,5,none⟩=some (.string s)∧W.cell? ⟨b,6,none⟩=some (.slice ka kn kc)∧W.cell? ⟨b,7,none⟩=some (.slice va vn vc) :=
  ⟨box_cellsA q 0 _ rfl,box_cellsA q 1 _ rfl,box_cellsA q 2 _ rfl,box_cellsA q 3 _ rfl,box_cellsA q 4 _ rfl,box_cellsA q 5 _ rfl,box_cellsA q 6 _ rfl,box_cellsA q 7 _ rfl⟩
theorem refFields_1 (b0 neg:Bool) (ma:Option Addr) (mn mc:Nat) (e:Int) (s:ByteArray) (ka:Option Addr) (kn kc:Nat) (va:Option Addr) (vn vc:Nat) (m:List Nat) (ks:List ByteArray) (vs:List MT) (w:World) (hs:s.size≤1000000) :
    Calls Tryd.prog 77 #[.agg #[.int .i64 1,.bool b0,.bool neg,.slice ma mn mc,.int .i64 e,.string s,.slice ka kn kc,.slice va vn vc]] w (BoolBelow (soundB (.mk ⟨1,b0,neg,ma,mn,mc,e,s,ka,kn,kc,va,vn,vc⟩ m ks vs)) w):=by
  have KZ:=Lib.hid (fun W=>refZero_any neg ma mn mc e W)
  cases b0 with
  | true =>
    obtain ⟨W1,hW1⟩:∃ x,w.alloc (.cells #[.int .i64 1,.bool true,.bool neg,.slice ma mn mc,.int .i64 e,.string s,.slice ka kn kc,.slice va vn vc] 28)=x:=⟨_,rfl⟩
    have hb1:Below w.heap.size w W1:=by rw [← hW1];exact (Below.refl _ _).alloc (Nat.le_refl _) _
    have q1:W1.heap[w.heap.size]? = some (.cells #[.int .i64 1,.bool true,.bool neg,.slice ma mn mc,.int .i64 e,.string s,.slice ka kn kc,.slice va vn vc] 28):=by rw [← hW1];exact heap_alloc_new w _
    have HB:=Lib.hid hb1
    have HQ:=Lib.hid (fun W (h:Below W1.heap.size W1 W)=>fcells ((h.block _ (Array.getElem?_eq_some_iff.1 q1).1).trans q1))
    have HW:=Lib.hid hW1
    obtain ⟨c0,c1,c2,c3,c4,c5,c6,c7⟩:=fcells q1
    clear hb1 hW1 q1
    go_enter Tryd.func77,Tryd.ntmps77
    go_wp2_with fail
    rw [HW.out]
    go_ret
    exact BoolBelow.mk (by unfold soundB;simp [MT.c,MT.m,MT.k,blankB]) HB.out
  | false =>
    cases hz:zeroB neg mn e with
    | false =>
      rw [hz] at KZ
      obtain ⟨W1,hW1⟩:∃ x,w.alloc (.cells #[.int .i64 1,.bool false,.bool neg,.slice ma mn mc,.int .i64 e,.string s,.slice ka kn kc,.slice va vn vc] 28)=x:=⟨_,rfl⟩
      have hb1:Below w.heap.size w W1:=by rw [← hW1];exact (Below.refl _ _).alloc (Nat.le_refl _) _
      have q1:W1.heap[w.heap.size]? = some (.cells #[.int .i64 1,.bool false,.bool neg,.slice ma mn mc,.int .i64 e,.string s,.slice ka kn kc,.slice va vn vc] 28):=by rw [← hW1];exact heap_alloc_new w _
      have HB:=Lib.hid hb1
      have HQ:=Lib.hid (fun W (h:Below W1.heap.size W1 W)=>fcells ((h.block _ (Array.getElem?_eq_some_iff.1 q1).1).trans q1))
      have HW:=Lib.hid hW1
      obtain ⟨c0,c1,c2,c3,c4,c5,c6,c7⟩:=fcells q1
      clear hb1 hW1 q1
      go_enter Tryd.func77,Tryd.ntmps77
      go_wp2_with fail
      rw [HW.out]
      refine (KZ.out _).mono ?_
      rintro r w9 ⟨rfl,h9⟩
      have HB2:=Lib.hid (HB.out.trans (h9.mono HB.out.size))
      have H19:=Lib.hid h9
      obtain ⟨c0,c1,c2,c3,c4,c5,c6,c7⟩:=HQ.out _ h9
      clear h9
      go_wp2_with fail
      go_ret
      exact BoolBelow.mk (by unfold soundB;simp only [MT.c,MT.m,MT.k];simp [blank_num (c:=⟨1,false,neg,ma,mn,mc,e,s,ka,kn,kc,va,vn,vc⟩) hz]) HB2.out
    | true =>
      rw [hz] at KZ
      obtain ⟨rfl,rfl,rfl⟩:=zero_yes hz
      by_cases h3:s.size=0
      case neg =>
        obtain ⟨W1,hW1⟩:∃ x,w.alloc (.cells #[.int .i64 1,.bool false,.bool false,.slice ma 0 mc,.int .i64 0,.string s,.slice ka kn kc,.slice va vn vc] 28)=x:=⟨_,rfl⟩
        have hb1:Below w.heap.size w W1:=by rw [← hW1];exact (Below.refl _ _).alloc (Nat.le_refl _) _
        have q1:W1.heap[w.heap.size]? = some (.cells #[.int .i64 1,.bool false,.bool false,.slice ma 0 mc,.int .i64 0,.string s,.slice ka kn kc,.slice va vn vc] 28):=by rw [← hW1];exact heap_alloc_new w _
        have HB:=Lib.hid hb1
        have HQ:=Lib.hid (fun W (h:Below W1.heap.size W1 W)=>fcells ((h.block _ (Array.getElem?_eq_some_iff.1 q1).1).trans q1))
        have HW:=Lib.hid hW1
        obtain ⟨c0,c1,c2,c3,c4,c5,c6,c7⟩:=fcells q1
        clear hb1 hW1 q1
        have hse:=str_neA s h3
        go_enter Tryd.func77,Tryd.ntmps77
        go_wp2_with fail
        rw [HW.out]
        refine (KZ.out _).mono ?_
        rintro r w9 ⟨rfl,h9⟩
        have HB2:=Lib.hid (HB.out.trans (h9.mono HB.out.size))
        have H19:=Lib.hid h9
        obtain ⟨c0,c1,c2,c3,c4,c5,c6,c7⟩:=HQ.out _ h9
        clear h9
        go_wp2_with fail
        go_ret
        exact BoolBelow.mk (by unfold soundB;simp [MT.c,MT.m,MT.k,blankB,h3]) HB2.out
      obtain rfl:=str_nilA s h3
      by_cases h4:kn=0
      case neg =>
        obtain ⟨W1,hW1⟩:∃ x,w.alloc (.cells #[.int .i64 1,.bool false,.bool false,.slice ma 0 mc,.int .i64 0,.string ⟨#[]⟩,.slice ka kn kc,.slice va vn vc] 28)=x:=⟨_,rfl⟩
        have hb1:Below w.heap.size w W1:=by rw [← hW1];exact (Below.refl _ _).alloc (Nat.le_refl _) _
        have q1:W1.heap[w.heap.size]? = some (.cells #[.int .i64 1,.bool false,.bool false,.slice ma 0 mc,.int .i64 0,.string ⟨#[]⟩,.slice ka kn kc,.slice va vn vc] 28):=by rw [← hW1];exact heap_alloc_new w _
        have HB:=Lib.hid hb1
        have HQ:=Lib.hid (fun W (h:Below W1.heap.size W1 W)=>fcells ((h.block _ (Array.getElem?_eq_some_iff.1 q1).1).trans q1))
        have HW:=Lib.hid hW1
        obtain ⟨c0,c1,c2,c3,c4,c5,c6,c7⟩:=fcells q1
        clear hb1 hW1 q1
        have hkz:(0:Int)<(kn:Int):=by omega
        go_enter Tryd.func77,Tryd.ntmps77
        go_wp2_with fail
        rw [HW.out]
        refine (KZ.out _).mono ?_
        rintro r w9 ⟨rfl,h9⟩
        have HB2:=Lib.hid (HB.out.trans (h9.mono HB.out.size))
        have H19:=Lib.hid h9
        obtain ⟨c0,c1,c2,c3,c4,c5,c6,c7⟩:=HQ.out _ h9
        clear h9
        go_wp2_with fail
        go_ret
        exact BoolBelow.mk (by unfold soundB;simp [MT.c,MT.m,MT.k,blankB,h4]) HB2.out
      subst h4
      by_cases h5:vn=0
      case neg =>
        obtain ⟨W1,hW1⟩:∃ x,w.alloc (.cells #[.int .i64 1,.bool false,.bool false,.slice ma 0 mc,.int .i64 0,.string ⟨#[]⟩,.slice ka 0 kc,.slice va vn vc] 28)=x:=⟨_,rfl⟩
        have hb1:Below w.heap.size w W1:=by rw [← hW1];exact (Below.refl _ _).alloc (Nat.le_refl _) _
        have q1:W1.heap[w.heap.size]? = some (.cells #[.int .i64 1,.bool false,.bool false,.slice ma 0 mc,.int .i64 0,.string ⟨#[]⟩,.slice ka 0 kc,.slice va vn vc] 28):=by rw [← hW1];exact heap_alloc_new w _
        have HB:=Lib.hid hb1
        have HQ:=Lib.hid (fun W (h:Below W1.heap.size W1 W)=>fcells ((h.block _ (Array.getElem?_eq_some_iff.1 q1).1).trans q1))
        have HW:=Lib.hid hW1
        obtain ⟨c0,c1,c2,c3,c4,c5,c6,c7⟩:=fcells q1
        clear hb1 hW1 q1
        have hvz:(0:Int)<(vn:Int):=by omega
        go_enter Tryd.func77,Tryd.ntmps77
        go_wp2_with fail
        rw [HW.out]
        refine (KZ.out _).mono ?_
        rintro r w9 ⟨rfl,h9⟩
        have HB2:=Lib.hid (HB.out.trans (h9.mono HB.out.size))
        have H19:=Lib.hid h9
        obtain ⟨c0,c1,c2,c3,c4,c5,c6,c7⟩:=HQ.out _ h9
        clear h9
        go_wp2_with fail
        go_ret
        exact BoolBelow.mk (by unfold soundB;simp [MT.c,MT.m,MT.k,blankB,h5]) HB2.out
      subst h5
      obtain ⟨W1,hW1⟩:∃ x,w.alloc (.cells #[.int .i64 1,.bool false,.bool false,.slice ma 0 mc,.int .i64 0,.string ⟨#[]⟩,.slice ka 0 kc,.slice va 0 vc] 28)=x:=⟨_,rfl⟩
      have hb1:Below w.heap.size w W1:=by rw [← hW1];exact (Below.refl _ _).alloc (Nat.le_refl _) _
      have q1:W1.heap[w.heap.size]? = some (.cells #[.int .i64 1,.bool false,.bool false,.slice ma 0 mc,.int .i64 0,.string ⟨#[]⟩,.slice ka 0 kc,.slice va 0 vc] 28):=by rw [← hW1];exact heap_alloc_new w _
      have HB:=Lib.hid hb1
      have HQ:=Lib.hid (fun W (h:Below W1.heap.size W1 W)=>fcells ((h.block _ (Array.getElem?_eq_some_iff.1 q1).1).trans q1))
      have HW:=Lib.hid hW1
      obtain ⟨c0,c1,c2,c3,c4,c5,c6,c7⟩:=fcells q1
      clear hb1 hW1 q1
      go_enter Tryd.func77,Tryd.ntmps77
      go_wp2_with fail
      rw [HW.out]
      refine (KZ.out _).mono ?_
      rintro r w9 ⟨rfl,h9⟩
      have HB2:=Lib.hid (HB.out.trans (h9.mono HB.out.size))
      have H19:=Lib.hid h9
      obtain ⟨c0,c1,c2,c3,c4,c5,c6,c7⟩:=HQ.out _ h9
      clear h9
      go_wp2_with fail
      go_ret
      exact BoolBelow.mk (by unfold soundB;simp [MT.c,blankB,empA]) HB2.out
theorem refFields_2 (b0 neg:Bool) (ma:Option Addr) (mn mc:Nat) (e:Int) (s:ByteArray) (ka:Option Addr) (kn kc:Nat) (va:Option Addr) (vn vc:Nat) (m:List Nat) (ks:List ByteArray) (vs:List MT) (w:World) (hs:s.size≤1000000) :
    Calls Tryd.prog 77 #[.agg #[.int .i64 2,.bool b0,.bool neg,.slice ma mn mc,.int .i64 e,.string s,.slice ka kn kc,.slice va vn vc]] w (BoolBelow (soundB (.mk ⟨2,b0,neg,ma,mn,mc,e,s,ka,kn,kc,va,vn,vc⟩ m ks vs)) w):=by
  have KZ:=Lib.hid (fun W=>refZero_any neg ma mn mc e W)
  cases hz:zeroB neg mn e with
  | false =>
    rw [hz] at KZ
    obtain ⟨W1,hW1⟩:∃ x,w.alloc (.cells #[.int .i64 2,.bool b0,.bool neg,.slice ma mn mc,.int .i64 e,.string s,.slice ka kn kc,.slice va vn vc] 28)=x:=⟨_,rfl⟩
    have hb1:Below w.heap.size w W1:=by rw [← hW1];exact (Below.refl _ _).alloc (Nat.le_refl _) _
    have q1:W1.heap[w.heap.size]? = some (.cells #[.int .i64 2,.bool b0,.bool neg,.slice ma mn mc,.int .i64 e,.string s,.slice ka kn kc,.slice va vn vc] 28):=by rw [← hW1];exact heap_alloc_new w _
    have HB:=Lib.hid hb1
    have HQ:=Lib.hid (fun W (h:Below W1.heap.size W1 W)=>fcells ((h.block _ (Array.getElem?_eq_some_iff.1 q1).1).trans q1))
    have HW:=Lib.hid hW1
    obtain ⟨c0,c1,c2,c3,c4,c5,c6,c7⟩:=fcells q1
    clear hb1 hW1 q1
    go_enter Tryd.func77,Tryd.ntmps77
    go_wp2_with fail
    rw [HW.out]
    refine (KZ.out _).mono ?_
    rintro r w9 ⟨rfl,h9⟩
    have HB2:=Lib.hid (HB.out.trans (h9.mono HB.out.size))
    have H19:=Lib.hid h9
    obtain ⟨c0,c1,c2,c3,c4,c5,c6,c7⟩:=HQ.out _ h9
    clear h9
    go_wp2_with fail
    go_ret
    exact BoolBelow.mk (by unfold soundB;simp only [MT.c,MT.m,MT.k];simp [blank_num (c:=⟨2,false,neg,ma,mn,mc,e,s,ka,kn,kc,va,vn,vc⟩) hz]) HB2.out
  | true =>
    rw [hz] at KZ
    obtain ⟨rfl,rfl,rfl⟩:=zero_yes hz
    by_cases h3:s.size=0
    case neg =>
      obtain ⟨W1,hW1⟩:∃ x,w.alloc (.cells #[.int .i64 2,.bool b0,.bool false,.slice ma 0 mc,.int .i64 0,.string s,.slice ka kn kc,.slice va vn vc] 28)=x:=⟨_,rfl⟩
      have hb1:Below w.heap.size w W1:=by rw [← hW1];exact (Below.refl _ _).alloc (Nat.le_refl _) _
      have q1:W1.heap[w.heap.size]? = some (.cells #[.int .i64 2,.bool b0,.bool false,.slice ma 0 mc,.int .i64 0,.string s,.slice ka kn kc,.slice va vn vc] 28):=by rw [← hW1];exact heap_alloc_new w _
      have HB:=Lib.hid hb1
      have HQ:=Lib.hid (fun W (h:Below W1.heap.size W1 W)=>fcells ((h.block _ (Array.getElem?_eq_some_iff.1 q1).1).trans q1))
      have HW:=Lib.hid hW1
      obtain ⟨c0,c1,c2,c3,c4,c5,c6,c7⟩:=fcells q1
      clear hb1 hW1 q1
      have hse:=str_neA s h3
      go_enter Tryd.func77,Tryd.ntmps77
      go_wp2_with fail
      rw [HW.out]
      refine (KZ.out _).mono ?_
      rintro r w9 ⟨rfl,h9⟩
      have HB2:=Lib.hid (HB.out.trans (h9.mono HB.out.size))
      have H19:=Lib.hid h9
      obtain ⟨c0,c1,c2,c3,c4,c5,c6,c7⟩:=HQ.out _ h9
      clear h9
      go_wp2_with fail
      go_ret
      exact BoolBelow.mk (by unfold soundB;simp [MT.c,MT.m,MT.k,blankB,h3]) HB2.out
    obtain rfl:=str_nilA s h3
    by_cases h4:kn=0
    case neg =>
      obtain ⟨W1,hW1⟩:∃ x,w.alloc (.cells #[.int .i64 2,.bool b0,.bool false,.slice ma 0 mc,.int .i64 0,.string ⟨#[]⟩,.slice ka kn kc,.slice va vn vc] 28)=x:=⟨_,rfl⟩
      have hb1:Below w.heap.size w W1:=by rw [← hW1];exact (Below.refl _ _).alloc (Nat.le_refl _) _
      have q1:W1.heap[w.heap.size]? = some (.cells #[.int .i64 2,.bool b0,.bool false,.slice ma 0 mc,.int .i64 0,.string ⟨#[]⟩,.slice ka kn kc,.slice va vn vc] 28):=by rw [← hW1];exact heap_alloc_new w _
      have HB:=Lib.hid hb1
      have HQ:=Lib.hid (fun W (h:Below W1.heap.size W1 W)=>fcells ((h.block _ (Array.getElem?_eq_some_iff.1 q1).1).trans q1))
      have HW:=Lib.hid hW1
      obtain ⟨c0,c1,c2,c3,c4,c5,c6,c7⟩:=fcells q1
      clear hb1 hW1 q1
      have hkz:(0:Int)<(kn:Int):=by omega
      go_enter Tryd.func77,Tryd.ntmps77
      go_wp2_with fail
      rw [HW.out]
      refine (KZ.out _).mono ?_
      rintro r w9 ⟨rfl,h9⟩
      have HB2:=Lib.hid (HB.out.trans (h9.mono HB.out.size))
      have H19:=Lib.hid h9
      obtain ⟨c0,c1,c2,c3,c4,c5,c6,c7⟩:=HQ.out _ h9
      clear h9
      go_wp2_with fail
      go_ret
      exact BoolBelow.mk (by unfold soundB;simp [MT.c,MT.m,MT.k,blankB,h4]) HB2.out
    subst h4
    by_cases h5:vn=0
    case neg =>
      obtain ⟨W1,hW1⟩:∃ x,w.alloc (.cells #[.int .i64 2,.bool b0,.bool false,.slice ma 0 mc,.int .i64 0,.string ⟨#[]⟩,.slice ka 0 kc,.slice va vn vc] 28)=x:=⟨_,rfl⟩
      have hb1:Below w.heap.size w W1:=by rw [← hW1];exact (Below.refl _ _).alloc (Nat.le_refl _) _
      have q1:W1.heap[w.heap.size]? = some (.cells #[.int .i64 2,.bool b0,.bool false,.slice ma 0 mc,.int .i64 0,.string ⟨#[]⟩,.slice ka 0 kc,.slice va vn vc] 28):=by rw [← hW1];exact heap_alloc_new w _
      have HB:=Lib.hid hb1
      have HQ:=Lib.hid (fun W (h:Below W1.heap.size W1 W)=>fcells ((h.block _ (Array.getElem?_eq_some_iff.1 q1).1).trans q1))
      have HW:=Lib.hid hW1
      obtain ⟨c0,c1,c2,c3,c4,c5,c6,c7⟩:=fcells q1
      clear hb1 hW1 q1
      have hvz:(0:Int)<(vn:Int):=by omega
      go_enter Tryd.func77,Tryd.ntmps77
      go_wp2_with fail
      rw [HW.out]
      refine (KZ.out _).mono ?_
      rintro r w9 ⟨rfl,h9⟩
      have HB2:=Lib.hid (HB.out.trans (h9.mono HB.out.size))
      have H19:=Lib.hid h9
      obtain ⟨c0,c1,c2,c3,c4,c5,c6,c7⟩:=HQ.out _ h9
      clear h9
      go_wp2_with fail
      go_ret
      exact BoolBelow.mk (by unfold soundB;simp [MT.c,MT.m,MT.k,blankB,h5]) HB2.out
    subst h5
    obtain ⟨W1,hW1⟩:∃ x,w.alloc (.cells #[.int .i64 2,.bool b0,.bool false,.slice ma 0 mc,.int .i64 0,.string ⟨#[]⟩,.slice ka 0 kc,.slice va 0 vc] 28)=x:=⟨_,rfl⟩
    have hb1:Below w.heap.size w W1:=by rw [← hW1];exact (Below.refl _ _).alloc (Nat.le_refl _) _
    have q1:W1.heap[w.heap.size]? = some (.cells #[.int .i64 2,.bool b0,.bool false,.slice ma 0 mc,.int .i64 0,.string ⟨#[]⟩,.slice ka 0 kc,.slice va 0 vc] 28):=by rw [← hW1];exact heap_alloc_new w _
    have HB:=Lib.hid hb1
    have HQ:=Lib.hid (fun W (h:Below W1.heap.size W1 W)=>fcells ((h.block _ (Array.getElem?_eq_some_iff.1 q1).1).trans q1))
    have HW:=Lib.hid hW1
    obtain ⟨c0,c1,c2,c3,c4,c5,c6,c7⟩:=fcells q1
    clear hb1 hW1 q1
    go_enter Tryd.func77,Tryd.ntmps77
    go_wp2_with fail
    rw [HW.out]
    refine (KZ.out _).mono ?_
    rintro r w9 ⟨rfl,h9⟩
    have HB2:=Lib.hid (HB.out.trans (h9.mono HB.out.size))
    have H19:=Lib.hid h9
    obtain ⟨c0,c1,c2,c3,c4,c5,c6,c7⟩:=HQ.out _ h9
    clear h9
    go_wp2_with fail
    go_ret
    exact BoolBelow.mk (by unfold soundB;simp [MT.c,blankB,empA]) HB2.out
theorem refFields_3 (b0 neg:Bool) (ma:Option Addr) (mn mc:Nat) (e:Int) (s:ByteArray) (ka:Option Addr) (kn kc:Nat) (va:Option Addr) (vn vc:Nat) (m:List Nat) (ks:List ByteArray) (vs:List MT) (w:World) (hs:s.size≤1000000) (hm1:m.length=mn) (hm2:mn≤mc) (hm3:mn≤100000000) (hm4:Okl m) (hm5:Rd w ma m) :
    Calls Tryd.prog 77 #[.agg #[.int .i64 3,.bool b0,.bool neg,.slice ma mn mc,.int .i64 e,.string s,.slice ka kn kc,.slice va vn vc]] w (BoolBelow (soundB (.mk ⟨3,b0,neg,ma,mn,mc,e,s,ka,kn,kc,va,vn,vc⟩ m ks vs)) w):=by
  cases b0 with
  | true =>
    obtain ⟨W1,hW1⟩:∃ x,w.alloc (.cells #[.int .i64 3,.bool true,.bool neg,.slice ma mn mc,.int .i64 e,.string s,.slice ka kn kc,.slice va vn vc] 28)=x:=⟨_,rfl⟩
    have hb1:Below w.heap.size w W1:=by rw [← hW1];exact (Below.refl _ _).alloc (Nat.le_refl _) _
    have q1:W1.heap[w.heap.size]? = some (.cells #[.int .i64 3,.bool true,.bool neg,.slice ma mn mc,.int .i64 e,.string s,.slice ka kn kc,.slice va vn vc] 28):=by rw [← hW1];exact heap_alloc_new w _
    have HB:=Lib.hid hb1
    have HQ:=Lib.hid (fun W (h:Below W1.heap.size W1 W)=>fcells ((h.block _ (Array.getElem?_eq_some_iff.1 q1).1).trans q1))
    have HW:=Lib.hid hW1
    obtain ⟨c0,c1,c2,c3,c4,c5,c6,c7⟩:=fcells q1
    clear hb1 hW1 q1
    go_enter Tryd.func77,Tryd.ntmps77
    go_wp2_with fail
    rw [HW.out]
    go_ret
    exact BoolBelow.mk (by unfold soundB;simp [MT.c,MT.m,MT.k,blankB]) HB.out
  | false =>
    by_cases h3:s.size=0
    case neg =>
      obtain ⟨W1,hW1⟩:∃ x,w.alloc (.cells #[.int .i64 3,.bool false,.bool neg,.slice ma mn mc,.int .i64 e,.string s,.slice ka kn kc,.slice va vn vc] 28)=x:=⟨_,rfl⟩
      have hb1:Below w.heap.size w W1:=by rw [← hW1];exact (Below.refl _ _).alloc (Nat.le_refl _) _
      have q1:W1.heap[w.heap.size]? = some (.cells #[.int .i64 3,.bool false,.bool neg,.slice ma mn mc,.int .i64 e,.string s,.slice ka kn kc,.slice va vn vc] 28):=by rw [← hW1];exact heap_alloc_new w _
      have HB:=Lib.hid hb1
      have HQ:=Lib.hid (fun W (h:Below W1.heap.size W1 W)=>fcells ((h.block _ (Array.getElem?_eq_some_iff.1 q1).1).trans q1))
      have HW:=Lib.hid hW1
      obtain ⟨c0,c1,c2,c3,c4,c5,c6,c7⟩:=fcells q1
      clear hb1 hW1 q1
      have hse:=str_neA s h3
      go_enter Tryd.func77,Tryd.ntmps77
      go_wp2_with fail
      rw [HW.out]
      go_ret
      exact BoolBelow.mk (by unfold soundB;simp [MT.c,MT.m,MT.k,blankB,h3]) HB.out
    obtain rfl:=str_nilA s h3
    by_cases h4:kn=0
    case neg =>
      obtain ⟨W1,hW1⟩:∃ x,w.alloc (.cells #[.int .i64 3,.bool false,.bool neg,.slice ma mn mc,.int .i64 e,.string ⟨#[]⟩,.slice ka kn kc,.slice va vn vc] 28)=x:=⟨_,rfl⟩
      have hb1:Below w.heap.size w W1:=by rw [← hW1];exact (Below.refl _ _).alloc (Nat.le_refl _) _
      have q1:W1.heap[w.heap.size]? = some (.cells #[.int .i64 3,.bool false,.bool neg,.slice ma mn mc,.int .i64 e,.string ⟨#[]⟩,.slice ka kn kc,.slice va vn vc] 28):=by rw [← hW1];exact heap_alloc_new w _
      have HB:=Lib.hid hb1
      have HQ:=Lib.hid (fun W (h:Below W1.heap.size W1 W)=>fcells ((h.block _ (Array.getElem?_eq_some_iff.1 q1).1).trans q1))
      have HW:=Lib.hid hW1
      obtain ⟨c0,c1,c2,c3,c4,c5,c6,c7⟩:=fcells q1
      clear hb1 hW1 q1
      have hkz:(0:Int)<(kn:Int):=by omega
      go_enter Tryd.func77,Tryd.ntmps77
      go_wp2_with fail
      rw [HW.out]
      go_ret
      exact BoolBelow.mk (by unfold soundB;simp [MT.c,MT.m,MT.k,blankB,h4]) HB.out
    subst h4
    by_cases h5:vn=0
    case neg =>
      obtain ⟨W1,hW1⟩:∃ x,w.alloc (.cells #[.int .i64 3,.bool false,.bool neg,.slice ma mn mc,.int .i64 e,.string ⟨#[]⟩,.slice ka 0 kc,.slice va vn vc] 28)=x:=⟨_,rfl⟩
      have hb1:Below w.heap.size w W1:=by rw [← hW1];exact (Below.refl _ _).alloc (Nat.le_refl _) _
      have q1:W1.heap[w.heap.size]? = some (.cells #[.int .i64 3,.bool false,.bool neg,.slice ma mn mc,.int .i64 e,.string ⟨#[]⟩,.slice ka 0 kc,.slice va vn vc] 28):=by rw [← hW1];exact heap_alloc_new w _
      have HB:=Lib.hid hb1
      have HQ:=Lib.hid (fun W (h:Below W1.heap.size W1 W)=>fcells ((h.block _ (Array.getElem?_eq_some_iff.1 q1).1).trans q1))
      have HW:=Lib.hid hW1
      obtain ⟨c0,c1,c2,c3,c4,c5,c6,c7⟩:=fcells q1
      clear hb1 hW1 q1
      have hvz:(0:Int)<(vn:Int):=by omega
      go_enter Tryd.func77,Tryd.ntmps77
      go_wp2_with fail
      rw [HW.out]
      go_ret
      exact BoolBelow.mk (by unfold soundB;simp [MT.c,MT.m,MT.k,blankB,h5]) HB.out
    subst h5
    have KC:=Lib.hid (fun W (h:Below w.heap.size w W)=>refCheck_any neg ma mn mc m e W hm1 hm2 hm3 hm4 (hm5.below h))
    obtain ⟨W1,hW1⟩:∃ x,w.alloc (.cells #[.int .i64 3,.bool false,.bool neg,.slice ma mn mc,.int .i64 e,.string ⟨#[]⟩,.slice ka 0 kc,.slice va 0 vc] 28)=x:=⟨_,rfl⟩
    have hb1:Below w.heap.size w W1:=by rw [← hW1];exact (Below.refl _ _).alloc (Nat.le_refl _) _
    have q1:W1.heap[w.heap.size]? = some (.cells #[.int .i64 3,.bool false,.bool neg,.slice ma mn mc,.int .i64 e,.string ⟨#[]⟩,.slice ka 0 kc,.slice va 0 vc] 28):=by rw [← hW1];exact heap_alloc_new w _
    have HB:=Lib.hid hb1
    have HQ:=Lib.hid (fun W (h:Below W1.heap.size W1 W)=>fcells ((h.block _ (Array.getElem?_eq_some_iff.1 q1).1).trans q1))
    have HW:=Lib.hid hW1
    obtain ⟨c0,c1,c2,c3,c4,c5,c6,c7⟩:=fcells q1
    clear hb1 hW1 q1
    go_enter Tryd.func77,Tryd.ntmps77
    go_wp2_with fail
    rw [HW.out]
    refine (KC.out _ HB.out).mono ?_
    rintro r w8 ⟨rfl,h8⟩
    have HB3:=Lib.hid (HB.out.trans (h8.mono HB.out.size))
    clear h8
    go_wp2_with fail
    go_ret
    exact BoolBelow.mk (by unfold soundB;simp [MT.c,MT.m,blankB,empA]) HB3.out
theorem refFields_4 (b0 neg:Bool) (ma:Option Addr) (mn mc:Nat) (e:Int) (s:ByteArray) (ka:Option Addr) (kn kc:Nat) (va:Option Addr) (vn vc:Nat) (m:List Nat) (ks:List ByteArray) (vs:List MT) (w:World) (hs:s.size≤1000000) :
    Calls Tryd.prog 77 #[.agg #[.int .i64 4,.bool b0,.bool neg,.slice ma mn mc,.int .i64 e,.string s,.slice ka kn kc,.slice va vn vc]] w (BoolBelow (soundB (.mk ⟨4,b0,neg,ma,mn,mc,e,s,ka,kn,kc,va,vn,vc⟩ m ks vs)) w):=by
  have KZ:=Lib.hid (fun W=>refZero_any neg ma mn mc e W)
  cases b0 with
  | true =>
    obtain ⟨W1,hW1⟩:∃ x,w.alloc (.cells #[.int .i64 4,.bool true,.bool neg,.slice ma mn mc,.int .i64 e,.string s,.slice ka kn kc,.slice va vn vc] 28)=x:=⟨_,rfl⟩
    have hb1:Below w.heap.size w W1:=by rw [← hW1];exact (Below.refl _ _).alloc (Nat.le_refl _) _
    have q1:W1.heap[w.heap.size]? = some (.cells #[.int .i64 4,.bool true,.bool neg,.slice ma mn mc,.int .i64 e,.string s,.slice ka kn kc,.slice va vn vc] 28):=by rw [← hW1];exact heap_alloc_new w _
    have HB:=Lib.hid hb1
    have HQ:=Lib.hid (fun W (h:Below W1.heap.size W1 W)=>fcells ((h.block _ (Array.getElem?_eq_some_iff.1 q1).1).trans q1))
    have HW:=Lib.hid hW1
    obtain ⟨c0,c1,c2,c3,c4,c5,c6,c7⟩:=fcells q1
    clear hb1 hW1 q1
    go_enter Tryd.func77,Tryd.ntmps77
    go_wp2_with fail
    rw [HW.out]
    go_ret
    exact BoolBelow.mk (by unfold soundB;simp [MT.c,MT.m,MT.k,blankB]) HB.out
  | false =>
    cases hz:zeroB neg mn e with
    | false =>
      rw [hz] at KZ
      obtain ⟨W1,hW1⟩:∃ x,w.alloc (.cells #[.int .i64 4,.bool false,.bool neg,.slice ma mn mc,.int .i64 e,.string s,.slice ka kn kc,.slice va vn vc] 28)=x:=⟨_,rfl⟩
      have hb1:Below w.heap.size w W1:=by rw [← hW1];exact (Below.refl _ _).alloc (Nat.le_refl _) _
      have q1:W1.heap[w.heap.size]? = some (.cells #[.int .i64 4,.bool false,.bool neg,.slice ma mn mc,.int .i64 e,.string s,.slice ka kn kc,.slice va vn vc] 28):=by rw [← hW1];exact heap_alloc_new w _
      have HB:=Lib.hid hb1
      have HQ:=Lib.hid (fun W (h:Below W1.heap.size W1 W)=>fcells ((h.block _ (Array.getElem?_eq_some_iff.1 q1).1).trans q1))
      have HW:=Lib.hid hW1
      obtain ⟨c0,c1,c2,c3,c4,c5,c6,c7⟩:=fcells q1
      clear hb1 hW1 q1
      go_enter Tryd.func77,Tryd.ntmps77
      go_wp2_with fail
      rw [HW.out]
      refine (KZ.out _).mono ?_
      rintro r w9 ⟨rfl,h9⟩
      have HB2:=Lib.hid (HB.out.trans (h9.mono HB.out.size))
      have H19:=Lib.hid h9
      obtain ⟨c0,c1,c2,c3,c4,c5,c6,c7⟩:=HQ.out _ h9
      clear h9
      go_wp2_with fail
      go_ret
      exact BoolBelow.mk (by unfold soundB;simp only [MT.c,MT.m,MT.k];simp [blank_num (c:=⟨4,false,neg,ma,mn,mc,e,⟨#[]⟩,ka,kn,kc,va,vn,vc⟩) hz]) HB2.out
    | true =>
      rw [hz] at KZ
      obtain ⟨rfl,rfl,rfl⟩:=zero_yes hz
      by_cases h4:kn=0
      case neg =>
        obtain ⟨W1,hW1⟩:∃ x,w.alloc (.cells #[.int .i64 4,.bool false,.bool false,.slice ma 0 mc,.int .i64 0,.string s,.slice ka kn kc,.slice va vn vc] 28)=x:=⟨_,rfl⟩
        have hb1:Below w.heap.size w W1:=by rw [← hW1];exact (Below.refl _ _).alloc (Nat.le_refl _) _
        have q1:W1.heap[w.heap.size]? = some (.cells #[.int .i64 4,.bool false,.bool false,.slice ma 0 mc,.int .i64 0,.string s,.slice ka kn kc,.slice va vn vc] 28):=by rw [← hW1];exact heap_alloc_new w _
        have HB:=Lib.hid hb1
        have HQ:=Lib.hid (fun W (h:Below W1.heap.size W1 W)=>fcells ((h.block _ (Array.getElem?_eq_some_iff.1 q1).1).trans q1))
        have HW:=Lib.hid hW1
        obtain ⟨c0,c1,c2,c3,c4,c5,c6,c7⟩:=fcells q1
        clear hb1 hW1 q1
        have hkz:(0:Int)<(kn:Int):=by omega
        go_enter Tryd.func77,Tryd.ntmps77
        go_wp2_with fail
        rw [HW.out]
        refine (KZ.out _).mono ?_
        rintro r w9 ⟨rfl,h9⟩
        have HB2:=Lib.hid (HB.out.trans (h9.mono HB.out.size))
        have H19:=Lib.hid h9
        obtain ⟨c0,c1,c2,c3,c4,c5,c6,c7⟩:=HQ.out _ h9
        clear h9
        go_wp2_with fail
        go_ret
        exact BoolBelow.mk (by unfold soundB;simp [MT.c,MT.m,MT.k,blankB,h4]) HB2.out
      subst h4
      by_cases h5:vn=0
      case neg =>
        obtain ⟨W1,hW1⟩:∃ x,w.alloc (.cells #[.int .i64 4,.bool false,.bool false,.slice ma 0 mc,.int .i64 0,.string s,.slice ka 0 kc,.slice va vn vc] 28)=x:=⟨_,rfl⟩
        have hb1:Below w.heap.size w W1:=by rw [← hW1];exact (Below.refl _ _).alloc (Nat.le_refl _) _
        have q1:W1.heap[w.heap.size]? = some (.cells #[.int .i64 4,.bool false,.bool false,.slice ma 0 mc,.int .i64 0,.string s,.slice ka 0 kc,.slice va vn vc] 28):=by rw [← hW1];exact heap_alloc_new w _
        have HB:=Lib.hid hb1
        have HQ:=Lib.hid (fun W (h:Below W1.heap.size W1 W)=>fcells ((h.block _ (Array.getElem?_eq_some_iff.1 q1).1).trans q1))
        have HW:=Lib.hid hW1
        obtain ⟨c0,c1,c2,c3,c4,c5,c6,c7⟩:=fcells q1
        clear hb1 hW1 q1
        have hvz:(0:Int)<(vn:Int):=by omega
        go_enter Tryd.func77,Tryd.ntmps77
        go_wp2_with fail
        rw [HW.out]
        refine (KZ.out _).mono ?_
        rintro r w9 ⟨rfl,h9⟩
        have HB2:=Lib.hid (HB.out.trans (h9.mono HB.out.size))
        have H19:=Lib.hid h9
        obtain ⟨c0,c1,c2,c3,c4,c5,c6,c7⟩:=HQ.out _ h9
        clear h9
        go_wp2_with fail
        go_ret
        exact BoolBelow.mk (by unfold soundB;simp [MT.c,MT.m,MT.k,blankB,h5]) HB2.out
      subst h5
      have KV:=Lib.hid (fun W=>refValid_any s W hs)
      cases hv:validL s.data.toList with
      | false =>
        rw [hv] at KV
        obtain ⟨W1,hW1⟩:∃ x,w.alloc (.cells #[.int .i64 4,.bool false,.bool false,.slice ma 0 mc,.int .i64 0,.string s,.slice ka 0 kc,.slice va 0 vc] 28)=x:=⟨_,rfl⟩
        have hb1:Below w.heap.size w W1:=by rw [← hW1];exact (Below.refl _ _).alloc (Nat.le_refl _) _
        have q1:W1.heap[w.heap.size]? = some (.cells #[.int .i64 4,.bool false,.bool false,.slice ma 0 mc,.int .i64 0,.string s,.slice ka 0 kc,.slice va 0 vc] 28):=by rw [← hW1];exact heap_alloc_new w _
        have HB:=Lib.hid hb1
        have HQ:=Lib.hid (fun W (h:Below W1.heap.size W1 W)=>fcells ((h.block _ (Array.getElem?_eq_some_iff.1 q1).1).trans q1))
        have HW:=Lib.hid hW1
        obtain ⟨c0,c1,c2,c3,c4,c5,c6,c7⟩:=fcells q1
        clear hb1 hW1 q1
        go_enter Tryd.func77,Tryd.ntmps77
        go_wp2_with fail
        rw [HW.out]
        refine (KZ.out _).mono ?_
        rintro r w9 ⟨rfl,h9⟩
        have HB2:=Lib.hid (HB.out.trans (h9.mono HB.out.size))
        have H19:=Lib.hid h9
        obtain ⟨c0,c1,c2,c3,c4,c5,c6,c7⟩:=HQ.out _ h9
        clear h9
        go_wp2_with fail
        refine (KV.out _).mono ?_
        rintro r w8 ⟨rfl,h8⟩
        have HB3:=Lib.hid (HB2.out.trans (h8.mono HB2.out.size))
        obtain ⟨c0,c1,c2,c3,c4,c5,c6,c7⟩:=HQ.out _ (H19.out.trans (h8.mono H19.out.size))
        clear h8
        go_wp2_with fail
        go_ret
        exact BoolBelow.mk (by unfold soundB;simp [MT.c,blankB,hv]) HB3.out
      | true =>
        rw [hv] at KV
        by_cases h6:s.size≤2000
        case pos =>
          obtain ⟨W1,hW1⟩:∃ x,w.alloc (.cells #[.int .i64 4,.bool false,.bool false,.slice ma 0 mc,.int .i64 0,.string s,.slice ka 0 kc,.slice va 0 vc] 28)=x:=⟨_,rfl⟩
          have hb1:Below w.heap.size w W1:=by rw [← hW1];exact (Below.refl _ _).alloc (Nat.le_refl _) _
          have q1:W1.heap[w.heap.size]? = some (.cells #[.int .i64 4,.bool false,.bool false,.slice ma 0 mc,.int .i64 0,.string s,.slice ka 0 kc,.slice va 0 vc] 28):=by rw [← hW1];exact heap_alloc_new w _
          have HB:=Lib.hid hb1
          have HQ:=Lib.hid (fun W (h:Below W1.heap.size W1 W)=>fcells ((h.block _ (Array.getElem?_eq_some_iff.1 q1).1).trans q1))
          have HW:=Lib.hid hW1
          obtain ⟨c0,c1,c2,c3,c4,c5,c6,c7⟩:=fcells q1
          clear hb1 hW1 q1
          have h6z:(s.size:Int)≤2000:=by omega
          go_enter Tryd.func77,Tryd.ntmps77
          go_wp2_with fail
          rw [HW.out]
          refine (KZ.out _).mono ?_
          rintro r w9 ⟨rfl,h9⟩
          have HB2:=Lib.hid (HB.out.trans (h9.mono HB.out.size))
          have H19:=Lib.hid h9
          obtain ⟨c0,c1,c2,c3,c4,c5,c6,c7⟩:=HQ.out _ h9
          clear h9
          go_wp2_with fail
          refine (KV.out _).mono ?_
          rintro r w8 ⟨rfl,h8⟩
          have HB3:=Lib.hid (HB2.out.trans (h8.mono HB2.out.size))
          obtain ⟨c0,c1,c2,c3,c4,c5,c6,c7⟩:=HQ.out _ (H19.out.trans (h8.mono H19.out.size))
          clear h8
          go_wp2_with fail
          go_ret
          exact BoolBelow.mk (by unfold soundB;simp [MT.c,blankB,empA,hv,h6] <;> omega) HB3.out
        case neg =>
          obtain ⟨W1,hW1⟩:∃ x,w.alloc (.cells #[.int .i64 4,.bool false,.bool false,.slice ma 0 mc,.int .i64 0,.string s,.slice ka 0 kc,.slice va 0 vc] 28)=x:=⟨_,rfl⟩
          have hb1:Below w.heap.size w W1:=by rw [← hW1];exact (Below.refl _ _).alloc (Nat.le_refl _) _
          have q1:W1.heap[w.heap.size]? = some (.cells #[.int .i64 4,.bool false,.bool false,.slice ma 0 mc,.int .i64 0,.string s,.slice ka 0 kc,.slice va 0 vc] 28):=by rw [← hW1];exact heap_alloc_new w _
          have HB:=Lib.hid hb1
          have HQ:=Lib.hid (fun W (h:Below W1.heap.size W1 W)=>fcells ((h.block _ (Array.getElem?_eq_some_iff.1 q1).1).trans q1))
          have HW:=Lib.hid hW1
          obtain ⟨c0,c1,c2,c3,c4,c5,c6,c7⟩:=fcells q1
          clear hb1 hW1 q1
          have h6z:¬ (s.size:Int)≤2000:=by omega
          go_enter Tryd.func77,Tryd.ntmps77
          go_wp2_with fail
          rw [HW.out]
          refine (KZ.out _).mono ?_
          rintro r w9 ⟨rfl,h9⟩
          have HB2:=Lib.hid (HB.out.trans (h9.mono HB.out.size))
          have H19:=Lib.hid h9
          obtain ⟨c0,c1,c2,c3,c4,c5,c6,c7⟩:=HQ.out _ h9
          clear h9
          go_wp2_with fail
          refine (KV.out _).mono ?_
          rintro r w8 ⟨rfl,h8⟩
          have HB3:=Lib.hid (HB2.out.trans (h8.mono HB2.out.size))
          obtain ⟨c0,c1,c2,c3,c4,c5,c6,c7⟩:=HQ.out _ (H19.out.trans (h8.mono H19.out.size))
          clear h8
          go_wp2_with fail
          go_ret
          exact BoolBelow.mk (by unfold soundB;simp [MT.c,blankB,empA,hv,h6] <;> omega) HB3.out
theorem refFields_5 (b0 neg:Bool) (ma:Option Addr) (mn mc:Nat) (e:Int) (s:ByteArray) (ka:Option Addr) (kn kc:Nat) (va:Option Addr) (vn vc:Nat) (m:List Nat) (ks:List ByteArray) (vs:List MT) (w:World) (hs:s.size≤1000000) :
    Calls Tryd.prog 77 #[.agg #[.int .i64 5,.bool b0,.bool neg,.slice ma mn mc,.int .i64 e,.string s,.slice ka kn kc,.slice va vn vc]] w (BoolBelow (soundB (.mk ⟨5,b0,neg,ma,mn,mc,e,s,ka,kn,kc,va,vn,vc⟩ m ks vs)) w):=by
  have KZ:=Lib.hid (fun W=>refZero_any neg ma mn mc e W)
  cases b0 with
  | true =>
    obtain ⟨W1,hW1⟩:∃ x,w.alloc (.cells #[.int .i64 5,.bool true,.bool neg,.slice ma mn mc,.int .i64 e,.string s,.slice ka kn kc,.slice va vn vc] 28)=x:=⟨_,rfl⟩
    have hb1:Below w.heap.size w W1:=by rw [← hW1];exact (Below.refl _ _).alloc (Nat.le_refl _) _
    have q1:W1.heap[w.heap.size]? = some (.cells #[.int .i64 5,.bool true,.bool neg,.slice ma mn mc,.int .i64 e,.string s,.slice ka kn kc,.slice va vn vc] 28):=by rw [← hW1];exact heap_alloc_new w _
    have HB:=Lib.hid hb1
    have HQ:=Lib.hid (fun W (h:Below W1.heap.size W1 W)=>fcells ((h.block _ (Array.getElem?_eq_some_iff.1 q1).1).trans q1))
    have HW:=Lib.hid hW1
    obtain ⟨c0,c1,c2,c3,c4,c5,c6,c7⟩:=fcells q1
    clear hb1 hW1 q1
    go_enter Tryd.func77,Tryd.ntmps77
    go_wp2_with fail
    rw [HW.out]
    go_ret
    exact BoolBelow.mk (by unfold soundB;simp [MT.c,MT.m,MT.k,blankB]) HB.out
  | false =>
    cases hz:zeroB neg mn e with
    | false =>
      rw [hz] at KZ
      obtain ⟨W1,hW1⟩:∃ x,w.alloc (.cells #[.int .i64 5,.bool false,.bool neg,.slice ma mn mc,.int .i64 e,.string s,.slice ka kn kc,.slice va vn vc] 28)=x:=⟨_,rfl⟩
      have hb1:Below w.heap.size w W1:=by rw [← hW1];exact (Below.refl _ _).alloc (Nat.le_refl _) _
      have q1:W1.heap[w.heap.size]? = some (.cells #[.int .i64 5,.bool false,.bool neg,.slice ma mn mc,.int .i64 e,.string s,.slice ka kn kc,.slice va vn vc] 28):=by rw [← hW1];exact heap_alloc_new w _
      have HB:=Lib.hid hb1
      have HQ:=Lib.hid (fun W (h:Below W1.heap.size W1 W)=>fcells ((h.block _ (Array.getElem?_eq_some_iff.1 q1).1).trans q1))
      have HW:=Lib.hid hW1
      obtain ⟨c0,c1,c2,c3,c4,c5,c6,c7⟩:=fcells q1
      clear hb1 hW1 q1
      go_enter Tryd.func77,Tryd.ntmps77
      go_wp2_with fail
      rw [HW.out]
      refine (KZ.out _).mono ?_
      rintro r w9 ⟨rfl,h9⟩
      have HB2:=Lib.hid (HB.out.trans (h9.mono HB.out.size))
      have H19:=Lib.hid h9
      obtain ⟨c0,c1,c2,c3,c4,c5,c6,c7⟩:=HQ.out _ h9
      clear h9
      go_wp2_with fail
      go_ret
      exact BoolBelow.mk (by unfold soundB;simp only [MT.c,MT.m,MT.k];simp [blank_num (c:=⟨5,false,neg,ma,mn,mc,e,⟨#[]⟩,ka,kn,kc,va,vn,vc⟩) hz]) HB2.out
    | true =>
      rw [hz] at KZ
      obtain ⟨rfl,rfl,rfl⟩:=zero_yes hz
      by_cases h4:kn=0
      case neg =>
        obtain ⟨W1,hW1⟩:∃ x,w.alloc (.cells #[.int .i64 5,.bool false,.bool false,.slice ma 0 mc,.int .i64 0,.string s,.slice ka kn kc,.slice va vn vc] 28)=x:=⟨_,rfl⟩
        have hb1:Below w.heap.size w W1:=by rw [← hW1];exact (Below.refl _ _).alloc (Nat.le_refl _) _
        have q1:W1.heap[w.heap.size]? = some (.cells #[.int .i64 5,.bool false,.bool false,.slice ma 0 mc,.int .i64 0,.string s,.slice ka kn kc,.slice va vn vc] 28):=by rw [← hW1];exact heap_alloc_new w _
        have HB:=Lib.hid hb1
        have HQ:=Lib.hid (fun W (h:Below W1.heap.size W1 W)=>fcells ((h.block _ (Array.getElem?_eq_some_iff.1 q1).1).trans q1))
        have HW:=Lib.hid hW1
        obtain ⟨c0,c1,c2,c3,c4,c5,c6,c7⟩:=fcells q1
        clear hb1 hW1 q1
        have hkz:(0:Int)<(kn:Int):=by omega
        go_enter Tryd.func77,Tryd.ntmps77
        go_wp2_with fail
        rw [HW.out]
        refine (KZ.out _).mono ?_
        rintro r w9 ⟨rfl,h9⟩
        have HB2:=Lib.hid (HB.out.trans (h9.mono HB.out.size))
        have H19:=Lib.hid h9
        obtain ⟨c0,c1,c2,c3,c4,c5,c6,c7⟩:=HQ.out _ h9
        clear h9
        go_wp2_with fail
        go_ret
        exact BoolBelow.mk (by unfold soundB;simp [MT.c,MT.m,MT.k,blankB,h4]) HB2.out
      subst h4
      by_cases h5:vn=0
      case neg =>
        obtain ⟨W1,hW1⟩:∃ x,w.alloc (.cells #[.int .i64 5,.bool false,.bool false,.slice ma 0 mc,.int .i64 0,.string s,.slice ka 0 kc,.slice va vn vc] 28)=x:=⟨_,rfl⟩
        have hb1:Below w.heap.size w W1:=by rw [← hW1];exact (Below.refl _ _).alloc (Nat.le_refl _) _
        have q1:W1.heap[w.heap.size]? = some (.cells #[.int .i64 5,.bool false,.bool false,.slice ma 0 mc,.int .i64 0,.string s,.slice ka 0 kc,.slice va vn vc] 28):=by rw [← hW1];exact heap_alloc_new w _
        have HB:=Lib.hid hb1
        have HQ:=Lib.hid (fun W (h:Below W1.heap.size W1 W)=>fcells ((h.block _ (Array.getElem?_eq_some_iff.1 q1).1).trans q1))
        have HW:=Lib.hid hW1
        obtain ⟨c0,c1,c2,c3,c4,c5,c6,c7⟩:=fcells q1
        clear hb1 hW1 q1
        have hvz:(0:Int)<(vn:Int):=by omega
        go_enter Tryd.func77,Tryd.ntmps77
        go_wp2_with fail
        rw [HW.out]
        refine (KZ.out _).mono ?_
        rintro r w9 ⟨rfl,h9⟩
        have HB2:=Lib.hid (HB.out.trans (h9.mono HB.out.size))
        have H19:=Lib.hid h9
        obtain ⟨c0,c1,c2,c3,c4,c5,c6,c7⟩:=HQ.out _ h9
        clear h9
        go_wp2_with fail
        go_ret
        exact BoolBelow.mk (by unfold soundB;simp [MT.c,MT.m,MT.k,blankB,h5]) HB2.out
      subst h5
      by_cases h6:s.size≤2000
      case pos =>
        obtain ⟨W1,hW1⟩:∃ x,w.alloc (.cells #[.int .i64 5,.bool false,.bool false,.slice ma 0 mc,.int .i64 0,.string s,.slice ka 0 kc,.slice va 0 vc] 28)=x:=⟨_,rfl⟩
        have hb1:Below w.heap.size w W1:=by rw [← hW1];exact (Below.refl _ _).alloc (Nat.le_refl _) _
        have q1:W1.heap[w.heap.size]? = some (.cells #[.int .i64 5,.bool false,.bool false,.slice ma 0 mc,.int .i64 0,.string s,.slice ka 0 kc,.slice va 0 vc] 28):=by rw [← hW1];exact heap_alloc_new w _
        have HB:=Lib.hid hb1
        have HQ:=Lib.hid (fun W (h:Below W1.heap.size W1 W)=>fcells ((h.block _ (Array.getElem?_eq_some_iff.1 q1).1).trans q1))
        have HW:=Lib.hid hW1
        obtain ⟨c0,c1,c2,c3,c4,c5,c6,c7⟩:=fcells q1
        clear hb1 hW1 q1
        have h6z:(s.size:Int)≤2000:=by omega
        go_enter Tryd.func77,Tryd.ntmps77
        go_wp2_with fail
        rw [HW.out]
        refine (KZ.out _).mono ?_
        rintro r w9 ⟨rfl,h9⟩
        have HB2:=Lib.hid (HB.out.trans (h9.mono HB.out.size))
        have H19:=Lib.hid h9
        obtain ⟨c0,c1,c2,c3,c4,c5,c6,c7⟩:=HQ.out _ h9
        clear h9
        go_wp2_with fail
        go_ret
        exact BoolBelow.mk (by unfold soundB;simp [MT.c,blankB,empA,h6] <;> omega) HB2.out
      case neg =>
        obtain ⟨W1,hW1⟩:∃ x,w.alloc (.cells #[.int .i64 5,.bool false,.bool false,.slice ma 0 mc,.int .i64 0,.string s,.slice ka 0 kc,.slice va 0 vc] 28)=x:=⟨_,rfl⟩
        have hb1:Below w.heap.size w W1:=by rw [← hW1];exact (Below.refl _ _).alloc (Nat.le_refl _) _
        have q1:W1.heap[w.heap.size]? = some (.cells #[.int .i64 5,.bool false,.bool false,.slice ma 0 mc,.int .i64 0,.string s,.slice ka 0 kc,.slice va 0 vc] 28):=by rw [← hW1];exact heap_alloc_new w _
        have HB:=Lib.hid hb1
        have HQ:=Lib.hid (fun W (h:Below W1.heap.size W1 W)=>fcells ((h.block _ (Array.getElem?_eq_some_iff.1 q1).1).trans q1))
        have HW:=Lib.hid hW1
        obtain ⟨c0,c1,c2,c3,c4,c5,c6,c7⟩:=fcells q1
        clear hb1 hW1 q1
        have h6z:¬ (s.size:Int)≤2000:=by omega
        go_enter Tryd.func77,Tryd.ntmps77
        go_wp2_with fail
        rw [HW.out]
        refine (KZ.out _).mono ?_
        rintro r w9 ⟨rfl,h9⟩
        have HB2:=Lib.hid (HB.out.trans (h9.mono HB.out.size))
        have H19:=Lib.hid h9
        obtain ⟨c0,c1,c2,c3,c4,c5,c6,c7⟩:=HQ.out _ h9
        clear h9
        go_wp2_with fail
        go_ret
        exact BoolBelow.mk (by unfold soundB;simp [MT.c,blankB,empA,h6] <;> omega) HB2.out
theorem refFields_6 (b0 neg:Bool) (ma:Option Addr) (mn mc:Nat) (e:Int) (s:ByteArray) (ka:Option Addr) (kn kc:Nat) (va:Option Addr) (vn vc:Nat) (m:List Nat) (ks:List ByteArray) (vs:List MT) (w:World) (hs:s.size≤1000000) :
    Calls Tryd.prog 77 #[.agg #[.int .i64 6,.bool b0,.bool neg,.slice ma mn mc,.int .i64 e,.string s,.slice ka kn kc,.slice va vn vc]] w (BoolBelow (soundB (.mk ⟨6,b0,neg,ma,mn,mc,e,s,ka,kn,kc,va,vn,vc⟩ m ks vs)) w):=by
  have KZ:=Lib.hid (fun W=>refZero_any neg ma mn mc e W)
  cases b0 with
  | true =>
    obtain ⟨W1,hW1⟩:∃ x,w.alloc (.cells #[.int .i64 6,.bool true,.bool neg,.slice ma mn mc,.int .i64 e,.string s,.slice ka kn kc,.slice va vn vc] 28)=x:=⟨_,rfl⟩
    have hb1:Below w.heap.size w W1:=by rw [← hW1];exact (Below.refl _ _).alloc (Nat.le_refl _) _
    have q1:W1.heap[w.heap.size]? = some (.cells #[.int .i64 6,.bool true,.bool neg,.slice ma mn mc,.int .i64 e,.string s,.slice ka kn kc,.slice va vn vc] 28):=by rw [← hW1];exact heap_alloc_new w _
    have HB:=Lib.hid hb1
    have HQ:=Lib.hid (fun W (h:Below W1.heap.size W1 W)=>fcells ((h.block _ (Array.getElem?_eq_some_iff.1 q1).1).trans q1))
    have HW:=Lib.hid hW1
    obtain ⟨c0,c1,c2,c3,c4,c5,c6,c7⟩:=fcells q1
    clear hb1 hW1 q1
    go_enter Tryd.func77,Tryd.ntmps77
    go_wp2_with fail
    rw [HW.out]
    go_ret
    exact BoolBelow.mk (by unfold soundB;simp [MT.c,MT.m,MT.k,blankB]) HB.out
  | false =>
    cases hz:zeroB neg mn e with
    | false =>
      rw [hz] at KZ
      obtain ⟨W1,hW1⟩:∃ x,w.alloc (.cells #[.int .i64 6,.bool false,.bool neg,.slice ma mn mc,.int .i64 e,.string s,.slice ka kn kc,.slice va vn vc] 28)=x:=⟨_,rfl⟩
      have hb1:Below w.heap.size w W1:=by rw [← hW1];exact (Below.refl _ _).alloc (Nat.le_refl _) _
      have q1:W1.heap[w.heap.size]? = some (.cells #[.int .i64 6,.bool false,.bool neg,.slice ma mn mc,.int .i64 e,.string s,.slice ka kn kc,.slice va vn vc] 28):=by rw [← hW1];exact heap_alloc_new w _
      have HB:=Lib.hid hb1
      have HQ:=Lib.hid (fun W (h:Below W1.heap.size W1 W)=>fcells ((h.block _ (Array.getElem?_eq_some_iff.1 q1).1).trans q1))
      have HW:=Lib.hid hW1
      obtain ⟨c0,c1,c2,c3,c4,c5,c6,c7⟩:=fcells q1
      clear hb1 hW1 q1
      go_enter Tryd.func77,Tryd.ntmps77
      go_wp2_with fail
      rw [HW.out]
      refine (KZ.out _).mono ?_
      rintro r w9 ⟨rfl,h9⟩
      have HB2:=Lib.hid (HB.out.trans (h9.mono HB.out.size))
      have H19:=Lib.hid h9
      obtain ⟨c0,c1,c2,c3,c4,c5,c6,c7⟩:=HQ.out _ h9
      clear h9
      go_wp2_with fail
      go_ret
      exact BoolBelow.mk (by unfold soundB;simp only [MT.c,MT.m,MT.k];simp [blank_num (c:=⟨6,false,neg,ma,mn,mc,e,s,ka,kn,kc,none,0,0⟩) hz]) HB2.out
    | true =>
      rw [hz] at KZ
      obtain ⟨rfl,rfl,rfl⟩:=zero_yes hz
      by_cases h3:s.size=0
      case neg =>
        obtain ⟨W1,hW1⟩:∃ x,w.alloc (.cells #[.int .i64 6,.bool false,.bool false,.slice ma 0 mc,.int .i64 0,.string s,.slice ka kn kc,.slice va vn vc] 28)=x:=⟨_,rfl⟩
        have hb1:Below w.heap.size w W1:=by rw [← hW1];exact (Below.refl _ _).alloc (Nat.le_refl _) _
        have q1:W1.heap[w.heap.size]? = some (.cells #[.int .i64 6,.bool false,.bool false,.slice ma 0 mc,.int .i64 0,.string s,.slice ka kn kc,.slice va vn vc] 28):=by rw [← hW1];exact heap_alloc_new w _
        have HB:=Lib.hid hb1
        have HQ:=Lib.hid (fun W (h:Below W1.heap.size W1 W)=>fcells ((h.block _ (Array.getElem?_eq_some_iff.1 q1).1).trans q1))
        have HW:=Lib.hid hW1
        obtain ⟨c0,c1,c2,c3,c4,c5,c6,c7⟩:=fcells q1
        clear hb1 hW1 q1
        have hse:=str_neA s h3
        go_enter Tryd.func77,Tryd.ntmps77
        go_wp2_with fail
        rw [HW.out]
        refine (KZ.out _).mono ?_
        rintro r w9 ⟨rfl,h9⟩
        have HB2:=Lib.hid (HB.out.trans (h9.mono HB.out.size))
        have H19:=Lib.hid h9
        obtain ⟨c0,c1,c2,c3,c4,c5,c6,c7⟩:=HQ.out _ h9
        clear h9
        go_wp2_with fail
        go_ret
        exact BoolBelow.mk (by unfold soundB;simp [MT.c,MT.m,MT.k,blankB,h3]) HB2.out
      obtain rfl:=str_nilA s h3
      by_cases h4:kn=0
      case neg =>
        obtain ⟨W1,hW1⟩:∃ x,w.alloc (.cells #[.int .i64 6,.bool false,.bool false,.slice ma 0 mc,.int .i64 0,.string ⟨#[]⟩,.slice ka kn kc,.slice va vn vc] 28)=x:=⟨_,rfl⟩
        have hb1:Below w.heap.size w W1:=by rw [← hW1];exact (Below.refl _ _).alloc (Nat.le_refl _) _
        have q1:W1.heap[w.heap.size]? = some (.cells #[.int .i64 6,.bool false,.bool false,.slice ma 0 mc,.int .i64 0,.string ⟨#[]⟩,.slice ka kn kc,.slice va vn vc] 28):=by rw [← hW1];exact heap_alloc_new w _
        have HB:=Lib.hid hb1
        have HQ:=Lib.hid (fun W (h:Below W1.heap.size W1 W)=>fcells ((h.block _ (Array.getElem?_eq_some_iff.1 q1).1).trans q1))
        have HW:=Lib.hid hW1
        obtain ⟨c0,c1,c2,c3,c4,c5,c6,c7⟩:=fcells q1
        clear hb1 hW1 q1
        have hkz:(0:Int)<(kn:Int):=by omega
        go_enter Tryd.func77,Tryd.ntmps77
        go_wp2_with fail
        rw [HW.out]
        refine (KZ.out _).mono ?_
        rintro r w9 ⟨rfl,h9⟩
        have HB2:=Lib.hid (HB.out.trans (h9.mono HB.out.size))
        have H19:=Lib.hid h9
        obtain ⟨c0,c1,c2,c3,c4,c5,c6,c7⟩:=HQ.out _ h9
        clear h9
        go_wp2_with fail
        go_ret
        exact BoolBelow.mk (by unfold soundB;simp [MT.c,MT.m,MT.k,blankB,h4]) HB2.out
      subst h4
      by_cases h6:vn≤300
      case pos =>
        obtain ⟨W1,hW1⟩:∃ x,w.alloc (.cells #[.int .i64 6,.bool false,.bool false,.slice ma 0 mc,.int .i64 0,.string ⟨#[]⟩,.slice ka 0 kc,.slice va vn vc] 28)=x:=⟨_,rfl⟩
        have hb1:Below w.heap.size w W1:=by rw [← hW1];exact (Below.refl _ _).alloc (Nat.le_refl _) _
        have q1:W1.heap[w.heap.size]? = some (.cells #[.int .i64 6,.bool false,.bool false,.slice ma 0 mc,.int .i64 0,.string ⟨#[]⟩,.slice ka 0 kc,.slice va vn vc] 28):=by rw [← hW1];exact heap_alloc_new w _
        have HB:=Lib.hid hb1
        have HQ:=Lib.hid (fun W (h:Below W1.heap.size W1 W)=>fcells ((h.block _ (Array.getElem?_eq_some_iff.1 q1).1).trans q1))
        have HW:=Lib.hid hW1
        obtain ⟨c0,c1,c2,c3,c4,c5,c6,c7⟩:=fcells q1
        clear hb1 hW1 q1
        have h6z:(vn:Int)≤300:=by omega
        go_enter Tryd.func77,Tryd.ntmps77
        go_wp2_with fail
        rw [HW.out]
        refine (KZ.out _).mono ?_
        rintro r w9 ⟨rfl,h9⟩
        have HB2:=Lib.hid (HB.out.trans (h9.mono HB.out.size))
        have H19:=Lib.hid h9
        obtain ⟨c0,c1,c2,c3,c4,c5,c6,c7⟩:=HQ.out _ h9
        clear h9
        go_wp2_with fail
        go_ret
        exact BoolBelow.mk (by unfold soundB;simp [MT.c,blankB,empA,h6] <;> omega) HB2.out
      case neg =>
        obtain ⟨W1,hW1⟩:∃ x,w.alloc (.cells #[.int .i64 6,.bool false,.bool false,.slice ma 0 mc,.int .i64 0,.string ⟨#[]⟩,.slice ka 0 kc,.slice va vn vc] 28)=x:=⟨_,rfl⟩
        have hb1:Below w.heap.size w W1:=by rw [← hW1];exact (Below.refl _ _).alloc (Nat.le_refl _) _
        have q1:W1.heap[w.heap.size]? = some (.cells #[.int .i64 6,.bool false,.bool false,.slice ma 0 mc,.int .i64 0,.string ⟨#[]⟩,.slice ka 0 kc,.slice va vn vc] 28):=by rw [← hW1];exact heap_alloc_new w _
        have HB:=Lib.hid hb1
        have HQ:=Lib.hid (fun W (h:Below W1.heap.size W1 W)=>fcells ((h.block _ (Array.getElem?_eq_some_iff.1 q1).1).trans q1))
        have HW:=Lib.hid hW1
        obtain ⟨c0,c1,c2,c3,c4,c5,c6,c7⟩:=fcells q1
        clear hb1 hW1 q1
        have h6z:¬ (vn:Int)≤300:=by omega
        go_enter Tryd.func77,Tryd.ntmps77
        go_wp2_with fail
        rw [HW.out]
        refine (KZ.out _).mono ?_
        rintro r w9 ⟨rfl,h9⟩
        have HB2:=Lib.hid (HB.out.trans (h9.mono HB.out.size))
        have H19:=Lib.hid h9
        obtain ⟨c0,c1,c2,c3,c4,c5,c6,c7⟩:=HQ.out _ h9
        clear h9
        go_wp2_with fail
        go_ret
        exact BoolBelow.mk (by unfold soundB;simp [MT.c,blankB,empA,h6] <;> omega) HB2.out
theorem refFields_7 (b0 neg:Bool) (ma:Option Addr) (mn mc:Nat) (e:Int) (s:ByteArray) (ka:Option Addr) (kn kc:Nat) (va:Option Addr) (vn vc:Nat) (m:List Nat) (ks:List ByteArray) (vs:List MT) (w:World) (hs:s.size≤1000000) (hk1:ks.length=kn) (hk2:kn≤kc) (hk3:RdV w ka (sv ks)) (hk4:kn≤1000000000000000) (hk5:∀ s∈ks,s.size≤1000000) :
    Calls Tryd.prog 77 #[.agg #[.int .i64 7,.bool b0,.bool neg,.slice ma mn mc,.int .i64 e,.string s,.slice ka kn kc,.slice va vn vc]] w (BoolBelow (soundB (.mk ⟨7,b0,neg,ma,mn,mc,e,s,ka,kn,kc,va,vn,vc⟩ m ks vs)) w):=by
  have KZ:=Lib.hid (fun W=>refZero_any neg ma mn mc e W)
  cases b0 with
  | true =>
    obtain ⟨W1,hW1⟩:∃ x,w.alloc (.cells #[.int .i64 7,.bool true,.bool neg,.slice ma mn mc,.int .i64 e,.string s,.slice ka kn kc,.slice va vn vc] 28)=x:=⟨_,rfl⟩
    have hb1:Below w.heap.size w W1:=by rw [← hW1];exact (Below.refl _ _).alloc (Nat.le_refl _) _
    have q1:W1.heap[w.heap.size]? = some (.cells #[.int .i64 7,.bool true,.bool neg,.slice ma mn mc,.int .i64 e,.string s,.slice ka kn kc,.slice va vn vc] 28):=by rw [← hW1];exact heap_alloc_new w _
    have HB:=Lib.hid hb1
    have HQ:=Lib.hid (fun W (h:Below W1.heap.size W1 W)=>fcells ((h.block _ (Array.getElem?_eq_some_iff.1 q1).1).trans q1))
    have HW:=Lib.hid hW1
    obtain ⟨c0,c1,c2,c3,c4,c5,c6,c7⟩:=fcells q1
    clear hb1 hW1 q1
    go_enter Tryd.func77,Tryd.ntmps77
    go_wp2_with fail
    rw [HW.out]
    go_ret
    exact BoolBelow.mk (by unfold soundB;simp [MT.c,MT.m,MT.k,blankB]) HB.out
  | false =>
    cases hz:zeroB neg mn e with
    | false =>
      rw [hz] at KZ
      obtain ⟨W1,hW1⟩:∃ x,w.alloc (.cells #[.int .i64 7,.bool false,.bool neg,.slice ma mn mc,.int .i64 e,.string s,.slice ka kn kc,.slice va vn vc] 28)=x:=⟨_,rfl⟩
      have hb1:Below w.heap.size w W1:=by rw [← hW1];exact (Below.refl _ _).alloc (Nat.le_refl _) _
      have q1:W1.heap[w.heap.size]? = some (.cells #[.int .i64 7,.bool false,.bool neg,.slice ma mn mc,.int .i64 e,.string s,.slice ka kn kc,.slice va vn vc] 28):=by rw [← hW1];exact heap_alloc_new w _
      have HB:=Lib.hid hb1
      have HQ:=Lib.hid (fun W (h:Below W1.heap.size W1 W)=>fcells ((h.block _ (Array.getElem?_eq_some_iff.1 q1).1).trans q1))
      have HW:=Lib.hid hW1
      obtain ⟨c0,c1,c2,c3,c4,c5,c6,c7⟩:=fcells q1
      clear hb1 hW1 q1
      go_enter Tryd.func77,Tryd.ntmps77
      go_wp2_with fail
      rw [HW.out]
      refine (KZ.out _).mono ?_
      rintro r w9 ⟨rfl,h9⟩
      have HB2:=Lib.hid (HB.out.trans (h9.mono HB.out.size))
      have H19:=Lib.hid h9
      obtain ⟨c0,c1,c2,c3,c4,c5,c6,c7⟩:=HQ.out _ h9
      clear h9
      go_wp2_with fail
      go_ret
      exact BoolBelow.mk (by unfold soundB;simp only [MT.c,MT.m,MT.k];simp [blank_num (c:=⟨7,false,neg,ma,mn,mc,e,s,none,0,0,none,0,0⟩) hz]) HB2.out
    | true =>
      rw [hz] at KZ
      obtain ⟨rfl,rfl,rfl⟩:=zero_yes hz
      by_cases h3:s.size=0
      case neg =>
        obtain ⟨W1,hW1⟩:∃ x,w.alloc (.cells #[.int .i64 7,.bool false,.bool false,.slice ma 0 mc,.int .i64 0,.string s,.slice ka kn kc,.slice va vn vc] 28)=x:=⟨_,rfl⟩
        have hb1:Below w.heap.size w W1:=by rw [← hW1];exact (Below.refl _ _).alloc (Nat.le_refl _) _
        have q1:W1.heap[w.heap.size]? = some (.cells #[.int .i64 7,.bool false,.bool false,.slice ma 0 mc,.int .i64 0,.string s,.slice ka kn kc,.slice va vn vc] 28):=by rw [← hW1];exact heap_alloc_new w _
        have HB:=Lib.hid hb1
        have HQ:=Lib.hid (fun W (h:Below W1.heap.size W1 W)=>fcells ((h.block _ (Array.getElem?_eq_some_iff.1 q1).1).trans q1))
        have HW:=Lib.hid hW1
        obtain ⟨c0,c1,c2,c3,c4,c5,c6,c7⟩:=fcells q1
        clear hb1 hW1 q1
        have hse:=str_neA s h3
        go_enter Tryd.func77,Tryd.ntmps77
        go_wp2_with fail
        rw [HW.out]
        refine (KZ.out _).mono ?_
        rintro r w9 ⟨rfl,h9⟩
        have HB2:=Lib.hid (HB.out.trans (h9.mono HB.out.size))
        have H19:=Lib.hid h9
        obtain ⟨c0,c1,c2,c3,c4,c5,c6,c7⟩:=HQ.out _ h9
        clear h9
        go_wp2_with fail
        go_ret
        exact BoolBelow.mk (by unfold soundB;simp [MT.c,MT.m,MT.k,blankB,h3]) HB2.out
      obtain rfl:=str_nilA s h3
      have KN:=Lib.hid (fun W (h:Below w.heap.size w W)=>refNames_any ka kn kc ks W hk1 hk2 (hk3.on h) hk4 hk5)
      cases hv:(risesB ks && decide (kn≤300)) with
      | false =>
        rw [hv] at KN
        have hfl:soundB (.mk ⟨7,false,false,ma,0,mc,0,⟨#[]⟩,ka,kn,kc,va,vn,vc⟩ m ks vs)=false:=by
          show (decide (kn=vn) && (risesB ks && (decide (vn≤300) && blankB ⟨7,false,false,ma,0,mc,0,⟨#[]⟩,none,0,0,none,0,0⟩)))=false
          cases h1:decide (kn=vn) with
          | false=>rfl
          | true =>
            have e:=of_decide_eq_true h1
            subst e
            cases hr:risesB ks with
            | false=>rfl
            | true =>
              rw [hr,Bool.true_and] at hv
              rw [hv];rfl
        obtain ⟨W1,hW1⟩:∃ x,w.alloc (.cells #[.int .i64 7,.bool false,.bool false,.slice ma 0 mc,.int .i64 0,.string ⟨#[]⟩,.slice ka kn kc,.slice va vn vc] 28)=x:=⟨_,rfl⟩
        have hb1:Below w.heap.size w W1:=by rw [← hW1];exact (Below.refl _ _).alloc (Nat.le_refl _) _
        have q1:W1.heap[w.heap.size]? = some (.cells #[.int .i64 7,.bool false,.bool false,.slice ma 0 mc,.int .i64 0,.string ⟨#[]⟩,.slice ka kn kc,.slice va vn vc] 28):=by rw [← hW1];exact heap_alloc_new w _
        have HB:=Lib.hid hb1
        have HQ:=Lib.hid (fun W (h:Below W1.heap.size W1 W)=>fcells ((h.block _ (Array.getElem?_eq_some_iff.1 q1).1).trans q1))
        have HW:=Lib.hid hW1
        obtain ⟨c0,c1,c2,c3,c4,c5,c6,c7⟩:=fcells q1
        clear hb1 hW1 q1
        go_enter Tryd.func77,Tryd.ntmps77
        go_wp2_with fail
        rw [HW.out]
        refine (KZ.out _).mono ?_
        rintro r w9 ⟨rfl,h9⟩
        have HB2:=Lib.hid (HB.out.trans (h9.mono HB.out.size))
        have H19:=Lib.hid h9
        obtain ⟨c0,c1,c2,c3,c4,c5,c6,c7⟩:=HQ.out _ h9
        clear h9
        go_wp2_with fail
        refine (KN.out _ HB2.out).mono ?_
        rintro r w8 ⟨rfl,h8⟩
        have HB3:=Lib.hid (HB2.out.trans (h8.mono HB2.out.size))
        obtain ⟨c0,c1,c2,c3,c4,c5,c6,c7⟩:=HQ.out _ (H19.out.trans (h8.mono H19.out.size))
        clear h8
        go_wp2_with fail
        go_ret
        exact BoolBelow.mk (by rw [hfl]) HB3.out
      | true =>
        rw [hv] at KN
        simp only [Bool.and_eq_true,decide_eq_true_eq] at hv
        by_cases h6:kn=vn
        case pos =>
          subst h6
          obtain ⟨W1,hW1⟩:∃ x,w.alloc (.cells #[.int .i64 7,.bool false,.bool false,.slice ma 0 mc,.int .i64 0,.string ⟨#[]⟩,.slice ka kn kc,.slice va kn vc] 28)=x:=⟨_,rfl⟩
          have hb1:Below w.heap.size w W1:=by rw [← hW1];exact (Below.refl _ _).alloc (Nat.le_refl _) _
          have q1:W1.heap[w.heap.size]? = some (.cells #[.int .i64 7,.bool false,.bool false,.slice ma 0 mc,.int .i64 0,.string ⟨#[]⟩,.slice ka kn kc,.slice va kn vc] 28):=by rw [← hW1];exact heap_alloc_new w _
          have HB:=Lib.hid hb1
          have HQ:=Lib.hid (fun W (h:Below W1.heap.size W1 W)=>fcells ((h.block _ (Array.getElem?_eq_some_iff.1 q1).1).trans q1))
          have HW:=Lib.hid hW1
          obtain ⟨c0,c1,c2,c3,c4,c5,c6,c7⟩:=fcells q1
          clear hb1 hW1 q1
          have h6z:((kn:Int) == (kn:Int))=true:=by simp
          go_enter Tryd.func77,Tryd.ntmps77
          go_wp2_with fail
          rw [HW.out]
          refine (KZ.out _).mono ?_
          rintro r w9 ⟨rfl,h9⟩
          have HB2:=Lib.hid (HB.out.trans (h9.mono HB.out.size))
          have H19:=Lib.hid h9
          obtain ⟨c0,c1,c2,c3,c4,c5,c6,c7⟩:=HQ.out _ h9
          clear h9
          go_wp2_with fail
          refine (KN.out _ HB2.out).mono ?_
          rintro r w8 ⟨rfl,h8⟩
          have HB3:=Lib.hid (HB2.out.trans (h8.mono HB2.out.size))
          obtain ⟨c0,c1,c2,c3,c4,c5,c6,c7⟩:=HQ.out _ (H19.out.trans (h8.mono H19.out.size))
          clear h8
          go_wp2_with fail
          go_ret
          exact BoolBelow.mk (by unfold soundB;simp [MT.c,MT.k,blankB,empA,hv.1,hv.2]) HB3.out
        case neg =>
          obtain ⟨W1,hW1⟩:∃ x,w.alloc (.cells #[.int .i64 7,.bool false,.bool false,.slice ma 0 mc,.int .i64 0,.string ⟨#[]⟩,.slice ka kn kc,.slice va vn vc] 28)=x:=⟨_,rfl⟩
          have hb1:Below w.heap.size w W1:=by rw [← hW1];exact (Below.refl _ _).alloc (Nat.le_refl _) _
          have q1:W1.heap[w.heap.size]? = some (.cells #[.int .i64 7,.bool false,.bool false,.slice ma 0 mc,.int .i64 0,.string ⟨#[]⟩,.slice ka kn kc,.slice va vn vc] 28):=by rw [← hW1];exact heap_alloc_new w _
          have HB:=Lib.hid hb1
          have HQ:=Lib.hid (fun W (h:Below W1.heap.size W1 W)=>fcells ((h.block _ (Array.getElem?_eq_some_iff.1 q1).1).trans q1))
          have HW:=Lib.hid hW1
          obtain ⟨c0,c1,c2,c3,c4,c5,c6,c7⟩:=fcells q1
          clear hb1 hW1 q1
          have h6z:((kn:Int) == (vn:Int))=false:=beq_eq_false_iff_ne.2 (by omega)
          go_enter Tryd.func77,Tryd.ntmps77
          go_wp2_with fail
          rw [HW.out]
          refine (KZ.out _).mono ?_
          rintro r w9 ⟨rfl,h9⟩
          have HB2:=Lib.hid (HB.out.trans (h9.mono HB.out.size))
          have H19:=Lib.hid h9
          obtain ⟨c0,c1,c2,c3,c4,c5,c6,c7⟩:=HQ.out _ h9
          clear h9
          go_wp2_with fail
          refine (KN.out _ HB2.out).mono ?_
          rintro r w8 ⟨rfl,h8⟩
          have HB3:=Lib.hid (HB2.out.trans (h8.mono HB2.out.size))
          obtain ⟨c0,c1,c2,c3,c4,c5,c6,c7⟩:=HQ.out _ (H19.out.trans (h8.mono H19.out.size))
          clear h8
          go_wp2_with fail
          go_ret
          exact BoolBelow.mk (by unfold soundB;simp [MT.c,MT.k,blankB,h6]) HB3.out
theorem refFields_x (b0 neg:Bool) (ma:Option Addr) (mn mc:Nat) (e:Int) (s:ByteArray) (ka:Option Addr) (kn kc:Nat) (va:Option Addr) (vn vc:Nat) (m:List Nat) (ks:List ByteArray) (vs:List MT) (w:World) (k:Int) (hk1:k ≠ 1) (hk2:k ≠ 2) (hk3:k ≠ 3) (hk4:k ≠ 4) (hk5:k ≠ 5) (hk6:k ≠ 6) (hk7:k ≠ 7) (hs:s.size≤1000000) :
    Calls Tryd.prog 77 #[.agg #[.int .i64 k,.bool b0,.bool neg,.slice ma mn mc,.int .i64 e,.string s,.slice ka kn kc,.slice va vn vc]] w (BoolBelow (soundB (.mk ⟨k,b0,neg,ma,mn,mc,e,s,ka,kn,kc,va,vn,vc⟩ m ks vs)) w):=by
  have hb1:(k == 1)=false:=beq_eq_false_iff_ne.2 hk1
  have hb2:(k == 2)=false:=beq_eq_false_iff_ne.2 hk2
  have hb3:(k == 3)=false:=beq_eq_false_iff_ne.2 hk3
  have hb4:(k == 4)=false:=beq_eq_false_iff_ne.2 hk4
  have hb5:(k == 5)=false:=beq_eq_false_iff_ne.2 hk5
  have hb6:(k == 6)=false:=beq_eq_false_iff_ne.2 hk6
  have hb7:(k == 7)=false:=beq_eq_false_iff_ne.2 hk7
  have hn1:(k != 1)=true:=by rw [bne,hb1];rfl
  have hn2:(k != 2)=true:=by rw [bne,hb2];rfl
  have hn3:(k != 3)=true:=by rw [bne,hb3];rfl
  have hn4:(k != 4)=true:=by rw [bne,hb4];rfl
  have hn5:(k != 5)=true:=by rw [bne,hb5];rfl
  have hn6:(k != 6)=true:=by rw [bne,hb6];rfl
  have hn7:(k != 7)=true:=by rw [bne,hb7];rfl
  have KZ:=Lib.hid (fun W=>refZero_any neg ma mn mc e W)
  cases b0 with
  | true =>
    obtain ⟨W1,hW1⟩:∃ x,w.alloc (.cells #[.int .i64 k,.bool true,.bool neg,.slice ma mn mc,.int .i64 e,.string s,.slice ka kn kc,.slice va vn vc] 28)=x:=⟨_,rfl⟩
    have hb1:Below w.heap.size w W1:=by rw [← hW1];exact (Below.refl _ _).alloc (Nat.le_refl _) _
    have q1:W1.heap[w.heap.size]? = some (.cells #[.int .i64 k,.bool true,.bool neg,.slice ma mn mc,.int .i64 e,.string s,.slice ka kn kc,.slice va vn vc] 28):=by rw [← hW1];exact heap_alloc_new w _
    have HB:=Lib.hid hb1
    have HQ:=Lib.hid (fun W (h:Below W1.heap.size W1 W)=>fcells ((h.block _ (Array.getElem?_eq_some_iff.1 q1).1).trans q1))
    have HW:=Lib.hid hW1
    obtain ⟨c0,c1,c2,c3,c4,c5,c6,c7⟩:=fcells q1
    clear hb1 hW1 q1
    go_enter Tryd.func77,Tryd.ntmps77
    go_wp2_with fail
    rw [HW.out]
    go_ret
    exact BoolBelow.mk (by unfold soundB;simp [MT.c,hk1,hk2,hk3,hk4,hk5,hk6,hk7]) HB.out
  | false =>
    cases hz:zeroB neg mn e with
    | false =>
      rw [hz] at KZ
      obtain ⟨W1,hW1⟩:∃ x,w.alloc (.cells #[.int .i64 k,.bool false,.bool neg,.slice ma mn mc,.int .i64 e,.string s,.slice ka kn kc,.slice va vn vc] 28)=x:=⟨_,rfl⟩
      have hb1:Below w.heap.size w W1:=by rw [← hW1];exact (Below.refl _ _).alloc (Nat.le_refl _) _
      have q1:W1.heap[w.heap.size]? = some (.cells #[.int .i64 k,.bool false,.bool neg,.slice ma mn mc,.int .i64 e,.string s,.slice ka kn kc,.slice va vn vc] 28):=by rw [← hW1];exact heap_alloc_new w _
      have HB:=Lib.hid hb1
      have HQ:=Lib.hid (fun W (h:Below W1.heap.size W1 W)=>fcells ((h.block _ (Array.getElem?_eq_some_iff.1 q1).1).trans q1))
      have HW:=Lib.hid hW1
      obtain ⟨c0,c1,c2,c3,c4,c5,c6,c7⟩:=fcells q1
      clear hb1 hW1 q1
      go_enter Tryd.func77,Tryd.ntmps77
      go_wp2_with fail
      rw [HW.out]
      refine (KZ.out _).mono ?_
      rintro r w9 ⟨rfl,h9⟩
      have HB2:=Lib.hid (HB.out.trans (h9.mono HB.out.size))
      have H19:=Lib.hid h9
      obtain ⟨c0,c1,c2,c3,c4,c5,c6,c7⟩:=HQ.out _ h9
      clear h9
      go_wp2_with fail
      go_ret
      exact BoolBelow.mk (by unfold soundB;simp [MT.c,hk1,hk2,hk3,hk4,hk5,hk6,hk7]) HB2.out
    | true =>
      rw [hz] at KZ
      obtain ⟨rfl,rfl,rfl⟩:=zero_yes hz
      by_cases h3:s.size=0
      case neg =>
        obtain ⟨W1,hW1⟩:∃ x,w.alloc (.cells #[.int .i64 k,.bool false,.bool false,.slice ma 0 mc,.int .i64 0,.string s,.slice ka kn kc,.slice va vn vc] 28)=x:=⟨_,rfl⟩
        have hb1:Below w.heap.size w W1:=by rw [← hW1];exact (Below.refl _ _).alloc (Nat.le_refl _) _
        have q1:W1.heap[w.heap.size]? = some (.cells #[.int .i64 k,.bool false,.bool false,.slice ma 0 mc,.int .i64 0,.string s,.slice ka kn kc,.slice va vn vc] 28):=by rw [← hW1];exact heap_alloc_new w _
        have HB:=Lib.hid hb1
        have HQ:=Lib.hid (fun W (h:Below W1.heap.size W1 W)=>fcells ((h.block _ (Array.getElem?_eq_some_iff.1 q1).1).trans q1))
        have HW:=Lib.hid hW1
        obtain ⟨c0,c1,c2,c3,c4,c5,c6,c7⟩:=fcells q1
        clear hb1 hW1 q1
        have hse:=str_neA s h3
        go_enter Tryd.func77,Tryd.ntmps77
        go_wp2_with fail
        rw [HW.out]
        refine (KZ.out _).mono ?_
        rintro r w9 ⟨rfl,h9⟩
        have HB2:=Lib.hid (HB.out.trans (h9.mono HB.out.size))
        have H19:=Lib.hid h9
        obtain ⟨c0,c1,c2,c3,c4,c5,c6,c7⟩:=HQ.out _ h9
        clear h9
        go_wp2_with fail
        go_ret
        exact BoolBelow.mk (by unfold soundB;simp [MT.c,hk1,hk2,hk3,hk4,hk5,hk6,hk7]) HB2.out
      obtain rfl:=str_nilA s h3
      by_cases h4:kn=0
      case neg =>
        obtain ⟨W1,hW1⟩:∃ x,w.alloc (.cells #[.int .i64 k,.bool false,.bool false,.slice ma 0 mc,.int .i64 0,.string ⟨#[]⟩,.slice ka kn kc,.slice va vn vc] 28)=x:=⟨_,rfl⟩
        have hb1:Below w.heap.size w W1:=by rw [← hW1];exact (Below.refl _ _).alloc (Nat.le_refl _) _
        have q1:W1.heap[w.heap.size]? = some (.cells #[.int .i64 k,.bool false,.bool false,.slice ma 0 mc,.int .i64 0,.string ⟨#[]⟩,.slice ka kn kc,.slice va vn vc] 28):=by rw [← hW1];exact heap_alloc_new w _
        have HB:=Lib.hid hb1
        have HQ:=Lib.hid (fun W (h:Below W1.heap.size W1 W)=>fcells ((h.block _ (Array.getElem?_eq_some_iff.1 q1).1).trans q1))
        have HW:=Lib.hid hW1
        obtain ⟨c0,c1,c2,c3,c4,c5,c6,c7⟩:=fcells q1
        clear hb1 hW1 q1
        have hkz:(0:Int)<(kn:Int):=by omega
        go_enter Tryd.func77,Tryd.ntmps77
        go_wp2_with fail
        rw [HW.out]
        refine (KZ.out _).mono ?_
        rintro r w9 ⟨rfl,h9⟩
        have HB2:=Lib.hid (HB.out.trans (h9.mono HB.out.size))
        have H19:=Lib.hid h9
        obtain ⟨c0,c1,c2,c3,c4,c5,c6,c7⟩:=HQ.out _ h9
        clear h9
        go_wp2_with fail
        go_ret
        exact BoolBelow.mk (by unfold soundB;simp [MT.c,hk1,hk2,hk3,hk4,hk5,hk6,hk7]) HB2.out
      subst h4
      by_cases h5:vn=0
      case neg =>
        obtain ⟨W1,hW1⟩:∃ x,w.alloc (.cells #[.int .i64 k,.bool false,.bool false,.slice ma 0 mc,.int .i64 0,.string ⟨#[]⟩,.slice ka 0 kc,.slice va vn vc] 28)=x:=⟨_,rfl⟩
        have hb1:Below w.heap.size w W1:=by rw [← hW1];exact (Below.refl _ _).alloc (Nat.le_refl _) _
        have q1:W1.heap[w.heap.size]? = some (.cells #[.int .i64 k,.bool false,.bool false,.slice ma 0 mc,.int .i64 0,.string ⟨#[]⟩,.slice ka 0 kc,.slice va vn vc] 28):=by rw [← hW1];exact heap_alloc_new w _
        have HB:=Lib.hid hb1
        have HQ:=Lib.hid (fun W (h:Below W1.heap.size W1 W)=>fcells ((h.block _ (Array.getElem?_eq_some_iff.1 q1).1).trans q1))
        have HW:=Lib.hid hW1
        obtain ⟨c0,c1,c2,c3,c4,c5,c6,c7⟩:=fcells q1
        clear hb1 hW1 q1
        have hvz:(0:Int)<(vn:Int):=by omega
        go_enter Tryd.func77,Tryd.ntmps77
        go_wp2_with fail
        rw [HW.out]
        refine (KZ.out _).mono ?_
        rintro r w9 ⟨rfl,h9⟩
        have HB2:=Lib.hid (HB.out.trans (h9.mono HB.out.size))
        have H19:=Lib.hid h9
        obtain ⟨c0,c1,c2,c3,c4,c5,c6,c7⟩:=HQ.out _ h9
        clear h9
        go_wp2_with fail
        go_ret
        exact BoolBelow.mk (by unfold soundB;simp [MT.c,hk1,hk2,hk3,hk4,hk5,hk6,hk7]) HB2.out
      subst h5
      obtain ⟨W1,hW1⟩:∃ x,w.alloc (.cells #[.int .i64 k,.bool false,.bool false,.slice ma 0 mc,.int .i64 0,.string ⟨#[]⟩,.slice ka 0 kc,.slice va 0 vc] 28)=x:=⟨_,rfl⟩
      have hb1:Below w.heap.size w W1:=by rw [← hW1];exact (Below.refl _ _).alloc (Nat.le_refl _) _
      have q1:W1.heap[w.heap.size]? = some (.cells #[.int .i64 k,.bool false,.bool false,.slice ma 0 mc,.int .i64 0,.string ⟨#[]⟩,.slice ka 0 kc,.slice va 0 vc] 28):=by rw [← hW1];exact heap_alloc_new w _
      have HB:=Lib.hid hb1
      have HQ:=Lib.hid (fun W (h:Below W1.heap.size W1 W)=>fcells ((h.block _ (Array.getElem?_eq_some_iff.1 q1).1).trans q1))
      have HW:=Lib.hid hW1
      obtain ⟨c0,c1,c2,c3,c4,c5,c6,c7⟩:=fcells q1
      clear hb1 hW1 q1
      go_enter Tryd.func77,Tryd.ntmps77
      go_wp2_with fail
      rw [HW.out]
      refine (KZ.out _).mono ?_
      rintro r w9 ⟨rfl,h9⟩
      have HB2:=Lib.hid (HB.out.trans (h9.mono HB.out.size))
      have H19:=Lib.hid h9
      obtain ⟨c0,c1,c2,c3,c4,c5,c6,c7⟩:=HQ.out _ h9
      clear h9
      go_wp2_with fail
      go_ret
      exact BoolBelow.mk (by unfold soundB;simp [MT.c,hk1,hk2,hk3,hk4,hk5,hk6,hk7]) HB2.out
def LgtT (t:MT):Prop:=∀ s,t.sub s→s.c.s.size≤1000000∧(∀ x∈s.k,x.size≤1000000)∧s.c.mn≤100000000
theorem LgtT.part {t s:MT} (h:LgtT t) (hs:s∈t.v):LgtT s:=fun u hu=>h u (MT.sub_v hs hu)
theorem refFields_any (t:MT) (w:World) (hR:Rep w t) (hl:LgtT t) :
    Calls Tryd.prog 77 #[t.c.val] w (BoolBelow (soundB t) w):=by
  have own:=hR.own
  obtain ⟨l1,l2,l3⟩:=hl t t.sub_refl
  have hmn:=own.mn;have hmc:=own.mc;have hmo:=own.mo;have hmr:=own.mr;have hkc:=own.kc;have hkr:=own.kr;have hkn:=own.kn;have hlm:=own.lm
  clear own hR hl
  obtain ⟨⟨ck,b,neg,ma,mn,mc,e,s,ka,kn,kc,va,vn,vc⟩,m,ks,vs⟩:=t
  simp only [MT.c,MT.m,MT.k,MT.v] at *
  unfold Cel.val
  by_cases c1:ck=1
  · subst c1;exact refFields_1 b neg ma mn mc e s ka kn kc va vn vc m ks vs w l1
  by_cases c2:ck=2
  · subst c2;exact refFields_2 b neg ma mn mc e s ka kn kc va vn vc m ks vs w l1
  by_cases c3:ck=3
  · subst c3;exact refFields_3 b neg ma mn mc e s ka kn kc va vn vc m ks vs w l1 hmn hmc l3 hmo hmr
  by_cases c4:ck=4
  · subst c4;exact refFields_4 b neg ma mn mc e s ka kn kc va vn vc m ks vs w l1
  by_cases c5:ck=5
  · subst c5;exact refFields_5 b neg ma mn mc e s ka kn kc va vn vc m ks vs w l1
  by_cases c6:ck=6
  · subst c6;exact refFields_6 b neg ma mn mc e s ka kn kc va vn vc m ks vs w l1
  by_cases c7:ck=7
  · subst c7;exact refFields_7 b neg ma mn mc e s ka kn kc va vn vc m ks vs w l1 hkn hkc hkr hlm.2.1 l2
  exact refFields_x b neg ma mn mc e s ka kn kc va vn vc m ks vs w ck c1 c2 c3 c4 c5 c6 c7 l1
def okT (t:MT) (d:Nat):Bool:=(t.pre d).all fun x=>decide (x.1≤64) && soundB x.2
def okL (l:List MT) (d:Nat):Bool:=(MT.preL l d).all fun x=>decide (x.1≤64) && soundB x.2
theorem okT_eq (t:MT) (d:Nat):okT t d=(decide (d≤64) && soundB t && okL t.v (d+1)):=by unfold okT okL;rw [MT.pre_eq,List.all_cons]
theorem okL_nil (d:Nat):okL [] d=true:=by unfold okL;rw [MT.preL_nil];rfl
theorem okL_snoc (l:List MT) (t:MT) (d:Nat):okL (l++[t]) d=(okL l d && okT t d):=by
  induction l with
  | nil=>unfold okL okT;rw [List.nil_append,MT.preL_cons,MT.preL_nil,List.append_nil];rfl
  | cons x l ih =>
    have e:∀ (x:MT) (l:List MT),okL (x::l) d=(okT x d && okL l d):=by intro x l;unfold okL okT;rw [MT.preL_cons,List.all_append]
    rw [List.cons_append,e,e,ih,Bool.and_assoc]
theorem okL_take {l:List MT} {d:Nat} (h:okL l d=true) (j:Nat):okL (l.take j) d=true:=by
  unfold okL at *
  rw [List.all_eq_true] at *
  intro x hx
  refine h x ?_
  obtain ⟨s,hs,h2⟩:=MT.mem_preL.1 hx
  exact MT.mem_preL.2 ⟨s,List.mem_of_mem_take hs,h2⟩
def walkR (t:MT) (d n:Nat):Int:=if okT t d=true∧n+t.nodes≤2000 then ((n+t.nodes:Nat):Int) else -1
theorem nodesL_snocA (l:List MT) (t:MT):MT.nodesL (l++[t])=MT.nodesL l+t.nodes:=by
  induction l with
  | nil=>rw [List.nil_append,MT.nodesL_cons,MT.nodesL_nil];omega
  | cons x l ih=>rw [List.cons_append,MT.nodesL_cons,MT.nodesL_cons,ih];omega
theorem nodesL_takeA (l:List MT) (j:Nat):MT.nodesL (l.take j)≤MT.nodesL l:=by
  induction l generalizing j with
  | nil=>rw [List.take_nil];exact Nat.le_refl _
  | cons u l ih =>
    cases j with
    | zero=>rw [List.take_zero,MT.nodesL_nil];omega
    | succ j=>rw [List.take_succ_cons,MT.nodesL_cons,MT.nodesL_cons];have:=ih j;omega
def WaA (us : List MT) (vn n d : Nat) (W1 : World) (g : Nat) (m i : Value) (wr : World) : Prop :=
  ∃ j, i = .int .i64 ((j : Nat) : Int) ∧ j ≤ vn ∧ vn - j ≤ g ∧ Below W1.heap.size W1 wr ∧
    ((m = .int .i64 ((n + 1 + MT.nodesL (us.take j) : Nat) : Int) ∧ okL (us.take j) (d + 1) = true ∧ n + 1 + MT.nodesL (us.take j) ≤ 2000) ∨ (m = .int .i64 (-1) ∧ ¬ (okL us (d + 1) = true ∧ n + 1 + MT.nodesL us ≤ 2000)))
theorem refWalk_any (t:MT):∀ (d n:Nat) (w:World),Rep w t→LgtT t→d≤65→n≤2000→Calls Tryd.prog 52 #[t.c.val,.int .i64 (d:Int),.int .i64 (n:Int)] w (fun e w'=>e=.returned (.int .i64 (walkR t d n))∧Below w.heap.size w w'):=by
  refine MT.ind (P:=fun t=>∀ (d n:Nat) (w:World),Rep w t→LgtT t→d≤65→n≤2000→Calls Tryd.prog 52 #[t.c.val,.int .i64 (d:Int),.int .i64 (n:Int)] w (fun e w'=>e=.returned (.int .i64 (walkR t d n))∧Below w.heap.size w w')) ?_ t
  intro t ih d n w hR hS hd hn
  have own:=hR.own
  have KF:=Lib.hid (fun W (h:Below w.heap.size w W)=>refFields_any t W (hR.on h) hS)
  have HV:=Lib.hid (fun j (hj:j<t.v.length) m (hm:m≤2000) (hd2:d+1≤65) W (h:Below w.heap.size w W)=>ih (t.v.getD j (leafT 0 false ⟨#[]⟩)) (by simp [List.getD,hj]) (d+1) m W ((hR.part (by simp [List.getD,hj])).on h) (hS.part (by simp [List.getD,hj])) hd2 hm)
  have HRD:=Lib.hid (fun W (h:Below w.heap.size w W)=>own.vr.on h)
  have HLN:=Lib.hid own.vn
  have hm:=own.lm.2.2
  obtain ⟨wk,hwk⟩:∃ z,walkR t d n=z:=⟨_,rfl⟩
  have hwe:walkR t d n=if (decide (d≤64) && soundB t && okL t.v (d+1))=true∧n+(1+MT.nodesL t.v)≤2000 then ((n+(1+MT.nodesL t.v):Nat):Int) else -1:=by unfold walkR;rw [okT_eq,MT.nodes_eq]
  rw [hwk] at hwe
  rw [hwk]
  have HWE:=Lib.hid hwe
  clear ih hR own hS hwk hwe
  generalize soundB t=sb at *
  generalize t.v=us at *
  generalize t.c=c at *
  obtain ⟨k,b0,neg,ma,mn,mc,e,s,ka,kn,kc,va,vn,vc⟩:=c
  unfold Cel.val at KF ⊢
  simp only at HRD HLN hm
  obtain ⟨W1,hW1⟩:∃ x,w.alloc (.cells #[.int .i64 k,.bool b0,.bool neg,.slice ma mn mc,.int .i64 e,.string s,.slice ka kn kc,.slice va vn vc] 28)=x:=⟨_,rfl⟩
  have hb1:Below w.heap.size w W1:=by rw [← hW1];exact (Below.refl _ _).alloc (Nat.le_refl _) _
  have q1:W1.heap[w.heap.size]? = some (.cells #[.int .i64 k,.bool b0,.bool neg,.slice ma mn mc,.int .i64 e,.string s,.slice ka kn kc,.slice va vn vc] 28):=by rw [← hW1];exact heap_alloc_new w _
  have HW1:=Lib.hid hW1;have HB1:=Lib.hid hb1
  have HY:=Lib.hid (fun W (h:Below W1.heap.size W1 W)=>(fcells ((h.block _ (Array.getElem?_eq_some_iff.1 q1).1).trans q1)))
  obtain ⟨c0,c1,c2,c3,c4,c5,c6,c7⟩:=fcells q1
  have n3:(n:Int)≤2000:=by omega
  have n4:(d:Int)≤65:=by omega
  clear hW1 hb1 q1
  by_cases h1:n+1≤2000
  case neg =>
    have n1:(2000:Int)<(n:Int)+1:=by omega
    have HZ:=Lib.hid (show wk = -1 by rw [HWE.out,if_neg (by omega)])
    go_enter Tryd.func52,Tryd.ntmps52
    go_wp2_with fail
    rw [HW1.out]
    go_ret
    exact ⟨by rw [HZ.out];rfl,HB1.out⟩
  have n1:¬ (2000:Int)<(n:Int)+1:=by omega
  by_cases h2:d≤64
  case neg =>
    have n2:(64:Int)<(d:Int):=by omega
    have HZ:=Lib.hid (show wk = -1 by rw [HWE.out,decide_eq_false h2];simp)
    go_enter Tryd.func52,Tryd.ntmps52
    go_wp2_with fail
    rw [HW1.out]
    go_ret
    exact ⟨by rw [HZ.out];rfl,HB1.out⟩
  have n2:¬ (64:Int)<(d:Int):=by omega
  rw [decide_eq_true h2] at HWE
  have h65:d+1≤65:=by omega
  cases sb with
  | false =>
    have HZ:=Lib.hid (show wk = -1 by rw [HWE.out];simp)
    go_enter Tryd.func52,Tryd.ntmps52
    go_wp2_with fail
    rw [HW1.out]
    refine (KF.out _ HB1.out).mono ?_
    rintro r w2 ⟨rfl,h2⟩
    have HB2:=Lib.hid (HB1.out.trans (h2.mono HB1.out.size))
    clear h2
    go_wp2_with fail
    go_ret
    exact ⟨by rw [HZ.out];rfl,HB2.out⟩
  | true =>
    have HWE2:=Lib.hid (show wk=if okL us (d+1)=true∧n+1+MT.nodesL us≤2000 then ((n+1+MT.nodesL us:Nat):Int) else -1 by rw [HWE.out,← Nat.add_assoc];simp)
    clear HWE
    go_enter Tryd.func52,Tryd.ntmps52
    go_wp2_with fail
    rw [HW1.out]
    refine (KF.out _ HB1.out).mono ?_
    rintro r w2 ⟨rfl,h2⟩
    have HB2:=Lib.hid h2
    have HST:=Lib.hid (show WaA us vn n d W1 vn (.int .i64 ((n:Int)+1)) (.int .i64 ((0:Nat):Int)) w2 from ⟨0,rfl,by omega,by omega,h2,.inl ⟨by rw [List.take_zero,MT.nodesL_nil];rfl,by rw [List.take_zero];exact okL_nil _,by rw [List.take_zero,MT.nodesL_nil];omega⟩⟩)
    clear h2 n1 n2
    try go_wp2_with fail
    go_loopg [2,7] vn (fun g m i wr=>WaA us vn n d W1 g m i wr)
    case atStart=>exact HST.out
    case round =>
      clear HST
      obtain ⟨j,rfl,hjn,hgj,hbw,hcase⟩:=hrel
      have HBW:=Lib.hid hbw
      have y7:=(HY.out wr hbw).2.2.2.2.2.2.2
      clear hbw c0 c1 c2 c3 c4 c5 c6 c7
      rcases hcase with ⟨rfl,hok,hsum⟩ | ⟨rfl,hno⟩
      · by_cases hlt:j<vn
        · obtain ⟨g,rfl⟩:∃ g,gk=g+1:=⟨gk - 1,by omega⟩
          have hltz:(j:Int)<(vn:Int):=by omega
          have hju:j<us.length:=by have:=HLN.out;omega
          have hj6:(j:Int)≤1000000000000000:=by omega
          have hb0:=HB1.out.trans (HBW.out.mono HB1.out.size)
          have hrd:=HRD.out wr hb0
          obtain ⟨xbk,xo,rfl,hxl⟩:=hrd.shape (by rw [flat_len,List.length_map];omega)
          have hxx:=flat_at hrd j (by rw [List.length_map];omega) (c:=(us.getD j (leafT 0 false ⟨#[]⟩)).c) (getD_mapc hju _)
          have htk:us.take (j+1)=us.take j++[us.getD j (leafT 0 false ⟨#[]⟩)]:=by rw [List.take_succ_eq_append_getElem hju];simp [List.getD,hju]
          have hnk:MT.nodesL (us.take (j+1))=MT.nodesL (us.take j)+(us.getD j (leafT 0 false ⟨#[]⟩)).nodes:=by rw [htk,nodesL_snocA]
          have hokk:okL (us.take (j+1)) (d+1)=(okL (us.take j) (d+1) && okT (us.getD j (leafT 0 false ⟨#[]⟩)) (d+1)):=by rw [htk,okL_snoc]
          have hdj:=nodesL_takeA us (j+1)
          obtain ⟨N,hN⟩:∃ N:Nat,n+1+MT.nodesL (us.take j)=N:=⟨_,rfl⟩
          have KV:=Lib.hid (HV.out j hju N (by omega) h65 wr hb0)
          have HCS:=Lib.hid (fun W (hb4:Below wr.heap.size wr W)=>(show WaA us vn n d W1 g (.int .i64 (walkR (us.getD j (leafT 0 false ⟨#[]⟩)) (d+1) N)) (.int .i64 ((j:Int)+1)) W from by
            refine ⟨j+1,rfl,by omega,by omega,HBW.out.trans (hb4.mono HBW.out.size),?_⟩
            unfold walkR
            by_cases hc:okT (us.getD j (leafT 0 false ⟨#[]⟩)) (d+1)=true∧N+(us.getD j (leafT 0 false ⟨#[]⟩)).nodes≤2000
            · rw [if_pos hc]
              refine .inl ⟨by rw [hnk,← Nat.add_assoc,hN],by rw [hokk,hok,hc.1];rfl,by rw [hnk];omega⟩
            · rw [if_neg hc]
              refine .inr ⟨rfl,fun hh=>hc ⟨?_,by omega⟩⟩
              have h1:=okL_take hh.1 (j+1)
              rw [hokk,hok,Bool.true_and] at h1
              exact h1))
          have hN0:(0:Int)≤(N:Int):=by omega
          have hN2:(N:Int)≤2000:=by omega
          rw [hN]
          clear htk hrd hb0 hnk hdj hN hokk hok hsum
          generalize walkR (us.getD j (leafT 0 false ⟨#[]⟩)) (d+1) N=wz at *
          generalize (us.getD j (leafT 0 false ⟨#[]⟩)).c=cx at KV hxx
          obtain ⟨xk,xb,xneg,xma,xmn,xmc,xe,xs,xka,xkn,xkc,xva,xvn,xvc⟩:=cx
          unfold Cel.val at KV
          obtain ⟨x0,x1,x2,x3,x4,x5,x6,x7⟩:=hxx
          try simp only at x0 x1 x2 x3 x4 x5 x6 x7
          go_wp2_with fail
          refine KV.out.mono ?_
          rintro r w4 ⟨rfl,hb4⟩
          have HF:=Lib.hid (HCS.out w4 hb4)
          clear hb4 KV HCS
          go_wp2
          go_roundg g
          case rel=>exact HF.out
          case measure=>omega
        · obtain rfl:j=vn:=by omega
          have hjz:¬ (j:Int)<(j:Int):=by omega
          have hall:us.take j=us:=List.take_of_length_le (by have:=HLN.out;omega)
          rw [hall] at hok hsum
          rw [hall]
          have HZ:=Lib.hid (show wk=((n+1+MT.nodesL us:Nat):Int) by rw [HWE2.out,if_pos ⟨hok,hsum⟩])
          clear hok hsum hall
          generalize n+1+MT.nodesL us=dm at *
          go_wp2
          go_ret
          exact ⟨by rw [HZ.out];rfl,HB1.out.trans (HBW.out.mono HB1.out.size)⟩
      · have HZ:=Lib.hid (show wk = -1 by rw [HWE2.out,if_neg hno])
        clear hno
        by_cases hlt:j<vn
        · have hltz:(j:Int)<(vn:Int):=by omega
          go_wp2
          go_ret
          exact ⟨by rw [HZ.out];rfl,HB1.out.trans (HBW.out.mono HB1.out.size)⟩
        · have hltz:¬ (j:Int)<(vn:Int):=by omega
          go_wp2
          go_ret
          exact ⟨by rw [HZ.out];rfl,HB1.out.trans (HBW.out.mono HB1.out.size)⟩
theorem walkR_check (t:MT):decide (0≤walkR t 1 0)=checkB t:=by
  unfold walkR checkB
  rw [Nat.zero_add]
  by_cases h:okT t 1=true∧t.nodes≤2000
  · rw [if_pos h,decide_eq_true (by omega)]
    rw [Bool.and_comm]
    symm
    rw [decide_eq_true h.2,Bool.and_true]
    exact h.1
  · rw [if_neg h,decide_eq_false (by decide)]
    symm
    rw [Bool.and_eq_false_iff]
    by_cases h2:t.nodes≤2000
    · right
      cases hk:okT t 1
      · exact hk
      · exact absurd ⟨hk,h2⟩ h
    · left;exact decide_eq_false h2
theorem refCheckA_any (t:MT) (w:World) (hR:Rep w t) (hl:LgtT t) :
    Calls Tryd.prog 23 #[t.c.val] w (BoolBelow (checkB t) w):=by
  have hb1:Below w.heap.size w (w.alloc (.cells #[.int .i64 t.c.k,.bool t.c.b,.bool t.c.neg,.slice t.c.ma t.c.mn t.c.mc,.int .i64 t.c.e,.string t.c.s,.slice t.c.ka t.c.kn t.c.kc,.slice t.c.va t.c.vn t.c.vc] 28)):=(Below.refl _ _).alloc (Nat.le_refl _) _
  have KW:=Lib.hid (refWalk_any t 1 0 _ (hR.on hb1) hl (by decide) (by decide))
  have HB:=Lib.hid hb1
  have HC:=Lib.hid (walkR_check t)
  clear hR hl hb1
  generalize walkR t 1 0=N at *
  generalize checkB t=cb at *
  generalize t.c=c at *
  obtain ⟨k,b0,neg,ma,mn,mc,e,s,ka,kn,kc,va,vn,vc⟩:=c
  unfold Cel.val at KW ⊢
  by_cases h0:(0:Int)≤N
  · have HD:=Lib.hid (show cb=true by rw [← HC.out];exact decide_eq_true h0)
    go_enter Tryd.func23,Tryd.ntmps23
    go_wp2_with fail
    refine KW.out.mono ?_
    rintro r w2 ⟨rfl,h2⟩
    have HF:=Lib.hid (below_on HB.out h2)
    clear h2
    go_wp2_with fail
    go_ret
    exact BoolBelow.mk (by first | (rw [HD.out];done) | (rw [HD.out];rfl) | (rw [← HC.out];done) | (rw [← HC.out];rfl)) HF.out
  · have HD:=Lib.hid (show cb=false by rw [← HC.out];exact decide_eq_false h0)
    go_enter Tryd.func23,Tryd.ntmps23
    go_wp2_with fail
    refine KW.out.mono ?_
    rintro r w2 ⟨rfl,h2⟩
    have HF:=Lib.hid (below_on HB.out h2)
    clear h2
    go_wp2_with fail
    go_ret
    exact BoolBelow.mk (by first | (rw [HD.out];done) | (rw [HD.out];rfl) | (rw [← HC.out];done) | (rw [← HC.out];rfl)) HF.out
end Go.Proofs.YticgggjfmhiilaaDoor
