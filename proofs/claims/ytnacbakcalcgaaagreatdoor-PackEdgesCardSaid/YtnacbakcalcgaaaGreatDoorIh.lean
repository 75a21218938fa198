/- Texts of the claim. -/
import Derived.Test.YtnacbakcalcgaaaGreatDoorIg
set_option linter.unusedVariables false
set_option linter.unusedSimpArgs false
set_option maxHeartbeats 4000000
set_option maxRecDepth 100000
namespace Go.Proofs.YtnacbakcalcgaaaGreatDoor
open Go.RowKit Go.Shelf
/-- A number of more limbs than there may be. -/
theorem check_long (neg:Bool) (ad:Option Addr) (n cap:Nat) (xs:List Nat) (e:Int) (w:World) (hn:xs.length=n) (hm:90<n) (hm2:n≤1000000000000000) :
    Calls Tryz.prog 102 #[.agg #[.bool neg,.slice ad n cap,.int .i64 e]] w (BoolBelow (chkB neg xs e) w):=by
  have HB:=Lib.hid ((Below.refl w.heap.size w).alloc (Nat.le_refl _) (.cells #[.bool neg,.slice ad n cap,.int .i64 e] 25))
  have HC:=Lib.hid (chkB_long (neg:=neg) (xs:=xs) (e:=e) (by rw [hn];exact hm))
  have h1:=nat_bne0 (show ¬ n=0 by omega)
  have h2:(90:Int)<(n:Int):=by omega
  clear hn hm
  go_enter Tryz.func102,Tryz.ntmps102
  go_wp2
  go_ret
  exact BoolBelow.mk (by rw [HC.out]) HB.out
theorem check_all (neg:Bool) (ad:Option Addr) (n cap:Nat) (xs:List Nat) (e:Int) (w:World) (hn:xs.length=n) (hcap:n≤cap) (hm:n≤1000000000000000) (ho:Okl xs) (hr:Rd w ad xs) :
    Calls Tryz.prog 102 #[.agg #[.bool neg,.slice ad n cap,.int .i64 e]] w (BoolBelow (chkB neg xs e) w):=by
  by_cases h:n≤1000000000
  · exact check_any neg ad n cap xs e w hn hcap h ho hr
  · exact check_long neg ad n cap xs e w hn (by omega) hm
def soundB (t:MT):Bool :=
  if t.c.k=1 then blankB t.c
  else if t.c.k=2 then blankB { t.c with b:=false }
  else if t.c.k=3 then chkB t.c.neg t.m t.c.e && blankB { t.c with neg:=false,ma:=none,mn:=0,mc:=0,e:=0 }
  else if t.c.k=4 then validL t.c.s.data.toList && (decide (t.c.s.size≤2000) && blankB { t.c with s:=⟨#[]⟩ })
  else if t.c.k=5 then decide (t.c.s.size≤2000) && blankB { t.c with s:=⟨#[]⟩ }
  else if t.c.k=7 then decide (t.c.kn=t.c.vn) && (risesB t.k && (decide (t.c.vn≤300) && blankB { t.c with ka:=none,kn:=0,kc:=0,va:=none,vn:=0,vc:=0 }))
  else if t.c.k=6 then decide (t.c.vn≤300) && blankB { t.c with va:=none,vn:=0,vc:=0 }
  else false
def two (w:World) (c:Cel):World:=(w.alloc (.cells c.cells.toArray 29)).alloc (.cells c.cells.toArray 29)
theorem two_box (w:World) (c:Cel):BoxT (two w c) w.heap.size c∧BoxT (two w c) (w.heap.size+1) c:=by
  refine ⟨?_,?_⟩
  · exact (Below.heap_alloc _ _ _ (by simp)).trans (heap_alloc_new w _)
  · have:=heap_alloc_new (w.alloc (.cells c.cells.toArray 29)) (.cells c.cells.toArray 29)
    rw [World.size_alloc] at this;exact this
theorem two_below (w:World) (c:Cel):Below w.heap.size w (two w c):=((Below.refl _ _).alloc (Nat.le_refl _) _).alloc (by simp) _
theorem two_size (w:World) (c:Cel):(two w c).heap.size=w.heap.size+2:=by simp [two]
theorem two_after {w w1:World} {c:Cel} (h:Below (two w c).heap.size (two w c) w1):BoxT w1 w.heap.size c∧BoxT w1 (w.heap.size+1) c∧Below w.heap.size w w1∧w.heap.size+2≤w1.heap.size:=by
  obtain ⟨h1,h2⟩:=two_box w c
  have hs:=two_size w c
  exact ⟨h1.on (h.block _ (by omega)),h2.on (h.block _ (by omega)),below_on (two_below w c) h,by have:=h.size;omega⟩
def two2 (w:World) (c d:Cel):World:=(w.alloc (.cells c.cells.toArray 29)).alloc (.cells d.cells.toArray 29)
theorem two_below2 (w:World) (c d:Cel):Below w.heap.size w (two2 w c d):=((Below.refl _ _).alloc (Nat.le_refl _) _).alloc (by simp) _
theorem sound_1 (b neg:Bool) (ma:Option Addr) (mn mc:Nat) (e:Int) (s:ByteArray) (ka:Option Addr) (kn kc:Nat) (va:Option Addr) (vn vc:Nat) (w:World) (hs:s.size≤maxLen) :
    Calls Tryz.prog 66 #[(⟨1,b,neg,ma,mn,mc,e,s,ka,kn,kc,va,vn,vc⟩:Cel).val] w (BoolBelow (blankB ⟨1,b,neg,ma,mn,mc,e,s,ka,kn,kc,va,vn,vc⟩) w):=by
  have KB:=Lib.hid (fun W=>blank_any ⟨1,b,neg,ma,mn,mc,e,s,ka,kn,kc,va,vn,vc⟩ W hs)
  have HB:=Lib.hid (two_below2 w ⟨1,b,neg,ma,mn,mc,e,s,ka,kn,kc,va,vn,vc⟩ ⟨1,b,neg,ma,mn,mc,e,s,ka,kn,kc,va,vn,vc⟩)
  unfold Cel.val at KB ⊢
  unfold two2 Cel.cells at HB
  go_enter Tryz.func66,Tryz.ntmps66
  go_wp2_with fail
  refine (KB.out _).mono ?_
  rintro r w9 ⟨rfl,h9⟩
  have H9:=Lib.hid (below_on HB.out h9);clear h9
  go_wp2
  go_ret
  exact BoolBelow.mk rfl H9.out
theorem sound_2 (b neg:Bool) (ma:Option Addr) (mn mc:Nat) (e:Int) (s:ByteArray) (ka:Option Addr) (kn kc:Nat) (va:Option Addr) (vn vc:Nat) (w:World) (hs:s.size≤maxLen) :
    Calls Tryz.prog 66 #[(⟨2,b,neg,ma,mn,mc,e,s,ka,kn,kc,va,vn,vc⟩:Cel).val] w (BoolBelow (blankB ⟨2,false,neg,ma,mn,mc,e,s,ka,kn,kc,va,vn,vc⟩) w):=by
  have KB:=Lib.hid (fun W=>blank_any ⟨2,false,neg,ma,mn,mc,e,s,ka,kn,kc,va,vn,vc⟩ W hs)
  have HB:=Lib.hid (two_below2 w ⟨2,b,neg,ma,mn,mc,e,s,ka,kn,kc,va,vn,vc⟩ ⟨2,false,neg,ma,mn,mc,e,s,ka,kn,kc,va,vn,vc⟩)
  unfold Cel.val at KB ⊢
  unfold two2 Cel.cells at HB
  go_enter Tryz.func66,Tryz.ntmps66
  go_wp2_with fail
  refine (KB.out _).mono ?_
  rintro r w9 ⟨rfl,h9⟩
  have H9:=Lib.hid (below_on HB.out h9);clear h9
  go_wp2
  go_ret
  exact BoolBelow.mk rfl H9.out
theorem sound_5 (b neg:Bool) (ma:Option Addr) (mn mc:Nat) (e:Int) (s:ByteArray) (ka:Option Addr) (kn kc:Nat) (va:Option Addr) (vn vc:Nat) (w:World) (hs:s.size≤maxLen) :
    Calls Tryz.prog 66 #[(⟨5,b,neg,ma,mn,mc,e,s,ka,kn,kc,va,vn,vc⟩:Cel).val] w (BoolBelow (decide (s.size≤2000) && blankB ⟨5,b,neg,ma,mn,mc,e,⟨#[]⟩,ka,kn,kc,va,vn,vc⟩) w):=by
  have hs0:=hs
  unfold maxLen at hs0
  by_cases h:s.size≤2000
  · have d1:¬ (2000:Int)<(s.size:Int):=by omega
    have D1:=Lib.hid (decide_eq_true h)
    rw [D1.out,Bool.true_and]
    have KB:=Lib.hid (fun W=>blank_any ⟨5,b,neg,ma,mn,mc,e,⟨#[]⟩,ka,kn,kc,va,vn,vc⟩ W (Nat.zero_le _))
    have HB:=Lib.hid (two_below2 w ⟨5,b,neg,ma,mn,mc,e,s,ka,kn,kc,va,vn,vc⟩ ⟨5,b,neg,ma,mn,mc,e,⟨#[]⟩,ka,kn,kc,va,vn,vc⟩)
    unfold Cel.val at KB ⊢
    unfold two2 Cel.cells at HB
    clear h
    go_enter Tryz.func66,Tryz.ntmps66
    go_wp2_with fail
    refine (KB.out _).mono ?_
    rintro r w9 ⟨rfl,h9⟩
    have H9:=Lib.hid (below_on HB.out h9);clear h9
    go_wp2
    go_ret
    exact BoolBelow.mk rfl H9.out
  · have d1:(2000:Int)<(s.size:Int):=by omega
    have D1:=Lib.hid (decide_eq_false h)
    rw [D1.out,Bool.false_and]
    have HB:=Lib.hid (two_below2 w ⟨5,b,neg,ma,mn,mc,e,s,ka,kn,kc,va,vn,vc⟩ ⟨5,b,neg,ma,mn,mc,e,s,ka,kn,kc,va,vn,vc⟩)
    unfold Cel.val
    unfold two2 Cel.cells at HB
    clear h
    go_enter Tryz.func66,Tryz.ntmps66
    go_wp2
    go_ret
    exact BoolBelow.mk rfl HB.out
theorem sound_6 (b neg:Bool) (ma:Option Addr) (mn mc:Nat) (e:Int) (s:ByteArray) (ka:Option Addr) (kn kc:Nat) (va:Option Addr) (vn vc:Nat) (w:World) (hs:s.size≤maxLen) (lm:vn≤1000000000000000) :
    Calls Tryz.prog 66 #[(⟨6,b,neg,ma,mn,mc,e,s,ka,kn,kc,va,vn,vc⟩:Cel).val] w (BoolBelow (decide (vn≤300) && blankB ⟨6,b,neg,ma,mn,mc,e,s,ka,kn,kc,none,0,0⟩) w):=by
  have hs0:=hs
  unfold maxLen at hs0
  by_cases h:vn≤300
  · have d1:¬ (300:Int)<(vn:Int):=by omega
    have D1:=Lib.hid (decide_eq_true h)
    rw [D1.out,Bool.true_and]
    have KB:=Lib.hid (fun W=>blank_any ⟨6,b,neg,ma,mn,mc,e,s,ka,kn,kc,none,0,0⟩ W hs)
    have HB:=Lib.hid (two_below2 w ⟨6,b,neg,ma,mn,mc,e,s,ka,kn,kc,va,vn,vc⟩ ⟨6,b,neg,ma,mn,mc,e,s,ka,kn,kc,none,0,0⟩)
    unfold Cel.val at KB ⊢
    unfold two2 Cel.cells at HB
    clear h
    go_enter Tryz.func66,Tryz.ntmps66
    go_wp2_with fail
    refine (KB.out _).mono ?_
    rintro r w9 ⟨rfl,h9⟩
    have H9:=Lib.hid (below_on HB.out h9);clear h9
    go_wp2
    go_ret
    exact BoolBelow.mk rfl H9.out
  · have d1:(300:Int)<(vn:Int):=by omega
    have D1:=Lib.hid (decide_eq_false h)
    rw [D1.out,Bool.false_and]
    have HB:=Lib.hid (two_below2 w ⟨6,b,neg,ma,mn,mc,e,s,ka,kn,kc,va,vn,vc⟩ ⟨6,b,neg,ma,mn,mc,e,s,ka,kn,kc,va,vn,vc⟩)
    unfold Cel.val
    unfold two2 Cel.cells at HB
    clear h
    go_enter Tryz.func66,Tryz.ntmps66
    go_wp2
    go_ret
    exact BoolBelow.mk rfl HB.out
theorem sound_3 (b neg:Bool) (ma:Option Addr) (mn mc:Nat) (e:Int) (s:ByteArray) (ka:Option Addr) (kn kc:Nat) (va:Option Addr) (vn vc:Nat) (w:World) (hs:s.size≤maxLen) (xs:List Nat) (hn:xs.length=mn) (hcap:mn≤mc) (hm:mn≤1000000000000000) (ho:Okl xs) (hr:Rd w ma xs) :
    Calls Tryz.prog 66 #[(⟨3,b,neg,ma,mn,mc,e,s,ka,kn,kc,va,vn,vc⟩:Cel).val] w (BoolBelow (chkB neg xs e && blankB ⟨3,b,false,none,0,0,0,s,ka,kn,kc,va,vn,vc⟩) w):=by
  have KC:=Lib.hid (check_all neg ma mn mc xs e (two w ⟨3,b,neg,ma,mn,mc,e,s,ka,kn,kc,va,vn,vc⟩) hn hcap hm ho (hr.below (two_below w ⟨3,b,neg,ma,mn,mc,e,s,ka,kn,kc,va,vn,vc⟩)))
  have HB:=Lib.hid (two_below w ⟨3,b,neg,ma,mn,mc,e,s,ka,kn,kc,va,vn,vc⟩)
  have KB:=Lib.hid (fun W=>blank_any ⟨3,b,false,none,0,0,0,s,ka,kn,kc,va,vn,vc⟩ W hs)
  unfold Cel.val at KB ⊢
  have HTW:=Lib.hid (show two w ⟨3,b,neg,ma,mn,mc,e,s,ka,kn,kc,va,vn,vc⟩=_ from rfl)
  unfold two Cel.cells at KC
  cases hc:chkB neg xs e
  · rw [hc] at KC
    rw [Bool.false_and]
    clear hc hn hcap hm ho hr
    go_enter Tryz.func66,Tryz.ntmps66
    go_wp2_with fail
    refine KC.out.mono ?_
    rintro r w1 ⟨rfl,h1⟩
    obtain ⟨q0,q1,hb1,hs1⟩:=two_after (w:=w) (c:=⟨3,b,neg,ma,mn,mc,e,s,ka,kn,kc,va,vn,vc⟩) h1
    obtain ⟨x0,x1,x2,x3,x4,x5,x6,x7⟩:=q0.cells
    obtain ⟨y0,y1,y2,y3,y4,y5,y6,y7⟩:=q1.cells
    have H1:=Lib.hid hb1;clear hb1 h1
    go_wp2
    go_ret
    exact BoolBelow.mk rfl H1.out
  · rw [hc] at KC
    rw [Bool.true_and]
    clear hc hn hcap hm ho hr
    go_enter Tryz.func66,Tryz.ntmps66
    go_wp2_with fail
    refine KC.out.mono ?_
    rintro r w1 ⟨rfl,h1⟩
    obtain ⟨q0,q1,hb1,hs1⟩:=two_after (w:=w) (c:=⟨3,b,neg,ma,mn,mc,e,s,ka,kn,kc,va,vn,vc⟩) h1
    obtain ⟨x0,x1,x2,x3,x4,x5,x6,x7⟩:=q0.cells
    obtain ⟨y0,y1,y2,y3,y4,y5,y6,y7⟩:=q1.cells
    have z2:=q1.free 2
    have z3:=q1.free 3
    have z4:=q1.free 4
    have H1:=Lib.hid (((hb1.setCell (p:=⟨w.heap.size+1,2,none⟩) (Nat.le_succ _) (.bool false)).setCell (p:=⟨w.heap.size+1,3,none⟩) (Nat.le_succ _) (.slice none 0 0)).setCell (p:=⟨w.heap.size+1,4,none⟩) (Nat.le_succ _) (.int .i64 0))
    clear hb1 h1 q0 q1 KC
    go_wp2_with fail
    refine (KB.out _).mono ?_
    rintro r w9 ⟨rfl,h9⟩
    have H9:=Lib.hid (below_on H1.out h9);clear h9
    go_wp2
    go_ret
    exact BoolBelow.mk rfl H9.out
theorem sound_4 (b neg:Bool) (ma:Option Addr) (mn mc:Nat) (e:Int) (s:ByteArray) (ka:Option Addr) (kn kc:Nat) (va:Option Addr) (vn vc:Nat) (w:World) (hs:s.size≤maxLen) (hT:UT w) :
    Calls Tryz.prog 66 #[(⟨4,b,neg,ma,mn,mc,e,s,ka,kn,kc,va,vn,vc⟩:Cel).val] w (BoolBelow (validL s.data.toList && (decide (s.size≤2000) && blankB ⟨4,b,neg,ma,mn,mc,e,⟨#[]⟩,ka,kn,kc,va,vn,vc⟩)) w):=by
  have KC:=Lib.hid (valid_any s (two w ⟨4,b,neg,ma,mn,mc,e,s,ka,kn,kc,va,vn,vc⟩) hs (hT.below (two_below w ⟨4,b,neg,ma,mn,mc,e,s,ka,kn,kc,va,vn,vc⟩)))
  have hs0:=hs
  unfold maxLen at hs0
  have KB:=Lib.hid (fun W=>blank_any ⟨4,b,neg,ma,mn,mc,e,⟨#[]⟩,ka,kn,kc,va,vn,vc⟩ W (Nat.zero_le _))
  unfold Cel.val at KB ⊢
  unfold two Cel.cells at KC
  clear hT
  cases hc:validL s.data.toList
  · rw [hc] at KC
    rw [Bool.false_and]
    clear hc
    go_enter Tryz.func66,Tryz.ntmps66
    go_wp2_with fail
    refine KC.out.mono ?_
    rintro r w1 ⟨rfl,h1⟩
    obtain ⟨q0,q1,hb1,hs1⟩:=two_after (w:=w) (c:=⟨4,b,neg,ma,mn,mc,e,s,ka,kn,kc,va,vn,vc⟩) h1
    obtain ⟨x0,x1,x2,x3,x4,x5,x6,x7⟩:=q0.cells
    obtain ⟨y0,y1,y2,y3,y4,y5,y6,y7⟩:=q1.cells
    have H1:=Lib.hid hb1;clear hb1 h1
    go_wp2
    go_ret
    exact BoolBelow.mk rfl H1.out
  · rw [hc] at KC
    rw [Bool.true_and]
    clear hc
    by_cases h:s.size≤2000
    · have d1:¬ (2000:Int)<(s.size:Int):=by omega
      have D1:=Lib.hid (decide_eq_true h)
      rw [D1.out,Bool.true_and]
      clear h
      go_enter Tryz.func66,Tryz.ntmps66
      go_wp2_with fail
      refine KC.out.mono ?_
      rintro r w1 ⟨rfl,h1⟩
      obtain ⟨q0,q1,hb1,hs1⟩:=two_after (w:=w) (c:=⟨4,b,neg,ma,mn,mc,e,s,ka,kn,kc,va,vn,vc⟩) h1
      obtain ⟨x0,x1,x2,x3,x4,x5,x6,x7⟩:=q0.cells
      obtain ⟨y0,y1,y2,y3,y4,y5,y6,y7⟩:=q1.cells
      have z5:=q1.free 5
      have H1:=Lib.hid (hb1.setCell (p:=⟨w.heap.size+1,5,none⟩) (Nat.le_succ _) (.string ⟨#[]⟩))
      clear hb1 h1 q0 q1 KC
      go_wp2_with fail
      refine (KB.out _).mono ?_
      rintro r w9 ⟨rfl,h9⟩
      have H9:=Lib.hid (below_on H1.out h9);clear h9
      go_wp2
      go_ret
      exact BoolBelow.mk rfl H9.out
    · have d1:(2000:Int)<(s.size:Int):=by omega
      have D1:=Lib.hid (decide_eq_false h)
      rw [D1.out,Bool.false_and]
      clear h
      go_enter Tryz.func66,Tryz.ntmps66
      go_wp2_with fail
      refine KC.out.mono ?_
      rintro r w1 ⟨rfl,h1⟩
      obtain ⟨q0,q1,hb1,hs1⟩:=two_after (w:=w) (c:=⟨4,b,neg,ma,mn,mc,e,s,ka,kn,kc,va,vn,vc⟩) h1
      obtain ⟨x0,x1,x2,x3,x4,x5,x6,x7⟩:=q0.cells
      obtain ⟨y0,y1,y2,y3,y4,y5,y6,y7⟩:=q1.cells
      have H1:=Lib.hid hb1;clear hb1 h1 q0 q1
      go_wp2
      go_ret
      exact BoolBelow.mk rfl H1.out
theorem sound_7 (b neg:Bool) (ma:Option Addr) (mn mc:Nat) (e:Int) (s:ByteArray) (ka:Option Addr) (kn kc:Nat) (va:Option Addr) (vn vc:Nat) (w:World) (hs:s.size≤maxLen) (ks:List ByteArray) (hn:ks.length=kn) (hcap:kn≤kc) (hm:kn≤1000000000000000) (lm:vn≤1000000000000000) (hr:RdV w ka (sv ks)) (hz:∀ s∈ks,s.size≤maxLen) (hT:UT w) :
    Calls Tryz.prog 66 #[(⟨7,b,neg,ma,mn,mc,e,s,ka,kn,kc,va,vn,vc⟩:Cel).val] w (BoolBelow (decide (kn=vn) && (risesB ks && (decide (vn≤300) && blankB ⟨7,b,neg,ma,mn,mc,e,s,none,0,0,none,0,0⟩))) w):=by
  have KC:=Lib.hid (namesRise_any ka kn kc ks (two w ⟨7,b,neg,ma,mn,mc,e,s,ka,kn,kc,va,vn,vc⟩) hn hcap hm (hr.on (two_below w ⟨7,b,neg,ma,mn,mc,e,s,ka,kn,kc,va,vn,vc⟩)) hz (hT.below (two_below w ⟨7,b,neg,ma,mn,mc,e,s,ka,kn,kc,va,vn,vc⟩)))
  have HB:=Lib.hid (two_below w ⟨7,b,neg,ma,mn,mc,e,s,ka,kn,kc,va,vn,vc⟩)
  have KB:=Lib.hid (fun W=>blank_any ⟨7,b,neg,ma,mn,mc,e,s,none,0,0,none,0,0⟩ W hs)
  unfold Cel.val at KB ⊢
  unfold two Cel.cells at KC HB
  clear hT hn hr hz
  by_cases hkv:kn=vn
  · have D0:=Lib.hid (decide_eq_true hkv)
    rw [D0.out,Bool.true_and]
    have d0:((kn:Int) != (vn:Int))=false:=by rw [bne_eq_false_iff_eq];omega
    have d0':((kn:Int) == (vn:Int))=true:=by rw [beq_iff_eq];omega
    have HKV:=Lib.hid hkv;clear hkv
    cases hc:risesB ks
    · rw [hc] at KC
      rw [Bool.false_and]
      clear hc
      go_enter Tryz.func66,Tryz.ntmps66
      go_wp2_with fail
      refine KC.out.mono ?_
      rintro r w1 ⟨rfl,h1⟩
      obtain ⟨q0,q1,hb1,hs1⟩:=two_after (w:=w) (c:=⟨7,b,neg,ma,mn,mc,e,s,ka,kn,kc,va,vn,vc⟩) h1
      obtain ⟨x0,x1,x2,x3,x4,x5,x6,x7⟩:=q0.cells
      obtain ⟨y0,y1,y2,y3,y4,y5,y6,y7⟩:=q1.cells
      have H1:=Lib.hid hb1;clear hb1 h1
      go_wp2
      go_ret
      exact BoolBelow.mk rfl H1.out
    · rw [hc] at KC
      rw [Bool.true_and]
      clear hc
      by_cases h:vn≤300
      · have d1:¬ (300:Int)<(vn:Int):=by omega
        have D1:=Lib.hid (decide_eq_true h)
        rw [D1.out,Bool.true_and]
        clear h
        go_enter Tryz.func66,Tryz.ntmps66
        go_wp2_with fail
        refine KC.out.mono ?_
        rintro r w1 ⟨rfl,h1⟩
        obtain ⟨q0,q1,hb1,hs1⟩:=two_after (w:=w) (c:=⟨7,b,neg,ma,mn,mc,e,s,ka,kn,kc,va,vn,vc⟩) h1
        obtain ⟨x0,x1,x2,x3,x4,x5,x6,x7⟩:=q0.cells
        obtain ⟨y0,y1,y2,y3,y4,y5,y6,y7⟩:=q1.cells
        have z6:=q1.free 6
        have z7:=q1.free 7
        have H1:=Lib.hid ((hb1.setCell (p:=⟨w.heap.size+1,6,none⟩) (Nat.le_succ _) (.slice none 0 0)).setCell (p:=⟨w.heap.size+1,7,none⟩) (Nat.le_succ _) (.slice none 0 0))
        clear hb1 h1 q0 q1 KC
        go_wp2_with fail
        refine (KB.out _).mono ?_
        rintro r w9 ⟨rfl,h9⟩
        have H9:=Lib.hid (below_on H1.out h9);clear h9
        go_wp2
        go_ret
        exact BoolBelow.mk rfl H9.out
      · have d1:(300:Int)<(vn:Int):=by omega
        have D1:=Lib.hid (decide_eq_false h)
        rw [D1.out,Bool.false_and]
        clear h
        go_enter Tryz.func66,Tryz.ntmps66
        go_wp2_with fail
        refine KC.out.mono ?_
        rintro r w1 ⟨rfl,h1⟩
        obtain ⟨q0,q1,hb1,hs1⟩:=two_after (w:=w) (c:=⟨7,b,neg,ma,mn,mc,e,s,ka,kn,kc,va,vn,vc⟩) h1
        obtain ⟨x0,x1,x2,x3,x4,x5,x6,x7⟩:=q0.cells
        obtain ⟨y0,y1,y2,y3,y4,y5,y6,y7⟩:=q1.cells
        have z6:=q1.free 6
        have H1:=Lib.hid (hb1.setCell (p:=⟨w.heap.size+1,6,none⟩) (Nat.le_succ _) (.slice none 0 0))
        clear hb1 h1 q0 q1
        go_wp2
        go_ret
        exact BoolBelow.mk rfl H1.out
  · have D0:=Lib.hid (decide_eq_false hkv)
    rw [D0.out,Bool.false_and]
    have d0:((kn:Int) != (vn:Int))=true:=by rw [bne_iff_ne];omega
    have d0':((kn:Int) == (vn:Int))=false:=by rw [beq_eq_false_iff_ne];omega
    clear hkv
    go_enter Tryz.func66,Tryz.ntmps66
    go_wp2
    go_ret
    exact BoolBelow.mk rfl HB.out
theorem sound_0 (k:Int) (b neg:Bool) (ma:Option Addr) (mn mc:Nat) (e:Int) (s:ByteArray) (ka:Option Addr) (kn kc:Nat) (va:Option Addr) (vn vc:Nat) (w:World) (h:k ≠ 1∧k ≠ 2∧k ≠ 3∧k ≠ 4∧k ≠ 5∧k ≠ 6∧k ≠ 7) :
    Calls Tryz.prog 66 #[(⟨k,b,neg,ma,mn,mc,e,s,ka,kn,kc,va,vn,vc⟩:Cel).val] w (BoolBelow false w):=by
  obtain ⟨h1,h2,h3,h4,h5,h6,h7⟩:=h
  have d1:(k == 1)=false:=by rw [beq_eq_false_iff_ne];exact h1
  have d2:(k == 2)=false:=by rw [beq_eq_false_iff_ne];exact h2
  have d3:(k == 3)=false:=by rw [beq_eq_false_iff_ne];exact h3
  have d4:(k == 4)=false:=by rw [beq_eq_false_iff_ne];exact h4
  have d5:(k == 5)=false:=by rw [beq_eq_false_iff_ne];exact h5
  have d6:(k == 6)=false:=by rw [beq_eq_false_iff_ne];exact h6
  have d7:(k == 7)=false:=by rw [beq_eq_false_iff_ne];exact h7
  have HB:=Lib.hid (two_below w ⟨k,b,neg,ma,mn,mc,e,s,ka,kn,kc,va,vn,vc⟩)
  unfold Cel.val
  unfold two Cel.cells at HB
  clear h1 h2 h3 h4 h5 h6 h7
  go_enter Tryz.func66,Tryz.ntmps66
  go_wp2
  go_ret
  exact BoolBelow.mk rfl HB.out
theorem sound_any (t:MT) (w:World) (h:Rd1 w t) (hT:UT w):Calls Tryz.prog 66 #[t.c.val] w (BoolBelow (soundB t) w):=by
  obtain ⟨c,m,ks,v⟩:=t
  obtain ⟨k,b,neg,ma,mn,mc,e,s,ka,kn,kc,va,vn,vc⟩:=c
  obtain ⟨h1,h2,h3,h4,h5,h6,h7,h8,h9,h10,h11,h12,h13,h14,h15⟩:=h
  simp only [MT.c,MT.m,MT.k,MT.v] at *
  unfold soundB
  simp only [MT.c,MT.m,MT.k]
  by_cases k1:k=1
  · subst k1;exact sound_1 _ _ _ _ _ _ _ _ _ _ _ _ _ w h12
  by_cases k2:k=2
  · subst k2;exact sound_2 _ _ _ _ _ _ _ _ _ _ _ _ _ w h12
  by_cases k3:k=3
  · subst k3;exact sound_3 _ _ _ _ _ _ _ _ _ _ _ _ _ w h12 m h1 h2 h11.1 h3 h4
  by_cases k4:k=4
  · subst k4;exact sound_4 _ _ _ _ _ _ _ _ _ _ _ _ _ w h12 hT
  by_cases k5:k=5
  · subst k5;exact sound_5 _ _ _ _ _ _ _ _ _ _ _ _ _ w h12
  by_cases k7:k=7
  · subst k7;exact sound_7 _ _ _ _ _ _ _ _ _ _ _ _ _ w h12 ks h5 h6 h11.2.1 h11.2.2 h7 h13 hT
  by_cases k6:k=6
  · subst k6;exact sound_6 _ _ _ _ _ _ _ _ _ _ _ _ _ w h12 h11.2.2
  simp only [k1,k2,k3,k4,k5,k7,k6,if_false]
  exact sound_0 _ _ _ _ _ _ _ _ _ _ _ _ _ _ w ⟨k1,k2,k3,k4,k5,k6,k7⟩
end Go.Proofs.YtnacbakcalcgaaaGreatDoor
