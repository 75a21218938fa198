/- Texts of the claim. -/
import Derived.Test.YtijaphbccnadbaaGreatDoorUE
import Derived.Test.YtijaphbccnadbaaGreatDoorUv
import Derived.Test.YtijaphbccnadbaaGreatDoorUh
import Derived.Test.YtijaphbccnadbaaGreatDoorUi
set_option linter.unusedVariables false
set_option linter.unusedSimpArgs false
set_option maxHeartbeats 8000000
set_option maxRecDepth 100000
namespace Go.Proofs.YtijaphbccnadbaaGreatDoor
open Go.Shelf Go.RowKit
def NoB (t:MT):Prop:=∀ s,t.sub s→s.c.k ≠ 5
theorem NoB.iff {t:MT}:NoB t ↔ t.c.k ≠ 5∧∀ u∈t.v,NoB u:=by
  constructor
  · intro h;exact ⟨h t t.sub_refl,fun u hu s hs=>h s (MT.sub_v hu hs)⟩
  · rintro ⟨h1,h2⟩ s hs
    rcases MT.sub_cases hs with rfl | ⟨u,hu,hs⟩
    · exact h1
    · exact h2 u hu s hs
def RefP (t:MT) (w:World) (e:Ending) (w':World):Prop :=
  (NoB t∧e=.returned (.tuple #[])∧Below w.heap.size w w')∨(¬ NoB t∧e=.panicked [{ v:=.iface 31 (.int .i64 6),recovered:=false }]∧Below w.heap.size w w')
def ReW (us:List MT) (n:Nat) (w:World) (g:Nat) (i:Value) (wr:World):Prop :=
  ∃ j,i=.int .i64 ((j:Nat):Int)∧j≤n∧n - j≤g∧(∀ u∈us.take j,NoB u)∧Below w.heap.size w wr
theorem refuse_any (t:MT):∀ w,Rep w t→Calls Tryz.prog 32 #[t.c.val] w (RefP t w):=by
  refine MT.ind (P:=fun t=>∀ w,Rep w t→Calls Tryz.prog 32 #[t.c.val] w (RefP t w)) ?_ t
  intro t ih w hR
  have own:=hR.own
  have HV:=Lib.hid (fun j (hj:j<t.v.length) W (h:Below w.heap.size w W)=>ih (t.v.getD j (leafT 0 false ⟨#[]⟩)) (by simp [List.getD,hj]) W ((hR.part (by simp [List.getD,hj])).on h))
  have HRD:=Lib.hid (fun W (h:Below w.heap.size w W)=>own.vr.on h)
  have HLN:=Lib.hid own.vn
  have hm:=own.lm.2.2
  have HYES:=Lib.hid (fun (h1:t.c.k ≠ 5) (h2:∀ u∈t.v,NoB u) W (hb:Below w.heap.size w W)=>(show RefP t w (.returned (.tuple #[])) W from .inl ⟨NoB.iff.2 ⟨h1,h2⟩,rfl,hb⟩))
  have HNO:=Lib.hid (fun (h:¬ (t.c.k ≠ 5∧∀ u∈t.v,NoB u)) W (hb:Below w.heap.size w W)=>(show RefP t w (.panicked [{ v:=.iface 31 (.int .i64 6),recovered:=false }]) W from .inr ⟨fun h2=>h (NoB.iff.1 h2),rfl,hb⟩))
  generalize RefP t w=RP at *
  clear ih hR own
  generalize t.v=us at *
  generalize t.c=c at *
  obtain ⟨k,b0,neg,ma,mn,mc,e,s,ka,kn,kc,va,vn,vc⟩:=c
  unfold Cel.val
  simp only at HRD HLN hm HYES HNO
  obtain ⟨W1,hW1⟩:∃ x,w.alloc (.cells #[.int .i64 k,.bool b0,.bool neg,.slice ma mn mc,.int .i64 e,.string s,.slice ka kn kc,.slice va vn vc] 28)=x:=⟨_,rfl⟩
  have hb1:Below w.heap.size w W1:=by rw [← hW1];exact (Below.refl _ _).alloc (Nat.le_refl _) _
  have q1:W1.heap[w.heap.size]? = some (.cells #[.int .i64 k,.bool b0,.bool neg,.slice ma mn mc,.int .i64 e,.string s,.slice ka kn kc,.slice va vn vc] 28):=by rw [← hW1];exact heap_alloc_new w _
  have y0:=(box_cellsJ q1 0 _ rfl).1
  have y1:=(box_cellsJ q1 1 _ rfl).1
  have y2:=(box_cellsJ q1 2 _ rfl).1
  have y3:=(box_cellsJ q1 3 _ rfl).1
  have y4:=(box_cellsJ q1 4 _ rfl).1
  have y5:=(box_cellsJ q1 5 _ rfl).1
  have y6:=(box_cellsJ q1 6 _ rfl).1
  have y7:=(box_cellsJ q1 7 _ rfl).1
  have HW1:=Lib.hid hW1;have HB1:=Lib.hid hb1
  clear hW1 hb1 q1
  by_cases hk:k=5
  · subst hk
    have HZ:=Lib.hid (HNO.out (fun h=>h.1 rfl) W1 HB1.out)
    go_enter Tryz.func32,Tryz.ntmps32
    go_wp2_with fail
    rw [HW1.out]
    go_wp2
    exact ⟨rfl,HZ.out⟩
  · have hkb:(k == 5)=false:=by rw [beq_eq_false_iff_ne];exact hk
    have HST:=Lib.hid (show ReW us vn w vn (.int .i64 ((0:Nat):Int)) W1 from ⟨0,rfl,Nat.zero_le _,by omega,nofun,HB1.out⟩)
    have HK:=Lib.hid hk
    clear hk
    go_enter Tryz.func32,Tryz.ntmps32
    go_wp2_with fail
    rw [HW1.out]
    go_wp2_with fail
    go_loopg [11] vn (fun g i wr=>ReW us vn w g i wr)
    case atStart=>exact HST.out
    case round =>
      clear HST y0 y1 y2 y3 y4 y5 y6 y7
      obtain ⟨j,rfl,hjn,hgj,hno,hbw⟩:=hrel
      have HBW:=Lib.hid hbw;have HNB:=Lib.hid hno
      clear hbw hno
      by_cases hlt:j<vn
      · obtain ⟨g,rfl⟩:∃ g,gk=g+1:=⟨gk - 1,by omega⟩
        have hltz:(j:Int)<(vn:Int):=by omega
        have hju:j<us.length:=by have:=HLN.out;omega
        have hj6:(j:Int)≤1000000000000000:=by omega
        have hrd:=HRD.out wr HBW.out
        obtain ⟨xbk,xo,rfl,hxl⟩:=hrd.shape (by rw [flat_len,List.length_map];omega)
        have hxx:=flat_at hrd j (by rw [List.length_map];omega) (c:=(us.getD j (leafT 0 false ⟨#[]⟩)).c) (getD_mapc hju _)
        have KV:=Lib.hid (HV.out j hju)
        have hmem:us.getD j (leafT 0 false ⟨#[]⟩)∈us:=by simp [List.getD,hju]
        have htk:us.take (j+1)=us.take j++[us.getD j (leafT 0 false ⟨#[]⟩)]:=by rw [List.take_succ_eq_append_getElem hju];simp [List.getD,hju]
        have HMEM:=Lib.hid hmem;have HTK:=Lib.hid htk
        clear hmem htk
        unfold RefP at KV
        generalize us.getD j (leafT 0 false ⟨#[]⟩)=uj at *
        generalize uj.c=cx at KV hxx
        obtain ⟨xk,xb,xneg,xma,xmn,xmc,xe,xs,xka,xkn,xkc,xva,xvn,xvc⟩:=cx
        unfold Cel.val at KV
        obtain ⟨x0,x1,x2,x3,x4,x5,x6,x7⟩:=hxx
        try simp only at x0 x1 x2 x3 x4 x5 x6 x7
        obtain ⟨W3,hW3⟩:∃ x,wr.alloc (.cells #[.int .i64 xk,.bool xb,.bool xneg,.slice xma xmn xmc,.int .i64 xe,.string xs,.slice xka xkn xkc,.slice xva xvn xvc] 28)=x:=⟨_,rfl⟩
        have hb3:Below wr.heap.size wr W3:=by rw [← hW3];exact (Below.refl _ _).alloc (Nat.le_refl _) _
        have q3:W3.heap[wr.heap.size]? = some (.cells #[.int .i64 xk,.bool xb,.bool xneg,.slice xma xmn xmc,.int .i64 xe,.string xs,.slice xka xkn xkc,.slice xva xvn xvc] 28):=by rw [← hW3];exact heap_alloc_new wr _
        have hb03:Below w.heap.size w W3:=HBW.out.trans (hb3.mono HBW.out.size)
        have KV2:=Lib.hid (KV.out W3 hb03)
        have HB3:=Lib.hid hb03
        have y0:=(box_cellsJ q3 0 _ rfl).1
        have y1:=(box_cellsJ q3 1 _ rfl).1
        have y2:=(box_cellsJ q3 2 _ rfl).1
        have y3:=(box_cellsJ q3 3 _ rfl).1
        have y4:=(box_cellsJ q3 4 _ rfl).1
        have y5:=(box_cellsJ q3 5 _ rfl).1
        have y6:=(box_cellsJ q3 6 _ rfl).1
        have y7:=(box_cellsJ q3 7 _ rfl).1
        have HW3:=Lib.hid hW3
        clear hrd hb3 q3 hb03 hW3 KV
        go_wp2_with fail
        rw [HW3.out]
        go_wp2_with fail
        refine KV2.out.mono ?_
        intro r w4 hp4
        rcases hp4 with ⟨e1,rfl,e2⟩ | ⟨e1,rfl,e2⟩
        · have HF:=Lib.hid (show ReW us vn w g (.int .i64 ((j:Int)+1)) w4 from ⟨j+1,by simp,by omega,by omega,by
            rw [HTK.out]
            intro u hu
            rcases List.mem_append.1 hu with hu | hu
            · exact HNB.out u hu
            · rw [List.mem_singleton.1 hu];exact e1,HB3.out.trans (e2.mono HB3.out.size)⟩)
          clear e1 e2 KV2
          go_wp2
          go_roundg g
          case rel=>exact HF.out
          case measure=>omega
        · have HZ:=Lib.hid (HNO.out (fun h=>e1 (h.2 uj HMEM.out)) w4 (HB3.out.trans (e2.mono HB3.out.size)))
          clear e1 e2 KV2
          go_wp2
          exact ⟨rfl,HZ.out⟩
      · obtain rfl:j=vn:=by omega
        have hjz:¬ (j:Int)<(j:Int):=by omega
        have HZ:=Lib.hid (HYES.out HK.out (by have:=HNB.out;rwa [List.take_of_length_le (by have:=HLN.out;omega)] at this) wr HBW.out)
        go_wp2
        go_end0
        exact HZ.out
theorem catch_thrownE (g h : Nat) (v0 u : Value) (x : Int) (older : List PanicEntry) (w : World) (n1 : g ≠ h)
    (c0 : w.cell? ⟨g, 0, none⟩ = some v0) (f0 : w.frozen? ⟨g, 0, none⟩ = false)
    (ch : w.cell? ⟨h, 0, none⟩ = some u) (fh : w.frozen? ⟨h, 0, none⟩ = false) :
    CallsD Tryz.prog 30 #[.pointer (some ⟨g, 0, none⟩), .pointer (some ⟨h, 0, none⟩)] (.panicking ({ v := .iface 31 (.int .i64 x), recovered := false } :: older)) w fun e u' w' =>
      e = .returned (.tuple #[]) ∧ u' = .panicking ({ v := .iface 31 (.int .i64 x), recovered := true } :: older) ∧
        w' = ((w.setCell ⟨g, 0, none⟩ (.string ⟨#[]⟩)).setCell ⟨h, 0, none⟩ (.int .i64 x)).drew := by
  refine callsD_of_wpS Tryz.func30 rfl fun c₀ cs hu => ?_
  apply wpS_seq
  apply wpS_region
  simp [wpOpsS, go_sem, recoverD, hu, Tryz.ntmps30, Exit.thenS]
  apply wpS_seq
  apply wpS_region
  simp [wpOpsS, go_sem, Exit.thenS]
  refine wpS_cond (t := true) (by simp [Act.eval, Array.replicate]) ?_
  simp only [if_true]
  refine wpS_of_wp ?_
  change Code.wp _ _ _ { tmps := #[.pointer (some ⟨g, 0, none⟩), .pointer (some ⟨h, 0, none⟩), .iface 31 (.int .i64 x), .iface 31 (.int .i64 x), .iface 31 (.int .i64 x), .bool true, undef, undef], defers := [] } w
  have hne1 : ¬ h = g := fun hh => n1 hh.symm
  have hta := assert_errnoD x
  go_region
  exact ⟨rfl, _, rfl, .tuple #[], by simp [results, Tryz.results30, go_sem], rfl, rfl, rfl⟩
theorem catch_idleE (p q:Addr) (w:World) :
    CallsD Tryz.prog 30 #[.pointer (some p),.pointer (some q)] .returning w fun e u' w'=>e=.returned (.tuple #[])∧u'=.returning∧w'=w:=by
  refine callsD_of_wpS Tryz.func30 rfl fun c₀ cs hu=>?_
  apply wpS_seq
  apply wpS_region
  simp [wpOpsS,go_sem,recoverD,hu,Tryz.ntmps30,Exit.thenS]
  apply wpS_seq
  apply wpS_region
  simp [wpOpsS,go_sem,Exit.thenS]
  refine wpS_cond (t:=false) (by simp [Act.eval,Array.replicate]) ?_
  simp only [Bool.false_eq_true,if_false]
  refine wpS_of_wp (wp_skip ?_)
  cases c₀
  simp_all [bodyPostS,results,Tryz.results30]
theorem sizeTxt_ne (d:List Nat) (e:Int) (hd:0<d.length):sizeTxt d e ≠ []:=by
  unfold sizeTxt
  split
  · unfold expTxt;simp
  · split
    · simp
    · split
      · simp
      · intro h
        have:=congrArg List.length h
        rw [List.length_append,List.length_nil] at this
        omega
theorem numTxt_ne (neg:Bool) (N:Nat) (e:Int):numTxt neg N e ≠ []:=by
  unfold numTxt
  split
  · decide
  · cases neg
    · simp only [Bool.false_eq_true,if_false,List.nil_append]
      exact sizeTxt_ne _ _ (dec_pos _)
    · simp
theorem wr_new {B b:Nat} {W:World} (hB:B≤b) (h:W.heap[b]? = some (.cells #[.pointer none,.slice none 0 0] 64)):WrJ B b [] W :=
  .inl ⟨hB,_,h,World.ownsRowF_nil _ _ _ _,nofun⟩
noncomputable def encodeL (t:MT):List UInt8 ⊕ Int:=by classical exact if checkB t=false then .inr 1 else if NoB t then (if (encJ t).length≤32768 then .inl (encJ t) else .inr 4) else .inr 6
def EncPost (r:List UInt8 ⊕ Int) (w:World) (e:Ending) (w':World):Prop :=
  match r with
  | .inl l=>e=.returned (.tuple #[.string ⟨l.toArray⟩,.int .i64 0])∧Below w.heap.size w w'
  | .inr x=>e=.returned (.tuple #[.string ⟨#[]⟩,.int .i64 x])∧Below w.heap.size w w'
theorem EncPost.no {r:List UInt8 ⊕ Int} {w w':World} {e:Ending} {x:Int} (h:r=.inr x) (he:e=.returned (.tuple #[.string ⟨#[]⟩,.int .i64 x])) (hb:Below w.heap.size w w'):EncPost r w e w':=by
  subst h;exact ⟨he,hb⟩
theorem EncPost.yes {r:List UInt8 ⊕ Int} {w w':World} {e:Ending} {l:List UInt8} (h:r=.inl l) (he:e=.returned (.tuple #[.string ⟨l.toArray⟩,.int .i64 0])) (hb:Below w.heap.size w w'):EncPost r w e w':=by
  subst h;exact ⟨he,hb⟩
theorem check_sub {t:MT} (h:checkB t=true):∀ s,t.sub s→soundB s=true:=by
  intro s hs
  unfold checkB at h
  rw [Bool.and_eq_true,List.all_eq_true] at h
  obtain ⟨n,hn⟩:=hs
  obtain ⟨m,hm⟩:=MT.mem_pre_shift t 0 1 s ⟨n,hn⟩
  have:=h.2 _ hm
  rw [Bool.and_eq_true] at this
  exact this.2
theorem quoteL_ne {l:List UInt8} (h:validL l=true):quoteL l ≠ []:=by unfold quoteL;rw [if_pos h];simp
theorem encJ_ne {t:MT} (h:soundB t=true) (h5:t.c.k ≠ 5):encJ t ≠ []:=by
  rw [encJ_eq]
  unfold soundB at h
  split
  · decide
  · split
    · unfold truthB;split <;> decide
    · split
      · rename_i k1 k2 k3
        unfold numB
        have h1:numTxt t.c.neg (val t.m) t.c.e ≠ []:=numTxt_ne _ _ _
        simpa using h1
      · split
        · rename_i k1 k2 k3 k4
          rw [if_neg k1,if_neg k2,if_neg k3,if_pos k4,Bool.and_eq_true] at h
          exact quoteL_ne h.1
        · split
          · unfold arrB;simp
          · split
            · unfold objB;simp
            · rename_i k1 k2 k3 k4 k6 k7
              simp [k1,k2,k3,k4,h5,k6,k7] at h
theorem encode_anyj (t:MT) (w:World) (hR:Rep w t) (hU:UT w) (hT:TB w):Calls Tryz.prog 13 #[t.c.val] w (EncPost (encodeL t) w):=by
  have hmf:∀ (fn:Fn) (first cap:Array Value) (w:World),(Instr.makeFunc fn first cap).run Tryz.prog w=.ok (.func fn first cap) w:=fun _ _ _ _=>rfl
  have hWW:∃ W,W=((w.alloc (.cells t.c.cells.toArray 28)).alloc (.cells #[.string ⟨#[]⟩] 9)).alloc (.cells #[.int .i64 0] 31):=⟨_,rfl⟩
  obtain ⟨W,hW⟩:=hWW
  have hb0:Below w.heap.size w W:=by
    rw [hW];exact (((Below.refl _ _).alloc (Nat.le_refl _) _).alloc (by simp) _).alloc (by simp;omega) _
  have hs0:W.heap.size=w.heap.size+1+1+1:=by rw [hW];simp
  have q0:W.heap[w.heap.size]? = some (.cells t.c.cells.toArray 28):=by
    rw [hW];exact (Below.heap_alloc _ _ _ (by simp;omega)).trans ((Below.heap_alloc _ _ _ (by simp)).trans (heap_alloc_new w _))
  have q1:W.heap[w.heap.size+1]? = some (.cells #[.string ⟨#[]⟩] 9):=by
    rw [hW]
    refine (Below.heap_alloc _ _ _ (by simp)).trans ?_
    have:=heap_alloc_new (w.alloc (.cells t.c.cells.toArray 28)) (.cells #[.string ⟨#[]⟩] 9);simpa using this
  have q2:W.heap[w.heap.size+1+1]? = some (.cells #[.int .i64 0] 31):=by
    rw [hW]
    have:=heap_alloc_new ((w.alloc (.cells t.c.cells.toArray 28)).alloc (.cells #[.string ⟨#[]⟩] 9)) (.cells #[.int .i64 0] 31);simpa using this
  have KC:=Lib.hid (checkT_any t W (hR.on hb0) (hU.below hb0))
  have KR:=Lib.hid (fun W' (h:Below W.heap.size W W')=>refuse_any t W' ((hR.on hb0).on h))
  have KV:=Lib.hid (fun W' (h:Below W.heap.size W W') (hc:checkB t=true) (hn:NoB t) =>
    encv_any W'.heap.size W'.heap.size W' (Nat.le_refl _) rfl ((hU.below hb0).below h) ((hT.below hb0).below h) t ((hR.on hb0).on h) (fun s hs=>⟨check_sub hc s hs,hn s hs⟩))
  have HR1:=Lib.hid (fun (h:checkB t=false)=>(show encodeL t=.inr 1 by unfold encodeL;rw [if_pos h]))
  have HR6:=Lib.hid (fun (h:checkB t=true) (h2:¬ NoB t)=>(show encodeL t=.inr 6 by unfold encodeL;rw [if_neg (by rw [h];decide),if_neg h2]))
  have HR4:=Lib.hid (fun (h:checkB t=true) (h2:NoB t) (h3:32768<(encJ t).length)=>(show encodeL t=.inr 4 by unfold encodeL;rw [if_neg (by rw [h];decide),if_pos h2,if_neg (by omega)]))
  have HRY:=Lib.hid (fun (h:checkB t=true) (h2:NoB t) (h3:(encJ t).length≤32768)=>(show encodeL t=.inl (encJ t) by unfold encodeL;rw [if_neg (by rw [h];decide),if_pos h2,if_pos h3]))
  have HNE:=Lib.hid (fun (h:checkB t=true) (h2:NoB t)=>encJ_ne (check_sub h t t.sub_refl) (h2 t t.sub_refl))
  unfold RefP at KR
  unfold EncC at KV
  have HB0:=Lib.hid hb0;have HS0:=Lib.hid hs0;have Q0:=Lib.hid q0;have Q1:=Lib.hid q1;have Q2:=Lib.hid q2
  clear hR hU hT hb0 hs0 q0 q1 q2
  generalize checkB t=ck at *
  generalize NoB t=nb at *
  generalize encodeL t=RR at *
  generalize encJ t=ej at *
  generalize t.c=c at *
  obtain ⟨k,b0,neg,ma,mn,mc,e,s,ka,kn,kc,va,vn,vc⟩:=c
  unfold Cel.cells at hW Q0
  simp only at hW Q0
  unfold Cel.val at *
  have HW:=Lib.hid hW.symm
  clear hW
  have hb:Below W.heap.size W W:=Below.refl _ _
  have p0:=(hb.block w.heap.size (by have:=HS0.out;omega)).trans Q0.out
  have p1:=(hb.block (w.heap.size+1) (by have:=HS0.out;omega)).trans Q1.out
  have p2:=(hb.block (w.heap.size+1+1) (by have:=HS0.out;omega)).trans Q2.out
  have y0:=(box_cellsJ p0 0 _ rfl).1
  have y1:=(box_cellsJ p0 1 _ rfl).1
  have y2:=(box_cellsJ p0 2 _ rfl).1
  have y3:=(box_cellsJ p0 3 _ rfl).1
  have y4:=(box_cellsJ p0 4 _ rfl).1
  have y5:=(box_cellsJ p0 5 _ rfl).1
  have y6:=(box_cellsJ p0 6 _ rfl).1
  have y7:=(box_cellsJ p0 7 _ rfl).1
  have a0:W.cell? ⟨w.heap.size+1,0,none⟩=some (.string ⟨#[]⟩):=(box_cellsJ p1 0 _ rfl).1
  have af0:=(box_cellsJ p1 0 _ rfl).2
  have b0':W.cell? ⟨w.heap.size+1+1,0,none⟩=some (.int .i64 0):=(box_cellsJ p2 0 _ rfl).1
  have bf0:=(box_cellsJ p2 0 _ rfl).2
  clear p0 p1 p2 hb
  go_enter_defers Tryz.func13,Tryz.ntmps13
  go_wp2_with fail
  rw [HW.out]
  go_wp2_with fail
  refine KC.out.mono ?_
  rintro r w1 ⟨rfl,hb⟩
  clear y0 y1 y2 y3 y4 y5 y6 y7 a0 af0 b0' bf0
  have p0:=(hb.block w.heap.size (by have:=HS0.out;omega)).trans Q0.out
  have p1:=(hb.block (w.heap.size+1) (by have:=HS0.out;omega)).trans Q1.out
  have p2:=(hb.block (w.heap.size+1+1) (by have:=HS0.out;omega)).trans Q2.out
  have y0:=(box_cellsJ p0 0 _ rfl).1
  have y1:=(box_cellsJ p0 1 _ rfl).1
  have y2:=(box_cellsJ p0 2 _ rfl).1
  have y3:=(box_cellsJ p0 3 _ rfl).1
  have y4:=(box_cellsJ p0 4 _ rfl).1
  have y5:=(box_cellsJ p0 5 _ rfl).1
  have y6:=(box_cellsJ p0 6 _ rfl).1
  have y7:=(box_cellsJ p0 7 _ rfl).1
  have a0:w1.cell? ⟨w.heap.size+1,0,none⟩=some (.string ⟨#[]⟩):=(box_cellsJ p1 0 _ rfl).1
  have af0:=(box_cellsJ p1 0 _ rfl).2
  have b0':w1.cell? ⟨w.heap.size+1+1,0,none⟩=some (.int .i64 0):=(box_cellsJ p2 0 _ rfl).1
  have bf0:=(box_cellsJ p2 0 _ rfl).2
  have HB1:=Lib.hid hb
  have HBW:=Lib.hid (HB0.out.trans (hb.mono HB0.out.size))
  clear p0 p1 p2 hb
  cases ck with
  | false =>
    have HR:=Lib.hid (HR1.out (by first | rfl | trivial))
    go_wp2
    refine leaves_cons (f:=30) (args:=#[.pointer (some ⟨w.heap.size+1,0,none⟩),.pointer (some ⟨w.heap.size+1+1,0,none⟩)]) (by simp) (by simp [go_sem]) ?_
    refine (catch_thrownE (w.heap.size+1) (w.heap.size+1+1) _ _ 1 [] _ (by omega) a0 af0 b0' bf0).mono ?_
    rintro e u' w'' ⟨rfl,rfl,rfl⟩
    simp [Leaves,settle,results,Tryz.results13,go_sem,a0,b0']
    exact EncPost.no HR.out rfl (((HBW.out.setCell (by simp) _).setCell (by simp <;> omega) _).drew)
  | true =>
    go_wp2_with fail
    refine (KR.out w1 HB1.out).mono ?_
    intro r w2 hp2
    rcases hp2 with ⟨hn,rfl,hb2⟩ | ⟨hn,rfl,hb2⟩
    · have hb:=HB1.out.trans (hb2.mono HB1.out.size)
      clear y0 y1 y2 y3 y4 y5 y6 y7 a0 af0 b0' bf0
      have p0:=(hb.block w.heap.size (by have:=HS0.out;omega)).trans Q0.out
      have p1:=(hb.block (w.heap.size+1) (by have:=HS0.out;omega)).trans Q1.out
      have p2:=(hb.block (w.heap.size+1+1) (by have:=HS0.out;omega)).trans Q2.out
      have y0:=(box_cellsJ p0 0 _ rfl).1
      have y1:=(box_cellsJ p0 1 _ rfl).1
      have y2:=(box_cellsJ p0 2 _ rfl).1
      have y3:=(box_cellsJ p0 3 _ rfl).1
      have y4:=(box_cellsJ p0 4 _ rfl).1
      have y5:=(box_cellsJ p0 5 _ rfl).1
      have y6:=(box_cellsJ p0 6 _ rfl).1
      have y7:=(box_cellsJ p0 7 _ rfl).1
      have a0:w2.cell? ⟨w.heap.size+1,0,none⟩=some (.string ⟨#[]⟩):=(box_cellsJ p1 0 _ rfl).1
      have af0:=(box_cellsJ p1 0 _ rfl).2
      have b0':w2.cell? ⟨w.heap.size+1+1,0,none⟩=some (.int .i64 0):=(box_cellsJ p2 0 _ rfl).1
      have bf0:=(box_cellsJ p2 0 _ rfl).2
      have HB2:=Lib.hid hb
      have HBX:=Lib.hid (HB0.out.trans (hb.mono HB0.out.size))
      obtain ⟨W3,hW3⟩:∃ x,w2.alloc (.cells #[.pointer none,.slice none 0 0] 64)=x:=⟨_,rfl⟩
      have hb3:Below w2.heap.size w2 W3:=by rw [← hW3];exact (Below.refl _ _).alloc (Nat.le_refl _) _
      have q3:W3.heap[w2.heap.size]? = some (.cells #[.pointer none,.slice none 0 0] 64):=by rw [← hW3];exact heap_alloc_new w2 _
      have hlt3:w2.heap.size<W3.heap.size:=(Array.getElem?_eq_some_iff.1 q3).1
      have KV2:=Lib.hid (KV.out w2 HB2.out (by first | rfl | trivial) hn [] W3 (wr_new (Nat.le_refl _) q3) (by simp) hb3 hlt3)
      have HN:=Lib.hid hn
      have HW3:=Lib.hid hW3
      have HB3:=Lib.hid hb3
      have hs2:w.heap.size+1+1<w2.heap.size:=(Array.getElem?_eq_some_iff.1 p2).1
      have P0:=Lib.hid ((hb3.block _ (by omega)).trans p0);have P1:=Lib.hid ((hb3.block _ (by omega)).trans p1);have P2:=Lib.hid ((hb3.block _ hs2).trans p2)
      have hlt2:w.heap.size<w2.heap.size:=by omega
      clear p0 p1 p2 hb hb2 hn hW3 hb3 q3 a0 af0 b0' bf0
      go_wp2_with fail
      rw [HW3.out]
      refine KV2.out.mono ?_
      intro r w4 hp4
      unfold EncW at hp4
      simp only [List.length_nil,Nat.zero_add,List.nil_append] at hp4
      rcases hp4 with ⟨e1,rfl,e2,e3⟩ | ⟨e1,rfl,e2⟩
      · have KS:=Lib.hid (stringW _ _ _ w4 e2 (HNE.out (by first | rfl | trivial) HN.out))
        have HR:=Lib.hid (HRY.out (by first | rfl | trivial) HN.out e1)
        have HB4:=Lib.hid (HB3.out.trans e3.bel)
        clear e1 e2 e3 KV2 y0 y1 y2 y3 y4 y5 y6 y7
        go_wp2_with fail
        refine KS.out.mono ?_
        rintro r w5 ⟨rfl,hb5,_⟩
        have hb25:=HB4.out.trans hb5
        have hbx:Below W3.heap.size W3 W3:=Below.refl _ _
        have p1:=(hb25.block (w.heap.size+1) (by omega)).trans ((HB3.out.block _ (by omega)).symm.trans P1.out)
        have p2:=(hb25.block (w.heap.size+1+1) (by omega)).trans ((HB3.out.block _ (by omega)).symm.trans P2.out)
        have a0:w5.cell? ⟨w.heap.size+1,0,none⟩=some (.string ⟨#[]⟩):=(box_cellsJ p1 0 _ rfl).1
        have af0:=(box_cellsJ p1 0 _ rfl).2
        have b0':w5.cell? ⟨w.heap.size+1+1,0,none⟩=some (.int .i64 0):=(box_cellsJ p2 0 _ rfl).1
        have bf0:=(box_cellsJ p2 0 _ rfl).2
        have HB5:=Lib.hid (HBX.out.trans (hb25.mono HBX.out.size))
        have n1:¬ w.heap.size+1+1=w.heap.size+1:=by omega
        clear hb25 hb5 p1 p2 KS hbx
        go_wp2
        refine leaves_cons (f:=30) (args:=#[.pointer (some ⟨w.heap.size+1,0,none⟩),.pointer (some ⟨w.heap.size+1+1,0,none⟩)]) (by simp) (by simp [go_sem]) ?_
        refine (catch_idleE _ _ _).mono ?_
        rintro e u' w'' ⟨rfl,rfl,rfl⟩
        simp [Leaves,settle,results,Tryz.results13,go_sem,a0,b0']
        exact EncPost.yes HR.out rfl ((HB5.out.setCell (by simp) _).setCell (by simp <;> omega) _)
      · have HR:=Lib.hid (HR4.out (by first | rfl | trivial) HN.out e1)
        have hb25:=HB3.out.trans e2
        have p1:=(hb25.block (w.heap.size+1) (by omega)).trans ((HB3.out.block _ (by omega)).symm.trans P1.out)
        have p2:=(hb25.block (w.heap.size+1+1) (by omega)).trans ((HB3.out.block _ (by omega)).symm.trans P2.out)
        have a0:w4.cell? ⟨w.heap.size+1,0,none⟩=some (.string ⟨#[]⟩):=(box_cellsJ p1 0 _ rfl).1
        have af0:=(box_cellsJ p1 0 _ rfl).2
        have b0':w4.cell? ⟨w.heap.size+1+1,0,none⟩=some (.int .i64 0):=(box_cellsJ p2 0 _ rfl).1
        have bf0:=(box_cellsJ p2 0 _ rfl).2
        have HBW:=Lib.hid (HBX.out.trans (hb25.mono HBX.out.size))
        clear hb25 p1 p2 e1 e2 KV2 y0 y1 y2 y3 y4 y5 y6 y7
        go_wp2
        refine leaves_cons (f:=30) (args:=#[.pointer (some ⟨w.heap.size+1,0,none⟩),.pointer (some ⟨w.heap.size+1+1,0,none⟩)]) (by simp) (by simp [go_sem]) ?_
        refine (catch_thrownE (w.heap.size+1) (w.heap.size+1+1) _ _ 4 [] _ (by omega) a0 af0 b0' bf0).mono ?_
        rintro e u' w'' ⟨rfl,rfl,rfl⟩
        simp [Leaves,settle,results,Tryz.results13,go_sem,a0,b0']
        exact EncPost.no HR.out rfl (((HBW.out.setCell (by simp) _).setCell (by simp <;> omega) _).drew)
    · have hb:=HB1.out.trans (hb2.mono HB1.out.size)
      have HR:=Lib.hid (HR6.out (by first | rfl | trivial) hn)
      clear y0 y1 y2 y3 y4 y5 y6 y7 a0 af0 b0' bf0 HBW
      have p0:=(hb.block w.heap.size (by have:=HS0.out;omega)).trans Q0.out
      have p1:=(hb.block (w.heap.size+1) (by have:=HS0.out;omega)).trans Q1.out
      have p2:=(hb.block (w.heap.size+1+1) (by have:=HS0.out;omega)).trans Q2.out
      have y0:=(box_cellsJ p0 0 _ rfl).1
      have y1:=(box_cellsJ p0 1 _ rfl).1
      have y2:=(box_cellsJ p0 2 _ rfl).1
      have y3:=(box_cellsJ p0 3 _ rfl).1
      have y4:=(box_cellsJ p0 4 _ rfl).1
      have y5:=(box_cellsJ p0 5 _ rfl).1
      have y6:=(box_cellsJ p0 6 _ rfl).1
      have y7:=(box_cellsJ p0 7 _ rfl).1
      have a0:w2.cell? ⟨w.heap.size+1,0,none⟩=some (.string ⟨#[]⟩):=(box_cellsJ p1 0 _ rfl).1
      have af0:=(box_cellsJ p1 0 _ rfl).2
      have b0':w2.cell? ⟨w.heap.size+1+1,0,none⟩=some (.int .i64 0):=(box_cellsJ p2 0 _ rfl).1
      have bf0:=(box_cellsJ p2 0 _ rfl).2
      have HBW:=Lib.hid (HB0.out.trans (hb.mono HB0.out.size))
      clear p0 p1 p2 hb hb2 hn
      go_wp2
      refine leaves_cons (f:=30) (args:=#[.pointer (some ⟨w.heap.size+1,0,none⟩),.pointer (some ⟨w.heap.size+1+1,0,none⟩)]) (by simp) (by simp [go_sem]) ?_
      refine (catch_thrownE (w.heap.size+1) (w.heap.size+1+1) _ _ 6 [] _ (by omega) a0 af0 b0' bf0).mono ?_
      rintro e u' w'' ⟨rfl,rfl,rfl⟩
      simp [Leaves,settle,results,Tryz.results13,go_sem,a0,b0']
      exact EncPost.no HR.out rfl (((HBW.out.setCell (by simp) _).setCell (by simp <;> omega) _).drew)
end Go.Proofs.YtijaphbccnadbaaGreatDoor
namespace Go.Proofs.YtijaphbccnadbaaGreatDoor
open Go.RowKit
def pickC (l:List Cel) (S:List Nat):List Cel:=S.map fun p=>l.getD p zeroC
def pickK (l:List Cel) (S:List Nat) (k:Nat):List Cel:=pickC l (S.take k)++List.replicate (S.length - k) zeroC
theorem pickK_len (l:List Cel) (S:List Nat) {k:Nat} (h:k≤S.length):(pickK l S k).length=S.length:=by simp [pickK,pickC];omega
theorem pickK_zero (l:List Cel) (S:List Nat):pickK l S 0=List.replicate S.length zeroC:=by simp [pickK,pickC]
theorem pickK_all (l:List Cel) (S:List Nat):pickK l S S.length=pickC l S:=by simp [pickK]
theorem pickK_set (l:List Cel) (S:List Nat) {k:Nat} (h:k<S.length):(pickK l S k).set k (l.getD (S.getD k 0) zeroC)=pickK l S (k+1):=by
  unfold pickK pickC
  rw [List.set_append_right _ _ (by simp;omega),List.length_map,List.length_take,Nat.min_eq_left (by omega),Nat.sub_self,List.take_succ_eq_append_getElem h,List.map_append,List.append_assoc]
  congr 1
  obtain ⟨m,hm⟩:∃ m,S.length - k=m+1:=⟨S.length - k - 1,by omega⟩
  rw [hm,List.replicate_succ,List.set_cons_zero,show S.length - (k+1)=m by omega]
  simp [List.getD,h]
def PickPost (e:TypeId) (vs:List Value) (n:Nat) (w:World) (r:Ending) (w':World):Prop :=
  ∃ g,r=.returned (.slice (some ⟨g,0,none⟩) n n)∧w.heap.size≤g∧BlkV w' g e vs∧Below w.heap.size w w'
theorem pickT_any (ad:Option Addr) (n cap:Nat) (l:List Cel) (ad':Option Addr) (n' cap':Nat) (S:List Nat) (w:World) (hl:l.length=n) (hcap:n≤cap) (hm:n≤1000000) (hr:RdV w ad (flat l))
    (hS:S.length=n') (hcap':n'≤cap') (hm':n'≤1000000) (hr':RdV w ad' (S.map iv)) (hb:∀ p∈S,p<n) :
    Calls Tryz.prog 127 #[.slice ad n cap,.slice ad' n' cap'] w (PickPost 28 (flat (pickC l S)) n' w):=by
  have HL:=Lib.hid hl;have HR:=Lib.hid hr;have HS:=Lib.hid hS;have HR':=Lib.hid hr';have HB:=Lib.hid hb
  clear hl hr hS hr' hb
  go_enter Tryz.func127,Tryz.ntmps127
  go_wp2_with (at_make;refine wpl_make_trees _ rfl _ _ rfl _ _ _ _ n' rfl rfl rfl rfl (by omega) ?_)
  intro w1 hk1 hb1
  have HK:=Lib.hid hk1;have HBL:=Lib.hid hb1
  clear hk1 hb1
  go_wp2
  go_loopw [13] (fun i wr=>∃ k:Nat,k≤n'∧i=.int .i64 (k:Int)∧BlkV wr w.heap.size 28 (flat (pickK l S k))∧Below w.heap.size w wr) (fun i _=>n' - (intOf i).toNat)
  case atStart=>exact ⟨0,Nat.zero_le _,rfl,by rw [pickK_zero,HS.out];exact HK.out,HBL.out⟩
  case round =>
    obtain ⟨k,hk,rfl,hT,hbl⟩:=hrel
    have HT:=Lib.hid hT;have HBW:=Lib.hid hbl
    clear hT hbl
    by_cases hlt:k<n'
    · have h1:(k:Int)<(n':Int):=by omega
      have h2:(0:Int)≤(k:Int):=by omega
      obtain ⟨b',o',rfl,_,hc⟩:=(HR'.out.on HBW.out) k (by rw [List.length_map,HS.out];exact hlt)
      rw [iv_get _ _ (by rw [HS.out];exact hlt)] at hc
      have hp:=HB.out (S.getD k 0) (by simp [List.getD,HS.out,hlt])
      obtain ⟨b,o,rfl,_⟩:=(HR.out.on HBW.out).shape (by rw [flat_len,HL.out];omega)
      obtain ⟨c0,c1,c2,c3,c4,c5,c6,c7⟩:=flat_at (HR.out.on HBW.out) (S.getD k 0) (by rw [HL.out];exact hp) rfl
      obtain ⟨⟨z0,d0⟩,⟨z1,d1⟩,⟨z2,d2⟩,⟨z3,d3⟩,⟨z4,d4⟩,⟨z5,d5⟩,⟨z6,d6⟩,⟨z7,d7⟩⟩:=blk_olds HT.out (show k<(pickK l S k).length by rw [pickK_len _ _ (by rw [HS.out];exact hk),HS.out];exact hlt)
      have f0:=HT.out.free (k*8);have f1:=HT.out.free (k*8+1);have f2:=HT.out.free (k*8+2);have f3:=HT.out.free (k*8+3)
      have f4:=HT.out.free (k*8+4);have f5:=HT.out.free (k*8+5);have f6:=HT.out.free (k*8+6);have f7:=HT.out.free (k*8+7)
      have hnew:=put8_blk HT.out k (by rw [pickK_len _ _ (by rw [HS.out];exact hk),HS.out];exact hlt) (l.getD (S.getD k 0) zeroC)
      rw [pickK_set _ _ (by rw [HS.out];exact hlt)] at hnew
      have HNEW:=Lib.hid hnew;clear hnew
      have HB3:=Lib.hid (HBW.out.trans ((put8_but wr w.heap.size (k*8) (l.getD (S.getD k 0) zeroC)).below (Nat.le_refl _) HBW.out.size))
      unfold put8 at HNEW HB3
      generalize l.getD (S.getD k 0) zeroC=c at *
      generalize S.getD k 0=p at *
      have hp1:(p:Int)<(n:Int):=by omega
      have hp2:(0:Int)≤(p:Int):=by omega
      go_wp2_with fail
      go_roundw
      case rel=>exact ⟨k+1,by omega,by go_num,HNEW.out,HB3.out⟩
      case measure=>simp [intOf];omega
    · obtain rfl:k=n':=by omega
      have h1:¬ (k:Int)<(k:Int):=by omega
      have hT:=HT.out
      rw [← HS.out,pickK_all] at hT
      have HT2:=Lib.hid hT;clear hT
      go_wp2
      go_ret
      exact ⟨_,rfl,Nat.le_refl _,HT2.out,HBW.out⟩
end Go.Proofs.YtijaphbccnadbaaGreatDoor
namespace Go.Proofs.YtijaphbccnadbaaGreatDoor
section
variable {K : Type} [DecidableEq K]
theorem srt_next {lt:K→K→Bool} (h:Sto lt) (key:Nat→K) (n i:Nat) (hi:i+1<n) :
    lt (key ((srt lt key 0 n).getD (i+1) 0)) (key ((srt lt key 0 n).getD i 0))=false∧(key ((srt lt key 0 n).getD i 0)=key ((srt lt key 0 n).getD (i+1) 0)→(srt lt key 0 n).getD i 0<(srt lt key 0 n).getD (i+1) 0):=by
  have hs:=srt_sorted h key 0 n
  have hl:=srt_len lt key 0 n
  have hp:=srt_perm lt key 0 n
  have hnd:(srt lt key 0 n).Nodup:=hp.nodup_iff.2 List.nodup_range'
  generalize srt lt key 0 n=l at *
  have g:=List.pairwise_iff_getElem.1 hs i (i+1) (by omega) (by omega) (by omega)
  have gn:=List.pairwise_iff_getElem.1 hnd i (i+1) (by omega) (by omega) (by omega)
  simp only [List.getD,List.getElem?_eq_getElem (show i<l.length by omega),List.getElem?_eq_getElem (show i+1<l.length by omega),Option.getD_some]
  rw [leI_iff] at g
  rcases g with g | ⟨g,g'⟩
  · exact ⟨h.asym g,fun e=>by rw [e,h.irr] at g;cases g⟩
  · exact ⟨by rw [g];exact h.irr _,fun _=>by omega⟩
theorem srt_lt (lt:K→K→Bool) (key:Nat→K) (n i:Nat) (hi:i<n):(srt lt key 0 n).getD i 0<n:=by
  have hl:=srt_len lt key 0 n
  have:=@srt_mem K _ lt key 0 n ((srt lt key 0 n).getD i 0)
  have hm:(srt lt key 0 n).getD i 0∈srt lt key 0 n:=by
    simp only [List.getD,List.getElem?_eq_getElem (show i<(srt lt key 0 n).length by omega),Option.getD_some];exact List.getElem_mem _
  have:=this.1 hm;omega
theorem srt_has (lt:K→K→Bool) (key:Nat→K) (n x:Nat) (hx:x<n):∃ p,p<n∧(srt lt key 0 n).getD p 0=x:=by
  have hl:=srt_len lt key 0 n
  have hm:x∈srt lt key 0 n:=srt_mem.2 ⟨Nat.zero_le _,by omega⟩
  obtain ⟨p,hp,rfl⟩:=List.mem_iff_getElem.1 hm
  exact ⟨p,by omega,by simp [List.getD,hp]⟩
end
section
variable {K : Type}
def Low (key:Nat→K) (S:List Nat) (m lo:Nat) (f:Bool):Prop :=
  (f=false→lo=0∧∀ i,i+1<m→key (S.getD i 0) ≠ key (S.getD (i+1) 0)) ∧
  (f=true→(∃ i,i+1<m∧key (S.getD i 0)=key (S.getD (i+1) 0)∧lo=S.getD (i+1) 0)∧∀ i,i+1<m→key (S.getD i 0)=key (S.getD (i+1) 0)→lo≤S.getD (i+1) 0)
theorem Low.start (key:Nat→K) (S:List Nat):Low key S 1 0 false:=⟨fun _=>⟨rfl,fun i hi=>absurd hi (by omega)⟩,fun h=>by cases h⟩
theorem Low.keep {key:Nat→K} {S:List Nat} {m lo:Nat} {f:Bool} (h:Low key S (m+1) lo f) (hn:key (S.getD m 0) ≠ key (S.getD (m+1) 0)∨(f=true∧lo≤S.getD (m+1) 0)):Low key S (m+2) lo f:=by
  refine ⟨fun hf=>⟨(h.1 hf).1,fun i hi=>?_⟩,fun hf=>⟨?_,fun i hi he=>?_⟩⟩
  · by_cases e:i=m
    · subst e;rcases hn with hn | ⟨hn,_⟩
      · exact hn
      · rw [hn] at hf;cases hf
    · exact (h.1 hf).2 i (by omega)
  · obtain ⟨i,hi,h1,h2⟩:=(h.2 hf).1
    exact ⟨i,by omega,h1,h2⟩
  · by_cases e:i=m
    · subst e;rcases hn with hn | ⟨_,hn⟩
      · exact absurd he hn
      · exact hn
    · exact (h.2 hf).2 i (by omega) he
theorem Low.take {key:Nat→K} {S:List Nat} {m lo:Nat} {f:Bool} (h:Low key S (m+1) lo f) (he:key (S.getD m 0)=key (S.getD (m+1) 0)) (hl:f=false∨S.getD (m+1) 0<lo):Low key S (m+2) (S.getD (m+1) 0) true:=by
  refine ⟨(fun h=>by cases h),fun _=>⟨⟨m,by omega,he,rfl⟩,fun i hi hie=>?_⟩⟩
  by_cases e:i=m
  · subst e;exact Nat.le_refl _
  · rcases hl with hl | hl
    · exact absurd hie ((h.1 hl).2 i (by omega))
    · cases hf:f
      · exact absurd hie ((h.1 hf).2 i (by omega))
      · have:=(h.2 hf).2 i (by omega) hie;omega
def Twc (key:Nat→K) (n lo:Nat) (f:Bool):Prop :=
  (f=false→lo=0∧∀ j,j<n→∀ i,i<j→key i ≠ key j)∧(f=true→lo<n∧(∃ i,i<lo∧key i=key lo)∧∀ j,j<lo→∀ i,i<j→key i ≠ key j)
end
section
variable {K : Type} [DecidableEq K]
theorem twin_near {lt:K→K→Bool} (h:Sto lt) (key:Nat→K) {n i j:Nat} (hj:j<n) (hi:i<j) (e:key i=key j) :
    ∃ p,p+1<n∧(srt lt key 0 n).getD (p+1) 0=j∧key ((srt lt key 0 n).getD p 0)=key j:=by
  obtain ⟨p,hp,ep⟩:=srt_has lt key n j hj
  obtain ⟨q,hq,eq⟩:=srt_has lt key n i (by omega)
  have hs:=srt_sorted h key 0 n
  have hl:=srt_len lt key 0 n
  generalize srt lt key 0 n=l at *
  have gp:l[p]'(by omega)=j:=by rw [← ep];simp [List.getD,show p<l.length by omega]
  have gq:l[q]'(by omega)=i:=by rw [← eq];simp [List.getD,show q<l.length by omega]
  have hij:leI lt key i j=true:=by rw [leI_iff];exact .inr ⟨e,by omega⟩
  have hqp:q<p:=by
    rcases Nat.lt_trichotomy q p with h1 | h1 | h1
    · exact h1
    · subst h1;rw [ep] at eq;omega
    · have g:=List.pairwise_iff_getElem.1 hs p q (by omega) (by omega) h1
      rw [gp,gq] at g
      have:=leI_anti h key hij g;omega
  obtain ⟨r,rfl⟩:∃ r,p=r+1:=⟨p - 1,by omega⟩
  refine ⟨r,hp,ep,?_⟩
  have er:l.getD r 0=l[r]'(by omega):=by simp [List.getD,show r<l.length by omega]
  rw [er]
  have g1:=List.pairwise_iff_getElem.1 hs r (r+1) (by omega) (by omega) (by omega)
  rw [gp,leI_iff] at g1
  have g0:lt (key i) (key l[r])=true∨key i=key l[r]:=by
    rcases Nat.lt_or_ge q r with h1 | h1
    · have g:=List.pairwise_iff_getElem.1 hs q r (by omega) (by omega) h1
      rw [gq,leI_iff] at g
      exact g.imp id And.left
    · obtain rfl:q=r:=by omega
      exact .inr (by rw [gq])
  rcases g1 with g1 | ⟨g1,_⟩
  · rcases g0 with g0 | g0
    · have:=h.tr _ _ _ g0 g1;rw [e,h.irr] at this;cases this
    · rw [← g0,e]
  · exact g1
theorem Low.twc {lt:K→K→Bool} (h:Sto lt) {key:Nat→K} {n lo:Nat} {f:Bool} (hl:Low key (srt lt key 0 n) n lo f):Twc key n lo f:=by
  refine ⟨fun hf=>⟨(hl.1 hf).1,fun j hj i hi e=>?_⟩,fun hf=>?_⟩
  · obtain ⟨p,hp,e1,e2⟩:=twin_near h key hj hi e
    exact (hl.1 hf).2 p hp (by rw [e2,e1])
  · obtain ⟨⟨p,hp,e1,e2⟩,hmin⟩:=hl.2 hf
    have hn:=srt_next h key n p hp
    refine ⟨by rw [e2];exact srt_lt lt key n _ hp,⟨_,by rw [e2];exact hn.2 e1,by rw [e2];exact e1⟩,fun j hj i hi e=>?_⟩
    obtain ⟨q,hq,f1,f2⟩:=twin_near h key (show j<n by have:=srt_lt lt key n _ hp;omega) hi e
    have:=hmin q hq (by rw [f2,f1])
    rw [f1] at this;omega
end
end Go.Proofs.YtijaphbccnadbaaGreatDoor
namespace Go.Proofs.YtijaphbccnadbaaGreatDoor
open Go.RowKit
theorem less_any (a b:ByteArray) (w:World) :
    Calls Tryz.prog 166 #[.string a,.string b] w fun e w'=>e=.returned (.bool (Op.bytesLess a.toList b.toList))∧w=w':=by
  generalize hl:Op.bytesLess a.toList b.toList=r
  go_enter Tryz.func166,Tryz.ntmps166
  go_wp2
  go_ret
  exact ⟨rfl,rfl⟩
theorem cmp_less (i j n cap:Nat) (ad:Option Addr) (l:List ByteArray) (pa pl:Nat) (w:World) (hi:i<l.length) (hj:j<l.length) (hn:l.length=n) (hcap:n≤cap) (hm:n≤1000000000) (hr:RdV w ad (sv l))
    (ha:w.cell? ⟨pa,0,none⟩=some (.func (.func 166) #[] #[])) (hl:w.cell? ⟨pl,0,none⟩=some (.slice ad n cap)) :
    Calls Tryz.prog 195 #[.int .i64 (i:Int),.int .i64 (j:Int),.pointer (some ⟨pa,0,none⟩),.pointer (some ⟨pl,0,none⟩)] w fun e w'=>e=.returned (.bool (Op.bytesLess (l.getD i ByteArray.empty).toList (l.getD j ByteArray.empty).toList))∧∃ q,w'=w.drewN q:=by
  obtain ⟨b,o,rfl,_,ci⟩:=hr i (by rw [sv_len];exact hi)
  have cj:=hr.at j (by rw [sv_len];exact hj)
  rw [sv_get l i hi] at ci
  rw [sv_get l j hj] at cj
  have K:=Lib.hid (less_any (l.getD i ByteArray.empty) (l.getD j ByteArray.empty))
  clear hr
  have HN:=Lib.hid hn;clear hn
  generalize l.getD i ByteArray.empty=x at *
  generalize l.getD j ByteArray.empty=y at *
  have hi1:(0:Int)≤(i:Int):=by omega
  have hi2:(i:Int)<(n:Int):=by have:=HN.out;omega
  have hj1:(0:Int)≤(j:Int):=by omega
  have hj2:(j:Int)<(n:Int):=by have:=HN.out;omega
  go_enter Tryz.func195,Tryz.ntmps195
  go_wp2
  go_quiet ((go_at_call 166;exact Calls.quiet_of_same ((K.out _).mono fun _ _ h=>⟨h.1,h.2.symm⟩)))
  go_wp2
  go_ret
  exact ⟨rfl,_,rfl⟩
def CmpOk (lt:List UInt8→List UInt8→Bool) (key:Nat→List UInt8) (n pa pl B0:Nat) (w0:World):Prop :=
  ∀ W,Below B0 w0 W→∀ i j:Nat,i<n→j<n→Calls Tryz.prog 195 #[.int .i64 (i:Int),.int .i64 (j:Int),.pointer (some ⟨pa,0,none⟩),.pointer (some ⟨pl,0,none⟩)] W fun e w'=>e=.returned (.bool (lt (key i) (key j)))∧∃ q,w'=W.drewN q
def cmpF (pa pl:Nat):Value:=.func (.func 195) #[] #[.pointer (some ⟨pa,0,none⟩),.pointer (some ⟨pl,0,none⟩)]
end Go.Proofs.YtijaphbccnadbaaGreatDoor
