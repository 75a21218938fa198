/- Texts of the claim. -/
import Derived.Test.YtnacbakcalcgaaaGreatDoorIx
import Derived.Lib.SlBytesConst
set_option linter.unusedVariables false
set_option linter.unusedSimpArgs false
set_option maxHeartbeats 8000000
set_option maxRecDepth 100000
namespace Go.Proofs.YtnacbakcalcgaaaGreatDoor
open Go.RowKit Go.Lib Go.Sort
theorem check_subC {t:MT} (h:checkB t=true):∀ s,t.sub s→soundB s=true:=by
  intro s hs
  unfold checkB at h
  rw [Bool.and_eq_true,List.all_eq_true] at h
  obtain ⟨n,hn⟩:=hs
  obtain ⟨m,hm⟩:=MT.mem_pre_shift t 0 1 s ⟨n,hn⟩
  have:=h.2 _ hm
  rw [Bool.and_eq_true] at this
  exact this.2
def EnP (r:List Nat ⊕ Int) (w:World) (e:Ending) (w':World):Prop :=
  match r with
  | .inl l=>∃ v,e=.returned (.tuple #[v,.int .i64 0])∧w'.ownsRow w.heap.size 5 1 v l.length (bc l)∧Below w.heap.size w w'
  | .inr x=>e=.returned (.tuple #[.slice none 0 0,.int .i64 x])∧Below w.heap.size w w'
theorem EnP.no {r:List Nat ⊕ Int} {w w':World} {e:Ending} {x:Int} (h:r=.inr x) (he:e=.returned (.tuple #[.slice none 0 0,.int .i64 x])) (hb:Below w.heap.size w w'):EnP r w e w':=by
  subst h;exact ⟨he,hb⟩
theorem EnP.yes {r:List Nat ⊕ Int} {w w':World} {e:Ending} {l:List Nat} {v:Value} (h:r=.inl l) (he:e=.returned (.tuple #[v,.int .i64 0])) (ho:w'.ownsRow w.heap.size 5 1 v l.length (bc l)) (hb:Below w.heap.size w w'):EnP r w e w':=by
  subst h;exact ⟨v,he,ho,hb⟩
theorem own_set {w:World} {B:Nat} {e:TypeId} {size:Nat} {v:Value} {n:Nat} {xs:List Value} (h:w.ownsRow B e size v n xs) {a:Addr} (ha:a.block<B) (u:Value):(w.setCell a u).ownsRow B e size v n xs :=
  own_keep h (fun k hk=>by have:=(own_bd h hk).1;simp [World.setCell,Array.getElem?_modify,show a.block ≠ k by omega])
theorem catch_thrownPW (g h : Nat) (v0 u : Value) (x : Int) (older : List PanicEntry) (w : World) (n1 : g ≠ h) (hv0 : ∃ a b c, v0 = .slice a b c)
    (c0 : w.cell? ⟨g, 0, none⟩ = some v0) (f0 : w.frozen? ⟨g, 0, none⟩ = false)
    (ch : w.cell? ⟨h, 0, none⟩ = some u) (fh : w.frozen? ⟨h, 0, none⟩ = false) :
    CallsD Tryz.prog 54 #[.pointer (some ⟨g, 0, none⟩), .pointer (some ⟨h, 0, none⟩)] (.panicking ({ v := .iface 32 (.int .i64 x), recovered := false } :: older)) w fun e u' w' =>
      e = .returned (.tuple #[]) ∧ u' = .panicking ({ v := .iface 32 (.int .i64 x), recovered := true } :: older) ∧
        w' = ((w.setCell ⟨g, 0, none⟩ (.slice none 0 0)).setCell ⟨h, 0, none⟩ (.int .i64 x)).drew := by
  obtain ⟨va, vb, vc, rfl⟩ := hv0
  refine callsD_of_wpS Tryz.func54 rfl fun c₀ cs hu => ?_
  apply wpS_seq
  apply wpS_region
  simp [wpOpsS, go_sem, recoverD, hu, Tryz.ntmps54, Exit.thenS]
  apply wpS_seq
  apply wpS_region
  simp [wpOpsS, go_sem, Exit.thenS]
  refine wpS_cond (t := true) (by simp [Act.eval, Array.replicate]) ?_
  simp only [if_true]
  refine wpS_of_wp ?_
  change Code.wp _ _ _ { tmps := #[.pointer (some ⟨g, 0, none⟩), .pointer (some ⟨h, 0, none⟩), .iface 32 (.int .i64 x), .iface 32 (.int .i64 x), .iface 32 (.int .i64 x), .bool true, undef, undef], defers := [] } w
  have hne1 : ¬ h = g := fun hh => n1 hh.symm
  have hta := assert_errnoC x
  go_region
  exact ⟨rfl, _, rfl, .tuple #[], by simp [results, Tryz.results54, go_sem], rfl, rfl, rfl⟩
theorem catch_idlePW (p q:Addr) (w:World) :
    CallsD Tryz.prog 54 #[.pointer (some p),.pointer (some q)] .returning w fun e u' w'=>e=.returned (.tuple #[])∧u'=.returning∧w'=w:=by
  refine callsD_of_wpS Tryz.func54 rfl fun c₀ cs hu=>?_
  apply wpS_seq
  apply wpS_region
  simp [wpOpsS,go_sem,recoverD,hu,Tryz.ntmps54,Exit.thenS]
  apply wpS_seq
  apply wpS_region
  simp [wpOpsS,go_sem,Exit.thenS]
  refine wpS_cond (t:=false) (by simp [Act.eval,Array.replicate]) ?_
  simp only [Bool.false_eq_true,if_false]
  refine wpS_of_wp (wp_skip ?_)
  cases c₀
  simp_all [bodyPostS,results,Tryz.results54]
def encoP (t:MT):List Nat ⊕ Int:=if checkB t=false then .inr 1 else match encP t with
  | none=>.inr 6
  | some p=>if p.length≤32768 then .inl p else .inr 4
theorem encoP_arg {t:MT} (h:checkB t=false):encoP t=.inr 1:=by unfold encoP;rw [if_pos h]
theorem encoP_none {t:MT} (h:checkB t=true) (h2:encP t=none):encoP t=.inr 6:=by unfold encoP;rw [if_neg (by rw [h];decide),h2]
theorem encoP_ok {t:MT} {p:List Nat} (h:checkB t=true) (h2:encP t=some p) (h3:p.length≤32768):encoP t=.inl p:=by unfold encoP;rw [if_neg (by rw [h];decide),h2];simp only;rw [if_pos h3]
theorem encoP_long {t:MT} {p:List Nat} (h:checkB t=true) (h2:encP t=some p) (h3:¬ p.length≤32768):encoP t=.inr 4:=by unfold encoP;rw [if_neg (by rw [h];decide),h2];simp only;rw [if_neg h3]
theorem encode_pk (t:MT) (w:World) (hR:Rep w t) (hU:UT w) (hT:DB w):Calls Tryz.prog 26 #[t.c.val] w (EnP (encoP t) w):=by
  have hmf:∀ (fn:Fn) (first cap:Array Value) (w:World),(Instr.makeFunc fn first cap).run Tryz.prog w=.ok (.func fn first cap) w:=fun _ _ _ _=>rfl
  obtain ⟨W,hW⟩:∃ W,W=((w.alloc (.cells t.c.cells.toArray 29)).alloc (.cells #[.slice none 0 0] 22)).alloc (.cells #[.int .i64 0] 32):=⟨_,rfl⟩
  have hb0:Below w.heap.size w W:=by
    rw [hW];exact (((Below.refl _ _).alloc (Nat.le_refl _) _).alloc (by simp) _).alloc (by simp;omega) _
  have hs0:W.heap.size=w.heap.size+1+1+1:=by rw [hW];simp
  have q0:W.heap[w.heap.size]? = some (.cells t.c.cells.toArray 29):=by
    rw [hW];exact (Below.heap_alloc _ _ _ (by simp;omega)).trans ((Below.heap_alloc _ _ _ (by simp)).trans (heap_alloc_new w _))
  have q1:W.heap[w.heap.size+1]? = some (.cells #[.slice none 0 0] 22):=by
    rw [hW]
    refine (Below.heap_alloc _ _ _ (by simp)).trans ?_
    have:=heap_alloc_new (w.alloc (.cells t.c.cells.toArray 29)) (.cells #[.slice none 0 0] 22);simpa using this
  have q2:W.heap[w.heap.size+1+1]? = some (.cells #[.int .i64 0] 32):=by
    rw [hW]
    have:=heap_alloc_new ((w.alloc (.cells t.c.cells.toArray 29)).alloc (.cells #[.slice none 0 0] 22)) (.cells #[.int .i64 0] 32);simpa using this
  have KC:=Lib.hid (checkT_any t W (hR.on hb0) (hU.below hb0))
  have KV:=Lib.hid (fun W' (h:Below W.heap.size W W') (hc:checkB t=true) =>
    valp_any W'.heap.size W'.heap.size W' (Nat.le_refl _) rfl ((hT.below hb0).below h) t ((hR.on hb0).on h) (check_subC hc))
  have HR1:=Lib.hid (fun (h:checkB t=false)=>encoP_arg h)
  have HR6:=Lib.hid (fun (h:checkB t=true) (h2:encP t=none)=>encoP_none h h2)
  have HR4:=Lib.hid (fun p (h:checkB t=true) (h2:encP t=some p) (h3:¬ p.length≤32768)=>encoP_long h h2 h3)
  have HRY:=Lib.hid (fun p (h:checkB t=true) (h2:encP t=some p) (h3:p.length≤32768)=>encoP_ok h h2 h3)
  unfold WrVP at KV
  have HB0:=Lib.hid hb0;have HS0:=Lib.hid hs0;have Q0:=Lib.hid q0;have Q1:=Lib.hid q1;have Q2:=Lib.hid q2
  clear hR hU hT hb0 hs0 q0 q1 q2
  generalize checkB t=ck at *
  generalize encoP t=RR at *
  generalize encP t=oj at *
  generalize t.c=c at *
  obtain ⟨k,b0,neg,ma,mn,mc,e,s,ka,kn,kc,va,vn,vc⟩:=c
  unfold Cel.cells at hW Q0
  simp only at hW Q0
  unfold Cel.val at *
  have HW:=Lib.hid hW.symm
  clear hW
  have hb:Below W.heap.size W W:=Below.refl _ _
  have p0:=(hb.block w.heap.size (by have:=HS0.out;omega)).trans Q0.out
  have p1:=(hb.block (w.heap.size+1) (by have:=HS0.out;omega)).trans Q1.out
  have p2:=(hb.block (w.heap.size+1+1) (by have:=HS0.out;omega)).trans Q2.out
  have y0:=(boxC p0 0 _ rfl).1
  have y1:=(boxC p0 1 _ rfl).1
  have y2:=(boxC p0 2 _ rfl).1
  have y3:=(boxC p0 3 _ rfl).1
  have y4:=(boxC p0 4 _ rfl).1
  have y5:=(boxC p0 5 _ rfl).1
  have y6:=(boxC p0 6 _ rfl).1
  have y7:=(boxC p0 7 _ rfl).1
  have a0:W.cell? ⟨w.heap.size+1,0,none⟩=some (.slice none 0 0):=(boxC p1 0 _ rfl).1
  have af0:=(boxC p1 0 _ rfl).2
  have b0':W.cell? ⟨w.heap.size+1+1,0,none⟩=some (.int .i64 0):=(boxC p2 0 _ rfl).1
  have bf0:=(boxC p2 0 _ rfl).2
  clear p0 p1 p2 hb
  go_enter_defers Tryz.func26,Tryz.ntmps26
  go_wp2_with fail
  rw [HW.out]
  go_wp2_with fail
  refine KC.out.mono ?_
  rintro r w1 ⟨rfl,hb⟩
  clear y0 y1 y2 y3 y4 y5 y6 y7 a0 af0 b0' bf0
  have p0:=(hb.block w.heap.size (by have:=HS0.out;omega)).trans Q0.out
  have p1:=(hb.block (w.heap.size+1) (by have:=HS0.out;omega)).trans Q1.out
  have p2:=(hb.block (w.heap.size+1+1) (by have:=HS0.out;omega)).trans Q2.out
  have y0:=(boxC p0 0 _ rfl).1
  have y1:=(boxC p0 1 _ rfl).1
  have y2:=(boxC p0 2 _ rfl).1
  have y3:=(boxC p0 3 _ rfl).1
  have y4:=(boxC p0 4 _ rfl).1
  have y5:=(boxC p0 5 _ rfl).1
  have y6:=(boxC p0 6 _ rfl).1
  have y7:=(boxC p0 7 _ rfl).1
  have a0:w1.cell? ⟨w.heap.size+1,0,none⟩=some (.slice none 0 0):=(boxC p1 0 _ rfl).1
  have af0:=(boxC p1 0 _ rfl).2
  have b0':w1.cell? ⟨w.heap.size+1+1,0,none⟩=some (.int .i64 0):=(boxC p2 0 _ rfl).1
  have bf0:=(boxC p2 0 _ rfl).2
  have HB1:=Lib.hid hb
  have HBW:=Lib.hid (HB0.out.trans (hb.mono HB0.out.size))
  have hs2:w.heap.size+1+1<w1.heap.size:=(Array.getElem?_eq_some_iff.1 p2).1
  have P0:=Lib.hid p0;have P1:=Lib.hid p1;have P2:=Lib.hid p2
  clear p0 p1 p2 hb
  cases ck with
  | false =>
    have HR:=Lib.hid (HR1.out (by first | rfl | trivial))
    go_wp2
    refine leaves_cons (f:=54) (args:=#[.pointer (some ⟨w.heap.size+1,0,none⟩),.pointer (some ⟨w.heap.size+1+1,0,none⟩)]) (by simp) (by simp [go_sem]) ?_
    refine (catch_thrownPW (w.heap.size+1) (w.heap.size+1+1) _ _ 1 [] _ (by omega) ⟨_,_,_,rfl⟩ a0 af0 b0' bf0).mono ?_
    rintro e u' w'' ⟨rfl,rfl,rfl⟩
    simp [Leaves,settle,results,Tryz.results26,go_sem,a0,b0']
    exact EnP.no HR.out rfl (((HBW.out.setCell (by simp) _).setCell (by simp <;> omega) _).drew)
  | true =>
    obtain ⟨W3,hW3⟩:∃ x,w1.alloc (.cells #[.slice none 0 0,.bool false] 87)=x:=⟨_,rfl⟩
    have hb3:Below w1.heap.size w1 W3:=by rw [← hW3];exact (Below.refl _ _).alloc (Nat.le_refl _) _
    have q3:W3.heap[w1.heap.size]? = some (.cells #[.slice none 0 0,.bool false] 87):=by rw [← hW3];exact heap_alloc_new w1 _
    have KV2:=Lib.hid (KV.out w1 HB1.out (by first | rfl | trivial) [] W3 ⟨_,[],q3,by simp,fun _=>rfl,World.ownsRow_nil _ _ _ _⟩ hb3)
    have HW3:=Lib.hid hW3
    have HB3:=Lib.hid hb3
    clear a0 af0 b0' bf0
    have hlt2:w.heap.size<w1.heap.size:=by omega
    clear hb3 hW3 q3 KV
    go_wp2_with fail
    rw [HW3.out]
    go_wp2_with fail
    refine KV2.out.mono ?_
    intro r w4 hp4
    cases oj with
    | none =>
      obtain ⟨rfl,e2⟩:=hp4
      have HR:=Lib.hid (HR6.out (by first | rfl | trivial) rfl)
      have hb4:=HB3.out.trans e2
      have p1:=(hb4.block (w.heap.size+1) (by omega)).trans P1.out
      have p2:=(hb4.block (w.heap.size+1+1) (by omega)).trans P2.out
      have a0:w4.cell? ⟨w.heap.size+1,0,none⟩=some (.slice none 0 0):=(boxC p1 0 _ rfl).1
      have af0:=(boxC p1 0 _ rfl).2
      have b0':w4.cell? ⟨w.heap.size+1+1,0,none⟩=some (.int .i64 0):=(boxC p2 0 _ rfl).1
      have bf0:=(boxC p2 0 _ rfl).2
      have HB4:=Lib.hid (HBW.out.trans (hb4.mono HBW.out.size))
      clear hb4 p1 p2 e2 KV2 y0 y1 y2 y3 y4 y5 y6 y7
      go_wp2
      refine leaves_cons (f:=54) (args:=#[.pointer (some ⟨w.heap.size+1,0,none⟩),.pointer (some ⟨w.heap.size+1+1,0,none⟩)]) (by simp) (by simp [go_sem]) ?_
      refine (catch_thrownPW (w.heap.size+1) (w.heap.size+1+1) _ _ 6 [] _ (by omega) ⟨_,_,_,rfl⟩ a0 af0 b0' bf0).mono ?_
      rintro e u' w'' ⟨rfl,rfl,rfl⟩
      simp [Leaves,settle,results,Tryz.results26,go_sem,a0,b0']
      exact EnP.no HR.out rfl (((HB4.out.setCell (by simp) _).setCell (by simp <;> omega) _).drew)
    | some ej =>
      obtain ⟨rfl,e2,e3⟩:=hp4
      rw [List.nil_append] at e2
      have hb4:=HB3.out.trans e3.bel
      obtain ⟨v,z,hv,hz,hzl,ho⟩:=e2
      have p1:=(hb4.block (w.heap.size+1) (by omega)).trans P1.out
      have p2:=(hb4.block (w.heap.size+1+1) (by omega)).trans P2.out
      have a0:w4.cell? ⟨w.heap.size+1,0,none⟩=some (.slice none 0 0):=(boxC p1 0 _ rfl).1
      have af0:=(boxC p1 0 _ rfl).2
      have b0':w4.cell? ⟨w.heap.size+1+1,0,none⟩=some (.int .i64 0):=(boxC p2 0 _ rfl).1
      have bf0:=(boxC p2 0 _ rfl).2
      have HB4:=Lib.hid (HBW.out.trans (hb4.mono HBW.out.size))
      have n1:¬ w.heap.size+1+1=w.heap.size+1:=by omega
      by_cases hlen:ej.length≤32768
      · have HR:=Lib.hid (HRY.out ej (by first | rfl | trivial) rfl hlen)
        obtain rfl:z=ej:=hzl hlen
        have hd:decide (32768<z.length)=false:=decide_eq_false (by omega)
        rw [hd] at hv
        obtain ⟨vad,vcap,rfl,t1,t2,t3,t4,t5⟩:=own_viewN ho
        have HO:=Lib.hid ho
        have v0:w4.cell? ⟨w1.heap.size,0,none⟩=some (.slice vad z.length vcap):=(boxC hv 0 _ rfl).1
        have v1:w4.cell? ⟨w1.heap.size,1,none⟩=some (.bool false):=(boxC hv 1 _ rfl).1
        clear e3 KV2 y0 y1 y2 y3 y4 y5 y6 y7 hb4 p1 p2 ho hv t1 t2 t3 t4 t5 hz hzl hd
        go_wp2
        refine leaves_cons (f:=54) (args:=#[.pointer (some ⟨w.heap.size+1,0,none⟩),.pointer (some ⟨w.heap.size+1+1,0,none⟩)]) (by simp) (by simp [go_sem]) ?_
        refine (catch_idlePW _ _ _).mono ?_
        rintro e u' w'' ⟨rfl,rfl,rfl⟩
        simp [Leaves,settle,results,Tryz.results26,go_sem,a0,b0']
        exact EnP.yes HR.out rfl (own_monoB (own_set (own_set HO.out (by simp;omega) _) (by simp;omega) _) (by omega)) ((HB4.out.setCell (by simp) _).setCell (by simp <;> omega) _)
      · have HR:=Lib.hid (HR4.out ej (by first | rfl | trivial) rfl hlen)
        have hd:decide (32768<ej.length)=true:=decide_eq_true (by omega)
        rw [hd] at hv
        have v1:w4.cell? ⟨w1.heap.size,1,none⟩=some (.bool true):=(boxC hv 1 _ rfl).1
        clear e3 KV2 y0 y1 y2 y3 y4 y5 y6 y7 hb4 p1 p2 ho hv hz hzl hd
        go_wp2
        refine leaves_cons (f:=54) (args:=#[.pointer (some ⟨w.heap.size+1,0,none⟩),.pointer (some ⟨w.heap.size+1+1,0,none⟩)]) (by simp) (by simp [go_sem]) ?_
        refine (catch_thrownPW (w.heap.size+1) (w.heap.size+1+1) _ _ 4 [] _ (by omega) ⟨_,_,_,rfl⟩ a0 af0 b0' bf0).mono ?_
        rintro e u' w'' ⟨rfl,rfl,rfl⟩
        simp [Leaves,settle,results,Tryz.results26,go_sem,a0,b0']
        exact EnP.no HR.out rfl (((HB4.out.setCell (by simp) _).setCell (by simp <;> omega) _).drew)
abbrev HdM:=Nat × Nat
def pkHead (l:List Nat):(HdM × List Nat) ⊕ Int :=
  if (getM l 0).2.2.2=0 then .inl (((getM l 0).1,(getM l 0).2.1),l.drop (getM l 0).2.2.1) else .inr ((getM l 0).2.2.2:Int)
def pkBytes (k:Nat) (l:List Nat):(List Nat × List Nat) ⊕ Int :=
  if 2000<k then .inr 4 else if l.length<k then .inr 2 else .inl (l.take k,l.drop k)
def pkText (k:Nat) (l:List Nat):(List Nat × List Nat) ⊕ Int:=match pkBytes k l with
  | .inr x=>.inr x
  | .inl (p,r)=>if validB p then .inl (p,r) else .inr 2
def pkNum (neg:Bool) (N:Nat):MT:=match mkN neg N 0 with
  | some r=>bnumC r
  | none=>bnumC (false,0,0)
def pkSigned (n:Nat):MT:=if 9223372036854775808≤n then pkNum true (18446744073709551616 - n) else pkNum false n
def pkFloat (width:Int) (x:Nat):MT ⊕ Int:=match exactN width x with
  | none=>.inr 3
  | some r=>.inl (bnumC r)
def pkItems (V:List Nat→Nat→RC MT):Nat→List MT→List Nat→Nat→RC (List MT)
  | 0,us,l,n=>.inl (us,l,n)
  | f+1,us,l,n=>match V l n with
    | .inr x=>.inr x
    | .inl (t,r,n)=>pkItems V f (us++[t]) r n
def pkArr (V:List Nat→Nat→RC MT) (k:Nat) (l:List Nat) (n:Nat):RC MT :=
  if 300<k then .inr 4 else match pkItems V k [] l n with
    | .inr x=>.inr x
    | .inl (us,r,n)=>.inl (barrC us,r,n)
def pkName (l:List Nat):(List Nat × List Nat) ⊕ Int:=match pkHead l with
  | .inr x=>.inr x
  | .inl (h,r)=>if h.1 ≠ 7 then .inr 3 else pkText h.2 r
def pkMembers (V:List Nat→Nat→RC MT):Nat→List ByteArray→List MT→List Nat→Nat→RC (List ByteArray × List MT)
  | 0,ks,us,l,n=>.inl ((ks,us),l,n)
  | f+1,ks,us,l,n=>match pkName l with
    | .inr x=>.inr x
    | .inl (s,r)=>match V r n with
      | .inr x=>.inr x
      | .inl (t,r,n)=>pkMembers V f (ks++[strB s]) (us++[t]) r n
def pkObj (V:List Nat→Nat→RC MT) (k:Nat) (l:List Nat) (n:Nat):RC MT :=
  if 300<k then .inr 4 else match pkMembers V k [] [] l n with
    | .inr x=>.inr x
    | .inl ((ks,us),r,n)=>if ks.Nodup then .inl (bobjC ((sortC ks).map fun i=>ks.getD i ByteArray.empty) ((sortC ks).map fun i=>us.getD i (leafT 0 false ⟨#[]⟩)),r,n) else .inr 2
def pkBehind (V:List Nat→Nat→RC MT) (h:HdM) (l:List Nat) (n:Nat):RC MT :=
  if h.1=1 then .inl (leafT 1 false ⟨#[]⟩,l,n)
  else if h.1=2 then .inl (leafT 2 false ⟨#[]⟩,l,n)
  else if h.1=3 then .inl (leafT 2 true ⟨#[]⟩,l,n)
  else if h.1=4 then .inl (pkNum false h.2,l,n)
  else if h.1=5 then .inl (pkSigned h.2,l,n)
  else if h.1=12 then match pkFloat 32 h.2 with
    | .inr x=>.inr x
    | .inl t=>.inl (t,l,n)
  else if h.1=6 then match pkFloat 64 h.2 with
    | .inr x=>.inr x
    | .inl t=>.inl (t,l,n)
  else if h.1=7 then match pkText h.2 l with
    | .inr x=>.inr x
    | .inl (s,r)=>.inl (leafT 4 false (strB s),r,n)
  else if h.1=8 then match pkBytes h.2 l with
    | .inr x=>.inr x
    | .inl (s,r)=>.inl (leafT 5 false (strB s),r,n)
  else if h.1=9 then pkArr V h.2 l n
  else if h.1=10 then pkObj V h.2 l n
  else .inr 3
def pkValue:Nat→List Nat→Nat→RC MT
  | 0,_,_=>.inr 2
  | f+1,l,n=>match pkHead l with
    | .inr x=>.inr x
    | .inl (h,r)=>if n=2000∨f=0 then .inr 4 else pkBehind (pkValue f) h r (n+1)
def pkDecode (l:List Nat):MT ⊕ Int :=
  if 32768<l.length then .inr 4 else match pkValue 65 l 0 with
    | .inr x=>.inr x
    | .inl (t,r,_)=>if r=[] then .inl t else .inr 2
structure HmOk (l:List Nat) (h:HdM) (r:List Nat):Prop where
  k:h.1<13
  n:h.2<18446744073709551616
  lt:r.length<l.length
  b:Okb l→Okb r
theorem natB_256 {l:List Nat} (h:Okb l) (k:Nat) (hk:k≤8):natB (l.take k)<18446744073709551616:=by
  have h1:=natB_bd (l.take k) (okb_take h _)
  refine Nat.lt_of_lt_of_le h1 (Nat.le_trans (Nat.pow_le_pow_right (by decide) (show _≤8 from ?_)) (by decide))
  rw [List.length_take];omega
theorem kindM_13 (f:Nat):kindM f<13:=by
  unfold kindM
  split
  · decide
  split
  · decide
  split
  · decide
  split
  · decide
  split
  · decide
  · rename_i h1 h2 h3 h4 h5
    obtain ⟨j,hj,hj2⟩:=f32 f (by omega) (by omega)
    rw [hj,show 192+j - 192=j by omega]
    clear hj h1 h2 h3 h4 h5
    revert j;decide
theorem shortM_lt (f:Nat) (hf:f<256):shortM f<18446744073709551616:=by
  unfold shortM
  split
  · omega
  split
  · omega
  split
  · omega
  split
  · omega
  split
  · omega
  split
  · rename_i h
    obtain ⟨j,hj⟩:∃ j,f - 212=j:=⟨_,rfl⟩
    rw [hj]
    have:j≤4:=by omega
    exact Nat.lt_of_le_of_lt (Nat.pow_le_pow_right (by decide) this) (by decide)
  · decide
theorem numM_lt {L:List Nat} (h:Okb L) (kd:Nat) (hl:L.length≤8):numM kd L<18446744073709551616:=by
  have hb:=natB_256 h 8 (Nat.le_refl _)
  rw [List.take_of_length_le hl] at hb
  have hb2:=natB_bd L h
  unfold numM
  split
  · omega
  · exact hb
theorem pkHead_ok {l:List Nat} {h:HdM} {r:List Nat} (hb:Okb l) (e:pkHead l=.inl (h,r)):HmOk l h r:=by
  unfold pkHead at e
  split at e
  · rename_i h0
    simp only [Sum.inl.injEq,Prod.mk.injEq] at e
    obtain ⟨rfl,rfl⟩:=e
    cases l with
    | nil=>simp [getM] at h0
    | cons c l =>
      have hc:c<256:=hb c (List.mem_cons_self ..)
      have hg:=getM_in (c::l) 0 c (by simp) rfl
      rw [Int.natCast_zero] at hg
      split at hg
      · rw [hg] at h0;simp at h0
      · split at hg
        · rw [hg] at h0;simp at h0
        · rename_i h1 h2
          simp only [List.length_cons] at h2
          rw [hg]
          refine ⟨kindM_13 c,?_,by simp;omega,fun h=>okb_drop h _⟩
          simp only
          split
          · exact shortM_lt c hc
          · exact numM_lt (okb_take (okb_drop hb _) _) _ (by rw [List.length_take];have:=sizeB_le c;omega)
  · cases e
theorem getM_errs (l:List Nat):(getM l 0).2.2.2=0∨(getM l 0).2.2.2=2∨(getM l 0).2.2.2=3:=by
  cases l with
  | nil=>exact .inr (.inl rfl)
  | cons c l =>
    have hg:=getM_in (c::l) 0 c (by simp) rfl
    rw [Int.natCast_zero] at hg
    split at hg
    · rw [hg];exact .inr (.inr rfl)
    · split at hg
      · rw [hg];exact .inr (.inl rfl)
      · rw [hg];exact .inl rfl
theorem getM_next (l:List Nat) (h:(getM l 0).2.2.2=0):1≤(getM l 0).2.2.1∧(getM l 0).2.2.1≤l.length:=by
  cases l with
  | nil=>simp [getM] at h
  | cons c l =>
    have hg:=getM_in (c::l) 0 c (by simp) rfl
    rw [Int.natCast_zero] at hg
    split at hg
    · rw [hg] at h;simp at h
    · split at hg
      · rw [hg] at h;simp at h
      · rename_i h1 h2
        rw [hg]
        simp only
        omega
def awN:MT:=numT false none 1 0 (-1) [15]
def awT10:MT:=bobjC [⟨#[97]⟩] [awN]
theorem awC_sort:sortC [⟨#[97]⟩]=[0]:=by
  unfold sortC srt
  show (List.range' 0 1).mergeSort _=[0]
  simp
theorem awC_check:checkB awT10=true:=by kernel_rfl
theorem soundB_bareC (t:MT):soundB t.bare=soundB t:=by
  rw [MT.bare_eq]
  obtain ⟨⟨k,b,neg,ma,mn,mc,e,s,ka,kn,kc,va,vn,vc⟩,m,ks,vs⟩:=t
  rfl
theorem pre_bareC (t:MT):∀ d,t.bare.pre d=(t.pre d).map fun x=>(x.1,x.2.bare):=by
  refine MT.ind (P:=fun t=>∀ d,t.bare.pre d=(t.pre d).map fun x=>(x.1,x.2.bare)) ?_ t
  intro t ih d
  rw [MT.bare_eq,MT.pre_eq,MT.pre_eq,List.map_cons,MT.bare_eq]
  congr 1
  have key:∀ l:List MT,(∀ u∈l,∀ d,u.bare.pre d=(u.pre d).map fun x=>(x.1,x.2.bare))→MT.preL (l.map MT.bare) (d+1)=(MT.preL l (d+1)).map fun x=>(x.1,x.2.bare):=by
    intro l
    induction l with
    | nil=>intro _;rw [List.map_nil,MT.preL_nil];rfl
    | cons u l ih2 =>
      intro h
      rw [List.map_cons,MT.preL_cons,MT.preL_cons,List.map_append,h u (by simp),ih2 (fun x hx=>h x (by simp [hx]))]
  exact key t.v ih
theorem nodes_bareC (t:MT):t.bare.nodes=t.nodes:=by
  rw [← t.bare.pre_len 0,← t.pre_len 0,pre_bareC,List.length_map]
theorem checkB_bareC (t:MT):checkB t.bare=checkB t:=by
  unfold checkB
  rw [nodes_bareC,pre_bareC,List.all_map]
  congr 1
  apply List.all_congr rfl
  intro x
  simp only [Function.comp,soundB_bareC]
theorem awC_cells {t:MT} {w:World} (h:t.bare=awT10) (hR:Rep w t):t.c.vn=1∧∃ b o,t.c.va=some ⟨b,o,none⟩∧w.cell? ⟨b,o+4,none⟩=some (.int .i64 (-1)):=by
  have own:=hR.own
  rw [MT.bare_eq] at h
  unfold awT10 bobjC objT at h
  injection h with h1 h2 h3 h4
  have hvn:t.c.vn=1:=by have:=congrArg Cel.vn h1;exact this
  obtain ⟨u,hu⟩:∃ u,t.v=[u]:=by
    match hv:t.v with
    | []=>rw [hv] at h4;cases h4
    | [u]=>exact ⟨u,rfl⟩
    | _::_::_=>rw [hv] at h4;simp at h4
  rw [hu,List.map_cons,List.map_nil] at h4
  have hub:u.bare=awN:=by injection h4
  have hr:=own.vr
  rw [hu,List.map_cons,List.map_nil] at hr
  obtain ⟨b,o,hva,hl⟩:=hr.shape (by rw [flat_len];simp)
  refine ⟨hvn,b,o,hva,?_⟩
  rw [hva] at hr
  have hxx:=flat_at hr 0 (by simp) (c:=u.c) rfl
  obtain ⟨_,_,_,_,x4,_⟩:=hxx
  rw [MT.bare_eq] at hub
  have he:u.c.e = -1:=by unfold awN numT at hub;injection hub with g1;have:=congrArg Cel.e g1;exact this
  rw [he] at x4
  simpa using x4
theorem rd_mark (w:World) (e:TypeId) (vs:List Value) (fz:Nat × Nat):RdV (w.alloc (.cells vs.toArray e fz)) (some ⟨w.heap.size,0,none⟩) vs:=by
  intro i hi
  refine ⟨w.heap.size,0,rfl,by simp,?_⟩
  rw [Nat.zero_add]
  show World.cell? _ _=_
  have:(w.alloc (.cells vs.toArray e fz)).heap[w.heap.size]? = some (.cells vs.toArray e fz):=heap_alloc_new w _
  simp only [World.cell?,this]
  simp

theorem strN_okb (s:ByteArray):Okb (strN s):=by
  intro x hx
  unfold strN at hx
  obtain ⟨b,_,rfl⟩:=List.mem_map.1 hx
  exact b.toNat_lt
theorem strB_strN (s:ByteArray):strB (strN s)=s:=by
  unfold strB strN
  rw [List.map_map]
  apply ByteArray.ext
  simp only [Function.comp_def]
  simp
theorem mkN_canon {ng:Bool} {xs:List Nat} {E:Int} (ho:Okl xs) (h:chkB ng xs E=true) (k:Nat):mkN ng (val xs*tenN k) (E - (k:Int))=some (ng,val xs,E):=by
  have hx:=chkB_limbs ho h
  by_cases h0:xs=[]
  · subst h0
    obtain ⟨rfl,rfl⟩:=chkB_zero h
    unfold mkN
    rw [if_pos (by simp [val])]
    rfl
  · obtain ⟨h1,_,h2,h3,h4⟩:=chkB_some h0 h
    have hne:val xs ≠ 0:=by intro e;rw [e] at h4;exact h4 rfl
    have hn0:val xs*tenN k ≠ 0:=Nat.mul_ne_zero hne (tenN_ne _)
    obtain ⟨e1,e2⟩:=trim_unique (N:=val xs*tenN k) rfl h4
    unfold mkN
    rw [if_neg hn0,e1,e2,hx,if_pos ⟨h1,by omega,by omega⟩]
    congr 3
    omega
theorem neg_ne {ng:Bool} {xs:List Nat} {E:Int} (ho:Okl xs) (h:chkB ng xs E=true) (hn:ng=true):val xs ≠ 0:=by
  intro h0
  have hx:=chkB_limbs ho h
  rw [h0,limbs_zero] at hx
  rw [← hx] at h
  have:=(chkB_zero h).1
  rw [hn] at this
  cases this
theorem parts_modC (e f x:Nat):fEx e f x=x % 2 ^ (e+f) / 2 ^ f∧fFr f x=x % 2 ^ (e+f) % 2 ^ f:=by
  unfold fEx fFr
  rw [Nat.add_comm e f,Nat.pow_add]
  exact ⟨(Nat.mod_mul_right_div_self ..).symm,(Nat.mod_mul_right_mod ..).symm⟩
theorem likeC {e f x y:Nat} (h:x % 2 ^ (e+f)=y % 2 ^ (e+f)):fEx e f x=fEx e f y∧fFr f x=fFr f y :=
  ⟨by rw [(parts_modC e f x).1,(parts_modC e f y).1,h],by rw [(parts_modC e f x).2,(parts_modC e f y).2,h]⟩
theorem to_backC {width:Int} {e f M d:Nat} {E:Int} {ng:Bool} (hl:layOf width=some (e,f)) (hM:M % 10 ≠ 0) (h:toF width ng M E=some d):d<2 ^ (e+f+1)∧kindF e f d=1∧fNeg e f d=ng∧exM e f d=M∧exE e f d=E:=by
  have hL:=layOf_lay hl
  unfold toF at h
  rw [hl] at h
  simp only at h
  rw [if_neg (by omega)] at h
  cases ht:toN e f M E with
  | none=>rw [ht] at h;cases h
  | some y =>
    rw [ht] at h
    simp only [Option.some.injEq] at h
    obtain ⟨h1,h2,h3,h4⟩:=ex_to hL hM ht
    have hp:0<2 ^ (e+f):=Nat.pow_pos (by decide)
    obtain ⟨a1,a2⟩:=likeC (e:=e) (f:=f) (x:=d) (y:=y) (by
      rw [← h]
      cases ng
      · simp
      · simp)
    have k1:kindF e f d=kindF e f y:=by unfold kindF;rw [a1,a2]
    have k2:sizeF e f d=sizeF e f y:=by unfold sizeF;rw [a1,a2]
    have k3:twosF e f d=twosF e f y:=by unfold twosF;rw [a1]
    have k4:exM e f d=exM e f y:=by unfold exM exN;rw [k2,k3]
    have k5:exE e f d=exE e f y:=by unfold exE exN;rw [k2,k3]
    refine ⟨?_,by rw [k1];exact h2,?_,by rw [k4];exact h3,by rw [k5];exact h4⟩
    · rw [← h,Nat.pow_succ];cases ng <;> simp <;> omega
    · unfold fNeg
      rw [← h]
      cases ng
      · simp [Nat.div_eq_of_lt h1]
      · simp [Nat.add_div_right _ hp,Nat.div_eq_of_lt h1]
theorem exactN_of {width:Int} {e f M d:Nat} {E:Int} {ng:Bool} (hl:layOf width=some (e,f)) (hM:M % 10 ≠ 0) (h:toF width ng M E=some d):exactN width d=some (ng,M,E)∧d<2 ^ (e+f+1):=by
  obtain ⟨h1,h2,h3,h4,h5⟩:=to_backC hl hM h
  have k:kindW width d=1:=by unfold kindW;rw [hl];simp only;rw [h2];rfl
  have a:exNegW width d=ng:=by unfold exNegW;rw [hl];simp only;rw [h2,h3];simp
  have b:exMW width d=M:=by unfold exMW;rw [hl];simp only;rw [h2,if_pos rfl,h4]
  have c:exEW width d=E:=by unfold exEW;rw [hl];simp only;rw [h2,if_pos rfl,h5]
  unfold exactN
  rw [if_pos (.inl k),a,b,c]
  exact ⟨rfl,h1⟩
theorem risC_ne {l:List ByteArray} (h:Ris l) {i j:Nat} (hi:i<l.length) (hj:j<l.length) (e:(l.getD i ByteArray.empty).toList=(l.getD j ByteArray.empty).toList):i=j:=by
  have key:∀ a b,a<b→b<l.length→(l.getD a ByteArray.empty).toList ≠ (l.getD b ByteArray.empty).toList:=by
    intro a b hab hb e
    have h1:=h a b hab hb
    unfold ltS at h1
    rw [e,bytesLess_irr] at h1
    cases h1
  rcases Nat.lt_trichotomy i j with h1 | h1 | h1
  · exact absurd e (key i j h1 hj)
  · exact h1
  · exact absurd e.symm (key j i h1 hi)
theorem sort_risC {ks:List ByteArray} (h:Ris ks):srt Op.bytesLess (fun i=>(ks.getD i ByteArray.empty).toList) 0 ks.length=List.range' 0 ks.length:=by
  refine (srt_unique sto_bytes _ _ _ _ (List.Perm.refl _) ?_).symm
  rw [List.pairwise_iff_getElem]
  intro i j hi hj hij
  rw [List.length_range'] at hi hj
  rw [List.getElem_range',List.getElem_range',leI_iff]
  left
  have:=h i j hij hj
  unfold ltS at this
  simpa using this
theorem range_getDC {α:Type} (l:List α) (d:α):(List.range' 0 l.length).map (fun i=>l.getD i d)=l:=by
  apply List.ext_getElem
  · simp
  · intro i h1 h2
    simp [List.getD,h2]
end Go.Proofs.YtnacbakcalcgaaaGreatDoor
