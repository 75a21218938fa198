/- Texts of the claim. -/
import Derived.Test.YtnacbakcalcgaaaGreatDoorEL
import Derived.Defers
import Derived.Recover
import Derived.Lib.SlBytesConst
set_option linter.unusedVariables false
set_option linter.unusedSimpArgs false
set_option maxHeartbeats 8000000
set_option maxRecDepth 100000
namespace Go.Proofs.YtnacbakcalcgaaaGreatDoor
open Go.RowKit Go.Lib Go.Sort
theorem catch_thrownX (g h : Nat) (v0 u : Value) (x : Int) (older : List PanicEntry) (w : World) (n1 : g ≠ h) (hv0 : ∃ a b c, v0 = .slice a b c)
    (c0 : w.cell? ⟨g, 0, none⟩ = some v0) (f0 : w.frozen? ⟨g, 0, none⟩ = false)
    (ch : w.cell? ⟨h, 0, none⟩ = some u) (fh : w.frozen? ⟨h, 0, none⟩ = false) :
    CallsD Tryz.prog 37 #[.pointer (some ⟨g, 0, none⟩), .pointer (some ⟨h, 0, none⟩)] (.panicking ({ v := .iface 32 (.int .i64 x), recovered := false } :: older)) w fun e u' w' =>
      e = .returned (.tuple #[]) ∧ u' = .panicking ({ v := .iface 32 (.int .i64 x), recovered := true } :: older) ∧
        w' = ((w.setCell ⟨g, 0, none⟩ (.slice none 0 0)).setCell ⟨h, 0, none⟩ (.int .i64 x)).drew := by
  obtain ⟨va, vb, vc, rfl⟩ := hv0
  refine callsD_of_wpS Tryz.func37 rfl fun c₀ cs hu => ?_
  apply wpS_seq
  apply wpS_region
  simp [wpOpsS, go_sem, recoverD, hu, Tryz.ntmps37, Exit.thenS]
  apply wpS_seq
  apply wpS_region
  simp [wpOpsS, go_sem, Exit.thenS]
  refine wpS_cond (t := true) (by simp [Act.eval, Array.replicate]) ?_
  simp only [if_true]
  refine wpS_of_wp ?_
  change Code.wp _ _ _ { tmps := #[.pointer (some ⟨g, 0, none⟩), .pointer (some ⟨h, 0, none⟩), .iface 32 (.int .i64 x), .iface 32 (.int .i64 x), .iface 32 (.int .i64 x), .bool true, undef, undef], defers := [] } w
  have hne1 : ¬ h = g := fun hh => n1 hh.symm
  have hta := assert_errnoC x
  go_region
  exact ⟨rfl, _, rfl, .tuple #[], by simp [results, Tryz.results37, go_sem], rfl, rfl, rfl⟩
theorem catch_idleX (p q:Addr) (w:World) :
    CallsD Tryz.prog 37 #[.pointer (some p),.pointer (some q)] .returning w fun e u' w'=>e=.returned (.tuple #[])∧u'=.returning∧w'=w:=by
  refine callsD_of_wpS Tryz.func37 rfl fun c₀ cs hu=>?_
  apply wpS_seq
  apply wpS_region
  simp [wpOpsS,go_sem,recoverD,hu,Tryz.ntmps37,Exit.thenS]
  apply wpS_seq
  apply wpS_region
  simp [wpOpsS,go_sem,Exit.thenS]
  refine wpS_cond (t:=false) (by simp [Act.eval,Array.replicate]) ?_
  simp only [Bool.false_eq_true,if_false]
  refine wpS_of_wp (wp_skip ?_)
  cases c₀
  simp_all [bodyPostS,results,Tryz.results37]
theorem check_subC {t:MT} (h:checkB t=true):∀ s,t.sub s→soundB s=true:=by
  intro s hs
  unfold checkB at h
  rw [Bool.and_eq_true,List.all_eq_true] at h
  obtain ⟨n,hn⟩:=hs
  obtain ⟨m,hm⟩:=MT.mem_pre_shift t 0 1 s ⟨n,hn⟩
  have:=h.2 _ hm
  rw [Bool.and_eq_true] at this
  exact this.2
def encoX (t:MT):List Nat ⊕ Int:=if checkB t=false then .inr 1 else if (encX t).length≤32768 then .inl (encX t) else .inr 4
def EnP (r:List Nat ⊕ Int) (w:World) (e:Ending) (w':World):Prop :=
  match r with
  | .inl l=>∃ v,e=.returned (.tuple #[v,.int .i64 0])∧w'.ownsRow w.heap.size 5 1 v l.length (bc l)∧Below w.heap.size w w'
  | .inr x=>e=.returned (.tuple #[.slice none 0 0,.int .i64 x])∧Below w.heap.size w w'
theorem EnP.no {r:List Nat ⊕ Int} {w w':World} {e:Ending} {x:Int} (h:r=.inr x) (he:e=.returned (.tuple #[.slice none 0 0,.int .i64 x])) (hb:Below w.heap.size w w'):EnP r w e w':=by
  subst h;exact ⟨he,hb⟩
theorem EnP.yes {r:List Nat ⊕ Int} {w w':World} {e:Ending} {l:List Nat} {v:Value} (h:r=.inl l) (he:e=.returned (.tuple #[v,.int .i64 0])) (ho:w'.ownsRow w.heap.size 5 1 v l.length (bc l)) (hb:Below w.heap.size w w'):EnP r w e w':=by
  subst h;exact ⟨v,he,ho,hb⟩
theorem own_set {w:World} {B:Nat} {e:TypeId} {size:Nat} {v:Value} {n:Nat} {xs:List Value} (h:w.ownsRow B e size v n xs) {a:Addr} (ha:a.block<B) (u:Value):(w.setCell a u).ownsRow B e size v n xs :=
  own_keep h (fun k hk=>by have:=(own_bd h hk).1;simp [World.setCell,Array.getElem?_modify,show a.block ≠ k by omega])
theorem encode_cb (t:MT) (w:World) (hR:Rep w t) (hU:UT w) (hT:DB w):Calls Tryz.prog 15 #[t.c.val] w (EnP (encoX t) w):=by
  have hmf:∀ (fn:Fn) (first cap:Array Value) (w:World),(Instr.makeFunc fn first cap).run Tryz.prog w=.ok (.func fn first cap) w:=fun _ _ _ _=>rfl
  obtain ⟨W,hW⟩:∃ W,W=((w.alloc (.cells t.c.cells.toArray 29)).alloc (.cells #[.slice none 0 0] 22)).alloc (.cells #[.int .i64 0] 32):=⟨_,rfl⟩
  have hb0:Below w.heap.size w W:=by
    rw [hW];exact (((Below.refl _ _).alloc (Nat.le_refl _) _).alloc (by simp) _).alloc (by simp;omega) _
  have hs0:W.heap.size=w.heap.size+1+1+1:=by rw [hW];simp
  have q0:W.heap[w.heap.size]? = some (.cells t.c.cells.toArray 29):=by
    rw [hW];exact (Below.heap_alloc _ _ _ (by simp;omega)).trans ((Below.heap_alloc _ _ _ (by simp)).trans (heap_alloc_new w _))
  have q1:W.heap[w.heap.size+1]? = some (.cells #[.slice none 0 0] 22):=by
    rw [hW]
    refine (Below.heap_alloc _ _ _ (by simp)).trans ?_
    have:=heap_alloc_new (w.alloc (.cells t.c.cells.toArray 29)) (.cells #[.slice none 0 0] 22);simpa using this
  have q2:W.heap[w.heap.size+1+1]? = some (.cells #[.int .i64 0] 32):=by
    rw [hW]
    have:=heap_alloc_new ((w.alloc (.cells t.c.cells.toArray 29)).alloc (.cells #[.slice none 0 0] 22)) (.cells #[.int .i64 0] 32);simpa using this
  have KC:=Lib.hid (checkT_any t W (hR.on hb0) (hU.below hb0))
  have KV:=Lib.hid (fun W' (h:Below W.heap.size W W') (hc:checkB t=true) =>
    valc_any W'.heap.size W'.heap.size W' (Nat.le_refl _) rfl ((hT.below hb0).below h) t ((hR.on hb0).on h) (check_subC hc))
  have HR1:=Lib.hid (fun (h:checkB t=false)=>(show encoX t=.inr 1 by unfold encoX;rw [if_pos h]))
  have HR4:=Lib.hid (fun (h:checkB t=true) (h3:32768<(encX t).length)=>(show encoX t=.inr 4 by unfold encoX;rw [if_neg (by rw [h];decide),if_neg (by omega)]))
  have HRY:=Lib.hid (fun (h:checkB t=true) (h3:(encX t).length≤32768)=>(show encoX t=.inl (encX t) by unfold encoX;rw [if_neg (by rw [h];decide),if_pos h3]))
  unfold WrV at KV
  have HB0:=Lib.hid hb0;have HS0:=Lib.hid hs0;have Q0:=Lib.hid q0;have Q1:=Lib.hid q1;have Q2:=Lib.hid q2
  clear hR hU hT hb0 hs0 q0 q1 q2
  generalize checkB t=ck at *
  generalize encoX t=RR at *
  generalize encX t=ej at *
  generalize t.c=c at *
  obtain ⟨k,b0,neg,ma,mn,mc,e,s,ka,kn,kc,va,vn,vc⟩:=c
  unfold Cel.cells at hW Q0
  simp only at hW Q0
  unfold Cel.val at *
  have HW:=Lib.hid hW.symm
  clear hW
  have hb:Below W.heap.size W W:=Below.refl _ _
  have p0:=(hb.block w.heap.size (by have:=HS0.out;omega)).trans Q0.out
  have p1:=(hb.block (w.heap.size+1) (by have:=HS0.out;omega)).trans Q1.out
  have p2:=(hb.block (w.heap.size+1+1) (by have:=HS0.out;omega)).trans Q2.out
  have y0:=(boxC p0 0 _ rfl).1
  have y1:=(boxC p0 1 _ rfl).1
  have y2:=(boxC p0 2 _ rfl).1
  have y3:=(boxC p0 3 _ rfl).1
  have y4:=(boxC p0 4 _ rfl).1
  have y5:=(boxC p0 5 _ rfl).1
  have y6:=(boxC p0 6 _ rfl).1
  have y7:=(boxC p0 7 _ rfl).1
  have a0:W.cell? ⟨w.heap.size+1,0,none⟩=some (.slice none 0 0):=(boxC p1 0 _ rfl).1
  have af0:=(boxC p1 0 _ rfl).2
  have b0':W.cell? ⟨w.heap.size+1+1,0,none⟩=some (.int .i64 0):=(boxC p2 0 _ rfl).1
  have bf0:=(boxC p2 0 _ rfl).2
  clear p0 p1 p2 hb
  go_enter_defers Tryz.func15,Tryz.ntmps15
  go_wp2_with fail
  rw [HW.out]
  go_wp2_with fail
  refine KC.out.mono ?_
  rintro r w1 ⟨rfl,hb⟩
  clear y0 y1 y2 y3 y4 y5 y6 y7 a0 af0 b0' bf0
  have p0:=(hb.block w.heap.size (by have:=HS0.out;omega)).trans Q0.out
  have p1:=(hb.block (w.heap.size+1) (by have:=HS0.out;omega)).trans Q1.out
  have p2:=(hb.block (w.heap.size+1+1) (by have:=HS0.out;omega)).trans Q2.out
  have y0:=(boxC p0 0 _ rfl).1
  have y1:=(boxC p0 1 _ rfl).1
  have y2:=(boxC p0 2 _ rfl).1
  have y3:=(boxC p0 3 _ rfl).1
  have y4:=(boxC p0 4 _ rfl).1
  have y5:=(boxC p0 5 _ rfl).1
  have y6:=(boxC p0 6 _ rfl).1
  have y7:=(boxC p0 7 _ rfl).1
  have a0:w1.cell? ⟨w.heap.size+1,0,none⟩=some (.slice none 0 0):=(boxC p1 0 _ rfl).1
  have af0:=(boxC p1 0 _ rfl).2
  have b0':w1.cell? ⟨w.heap.size+1+1,0,none⟩=some (.int .i64 0):=(boxC p2 0 _ rfl).1
  have bf0:=(boxC p2 0 _ rfl).2
  have HB1:=Lib.hid hb
  have HBW:=Lib.hid (HB0.out.trans (hb.mono HB0.out.size))
  have hs2:w.heap.size+1+1<w1.heap.size:=(Array.getElem?_eq_some_iff.1 p2).1
  have P0:=Lib.hid p0;have P1:=Lib.hid p1;have P2:=Lib.hid p2
  clear p0 p1 p2 hb
  cases ck with
  | false =>
    have HR:=Lib.hid (HR1.out (by first | rfl | trivial))
    go_wp2
    refine leaves_cons (f:=37) (args:=#[.pointer (some ⟨w.heap.size+1,0,none⟩),.pointer (some ⟨w.heap.size+1+1,0,none⟩)]) (by simp) (by simp [go_sem]) ?_
    refine (catch_thrownX (w.heap.size+1) (w.heap.size+1+1) _ _ 1 [] _ (by omega) ⟨_,_,_,rfl⟩ a0 af0 b0' bf0).mono ?_
    rintro e u' w'' ⟨rfl,rfl,rfl⟩
    simp [Leaves,settle,results,Tryz.results15,go_sem,a0,b0']
    exact EnP.no HR.out rfl (((HBW.out.setCell (by simp) _).setCell (by simp <;> omega) _).drew)
  | true =>
    obtain ⟨W3,hW3⟩:∃ x,w1.alloc (.cells #[.slice none 0 0] 64)=x:=⟨_,rfl⟩
    have hb3:Below w1.heap.size w1 W3:=by rw [← hW3];exact (Below.refl _ _).alloc (Nat.le_refl _) _
    have q3:W3.heap[w1.heap.size]? = some (.cells #[.slice none 0 0] 64):=by rw [← hW3];exact heap_alloc_new w1 _
    have KV2:=Lib.hid (KV.out w1 HB1.out (by first | rfl | trivial) [] W3 ⟨_,q3,World.ownsRow_nil _ _ _ _⟩ (by simp) hb3)
    have HW3:=Lib.hid hW3
    have HB3:=Lib.hid hb3
    clear a0 af0 b0' bf0
    have hlt2:w.heap.size<w1.heap.size:=by omega
    clear hb3 hW3 q3 KV
    go_wp2_with fail
    rw [HW3.out]
    refine KV2.out.mono ?_
    intro r w4 hp4
    unfold EncB at hp4
    simp only [List.length_nil,Nat.zero_add,List.nil_append] at hp4
    rcases hp4 with ⟨e1,rfl,e2,e3⟩ | ⟨e1,rfl,e2⟩
    · have HR:=Lib.hid (HRY.out (by first | rfl | trivial) e1)
      have hb4:=HB3.out.trans e3.bel
      obtain ⟨v,hv,ho⟩:=e2
      obtain ⟨vad,vcap,rfl,t1,t2,t3,t4,t5⟩:=own_viewN ho
      have HO:=Lib.hid ho
      have v0:w4.cell? ⟨w1.heap.size,0,none⟩=some (.slice vad ej.length vcap):=(boxC hv 0 _ rfl).1
      have p1:=(hb4.block (w.heap.size+1) (by omega)).trans P1.out
      have p2:=(hb4.block (w.heap.size+1+1) (by omega)).trans P2.out
      have a0:w4.cell? ⟨w.heap.size+1,0,none⟩=some (.slice none 0 0):=(boxC p1 0 _ rfl).1
      have af0:=(boxC p1 0 _ rfl).2
      have b0':w4.cell? ⟨w.heap.size+1+1,0,none⟩=some (.int .i64 0):=(boxC p2 0 _ rfl).1
      have bf0:=(boxC p2 0 _ rfl).2
      have HB4:=Lib.hid (HBW.out.trans (hb4.mono HBW.out.size))
      have n1:¬ w.heap.size+1+1=w.heap.size+1:=by omega
      clear e1 e3 KV2 y0 y1 y2 y3 y4 y5 y6 y7 hb4 p1 p2 ho hv t1 t2 t3 t4 t5
      go_wp2
      refine leaves_cons (f:=37) (args:=#[.pointer (some ⟨w.heap.size+1,0,none⟩),.pointer (some ⟨w.heap.size+1+1,0,none⟩)]) (by simp) (by simp [go_sem]) ?_
      refine (catch_idleX _ _ _).mono ?_
      rintro e u' w'' ⟨rfl,rfl,rfl⟩
      simp [Leaves,settle,results,Tryz.results15,go_sem,a0,b0']
      exact EnP.yes HR.out rfl (own_monoB (own_set (own_set HO.out (by simp;omega) _) (by simp;omega) _) (by omega)) ((HB4.out.setCell (by simp) _).setCell (by simp <;> omega) _)
    · have HR:=Lib.hid (HR4.out (by first | rfl | trivial) e1)
      have hb4:=HB3.out.trans e2
      have p1:=(hb4.block (w.heap.size+1) (by omega)).trans P1.out
      have p2:=(hb4.block (w.heap.size+1+1) (by omega)).trans P2.out
      have a0:w4.cell? ⟨w.heap.size+1,0,none⟩=some (.slice none 0 0):=(boxC p1 0 _ rfl).1
      have af0:=(boxC p1 0 _ rfl).2
      have b0':w4.cell? ⟨w.heap.size+1+1,0,none⟩=some (.int .i64 0):=(boxC p2 0 _ rfl).1
      have bf0:=(boxC p2 0 _ rfl).2
      have HB4:=Lib.hid (HBW.out.trans (hb4.mono HBW.out.size))
      clear hb4 p1 p2 e1 e2 KV2 y0 y1 y2 y3 y4 y5 y6 y7
      go_wp2
      refine leaves_cons (f:=37) (args:=#[.pointer (some ⟨w.heap.size+1,0,none⟩),.pointer (some ⟨w.heap.size+1+1,0,none⟩)]) (by simp) (by simp [go_sem]) ?_
      refine (catch_thrownX (w.heap.size+1) (w.heap.size+1+1) _ _ 4 [] _ (by omega) ⟨_,_,_,rfl⟩ a0 af0 b0' bf0).mono ?_
      rintro e u' w'' ⟨rfl,rfl,rfl⟩
      simp [Leaves,settle,results,Tryz.results15,go_sem,a0,b0']
      exact EnP.no HR.out rfl (((HB4.out.setCell (by simp) _).setCell (by simp <;> omega) _).drew)
def awC:List Nat:=[161,97,97,249,62,0]
def awN:MT:=numT false none 1 0 (-1) [15]
def awT10:MT:=bobjC [⟨#[97]⟩] [awN]
theorem awC_mem:cbMembers (cbValue 64) false 1 302 [] [] [97,97,249,62,0] 1=.inl (([⟨#[97]⟩],[awN]),[],2):=by kernel_rfl
theorem awC_sort:sortC [⟨#[97]⟩]=[0]:=by
  unfold sortC srt
  show (List.range' 0 1).mergeSort _=[0]
  simp
theorem awC_val:cbValue 65 awC 0=.inl (awT10,[],2):=by
  unfold awC
  rw [cbV_on (h0:=(5,1,1)) (r2:=[97,97,249,62,0]) (by decide) (by decide) (by kernel_rfl)]
  unfold cbBehind
  rw [if_neg (by decide),if_neg (by decide),if_neg (by decide),if_pos (by decide)]
  have h:=awC_mem
  unfold cbObj
  rw [if_neg (by decide)]
  rw [show (decide (((5,1,1):HdC).2.1=31))=false from rfl,show ((5,1,1):HdC).2.2=1 from rfl,h]
  simp only
  rw [if_pos (by simp),awC_sort]
  rfl
theorem awC_dec:cbDecode awC=.inl awT10:=by
  unfold cbDecode
  rw [if_neg (by decide),awC_val]
  rfl
theorem awC_enc:encX awT10=awC:=by
  have h1:encX awN=[249,62,0]:=by kernel_rfl
  have h2:ordC [⟨#[97]⟩]=[0]:=by
    unfold ordC srt
    show (List.range' 0 1).mergeSort _=[0]
    simp
  rw [encX_eq]
  show objE [⟨#[97]⟩] ([awN].map encX)=awC
  rw [List.map_cons,List.map_nil,h1]
  unfold objE
  rw [h2]
  decide
theorem awC_check:checkB awT10=true:=by kernel_rfl
theorem soundB_bareC (t:MT):soundB t.bare=soundB t:=by
  rw [MT.bare_eq]
  obtain ⟨⟨k,b,neg,ma,mn,mc,e,s,ka,kn,kc,va,vn,vc⟩,m,ks,vs⟩:=t
  rfl
theorem encX_bare (t:MT):encX t.bare=encX t:=by
  refine MT.ind (P:=fun t=>encX t.bare=encX t) ?_ t
  intro t ih
  rw [encX_eq t.bare,encX_eq t,MT.bare_eq]
  obtain ⟨c,m,ks,vs⟩:=t
  simp only [MT.c,MT.m,MT.k,MT.v,Cel.bare] at ih ⊢
  have e:(vs.map MT.bare).map encX=vs.map encX:=by
    rw [List.map_map]
    exact List.map_congr_left ih
  rw [e,List.length_map]
  rfl
theorem pre_bareC (t:MT):∀ d,t.bare.pre d=(t.pre d).map fun x=>(x.1,x.2.bare):=by
  refine MT.ind (P:=fun t=>∀ d,t.bare.pre d=(t.pre d).map fun x=>(x.1,x.2.bare)) ?_ t
  intro t ih d
  rw [MT.bare_eq,MT.pre_eq,MT.pre_eq,List.map_cons,MT.bare_eq]
  congr 1
  have key:∀ l:List MT,(∀ u∈l,∀ d,u.bare.pre d=(u.pre d).map fun x=>(x.1,x.2.bare))→MT.preL (l.map MT.bare) (d+1)=(MT.preL l (d+1)).map fun x=>(x.1,x.2.bare):=by
    intro l
    induction l with
    | nil=>intro _;rw [List.map_nil,MT.preL_nil];rfl
    | cons u l ih2 =>
      intro h
      rw [List.map_cons,MT.preL_cons,MT.preL_cons,List.map_append,h u (by simp),ih2 (fun x hx=>h x (by simp [hx]))]
  exact key t.v ih
theorem nodes_bareC (t:MT):t.bare.nodes=t.nodes:=by
  rw [← t.bare.pre_len 0,← t.pre_len 0,pre_bareC,List.length_map]
theorem checkB_bareC (t:MT):checkB t.bare=checkB t:=by
  unfold checkB
  rw [nodes_bareC,pre_bareC,List.all_map]
  congr 1
  apply List.all_congr rfl
  intro x
  simp only [Function.comp,soundB_bareC]
theorem encoX_of {t u:MT} (h:t.bare=u):encoX t=encoX u:=by
  have h1:checkB t=checkB u:=by rw [← checkB_bareC t,h]
  have h2:encX t=encX u:=by rw [← encX_bare t,h]
  unfold encoX
  rw [h1,h2]
theorem encoX_yes {t:MT} (h:checkB t=true) (h3:(encX t).length≤32768):encoX t=.inl (encX t):=by unfold encoX;rw [if_neg (by rw [h];decide),if_pos h3]
theorem awC_encode {t:MT} (h:t.bare=awT10):encoX t=.inl awC:=by
  rw [encoX_of h,encoX_yes awC_check (by rw [awC_enc];decide),awC_enc]
theorem awC_cells {t:MT} {w:World} (h:t.bare=awT10) (hR:Rep w t):t.c.vn=1∧∃ b o,t.c.va=some ⟨b,o,none⟩∧w.cell? ⟨b,o+4,none⟩=some (.int .i64 (-1)):=by
  have own:=hR.own
  rw [MT.bare_eq] at h
  unfold awT10 bobjC objT at h
  injection h with h1 h2 h3 h4
  have hvn:t.c.vn=1:=by have:=congrArg Cel.vn h1;exact this
  obtain ⟨u,hu⟩:∃ u,t.v=[u]:=by
    match hv:t.v with
    | []=>rw [hv] at h4;cases h4
    | [u]=>exact ⟨u,rfl⟩
    | _::_::_=>rw [hv] at h4;simp at h4
  rw [hu,List.map_cons,List.map_nil] at h4
  have hub:u.bare=awN:=by injection h4
  have hr:=own.vr
  rw [hu,List.map_cons,List.map_nil] at hr
  obtain ⟨b,o,hva,hl⟩:=hr.shape (by rw [flat_len];simp)
  refine ⟨hvn,b,o,hva,?_⟩
  rw [hva] at hr
  have hxx:=flat_at hr 0 (by simp) (c:=u.c) rfl
  obtain ⟨_,_,_,_,x4,_⟩:=hxx
  rw [MT.bare_eq] at hub
  have he:u.c.e = -1:=by unfold awN numT at hub;injection hub with g1;have:=congrArg Cel.e g1;exact this
  rw [he] at x4
  simpa using x4
theorem rd_mark (w:World) (e:TypeId) (vs:List Value) (fz:Nat × Nat):RdV (w.alloc (.cells vs.toArray e fz)) (some ⟨w.heap.size,0,none⟩) vs:=by
  intro i hi
  refine ⟨w.heap.size,0,rfl,by simp,?_⟩
  rw [Nat.zero_add]
  show World.cell? _ _=_
  have:(w.alloc (.cells vs.toArray e fz)).heap[w.heap.size]? = some (.cells vs.toArray e fz):=heap_alloc_new w _
  simp only [World.cell?,this]
  simp
/-- The document's example. -/
theorem awake10_any (w:World) (hU:UT w) (hT:DB w):Calls Tryz.prog 14 #[] w (BoolBelow true w):=by
  have hba:Below w.heap.size w (w.alloc (.cells #[.int .u8 161,.int .u8 97,.int .u8 97,.int .u8 249,.int .u8 62,.int .u8 0] 5 (6,7))):=(Below.refl _ _).alloc (Nat.le_refl _) _
  have kc:=fun (w:World) (C:Array Value) (n c:Nat)=>Lib.run_convert_bytes_const (P:=Tryz.prog) w 22 5 C n c Tryz.underlying22 Tryz.underlying5
  have KD:=Lib.hid (decode_cb (some ⟨w.heap.size,0,none⟩) 6 6 awC _ (hU.below hba) rfl (Nat.le_refl _) (by unfold Okb awC;decide) (rd_mark w 5 [.int .u8 161,.int .u8 97,.int .u8 97,.int .u8 249,.int .u8 62,.int .u8 0] (6,7)) (.inr ⟨_,_,rfl⟩))
  rw [awC_dec] at KD
  have HU:=Lib.hid hU;have HT:=Lib.hid hT;have HBA:=Lib.hid hba
  clear hU hT hba
  unfold DecC at KD
  go_enter Tryz.func14,Tryz.ntmps14
  go_wp2_with fail
  refine KD.out.mono ?_
  rintro r w1 ⟨t,rfl,hbare,hR,hb⟩
  replace hb:=below_on HBA.out hb
  have KE:=Lib.hid (fun W (h:Below w1.heap.size w1 W)=>encode_cb t W (hR.on h) (HU.out.below (hb.trans (h.mono hb.size))) (HT.out.below (hb.trans (h.mono hb.size))))
  rw [awC_encode hbare] at KE
  unfold EnP at KE
  obtain ⟨hvn,vb,vo,hva,hce⟩:=awC_cells hbare hR
  have hvlt:=lt_of_cell hce
  have HB:=Lib.hid hb
  clear hb hR hbare KD
  generalize t.c=c at *
  obtain ⟨k,b0,neg,ma,mn,mc,e,s,ka,kn,kc,va,vn,vc⟩:=c
  unfold Cel.val at *
  simp only at hvn hva
  subst hvn hva
  have hb2:Below w1.heap.size w1 (w1.alloc (.cells #[.int .i64 k,.bool b0,.bool neg,.slice ma mn mc,.int .i64 e,.string s,.slice ka kn kc,.slice (some ⟨vb,vo,none⟩) 1 vc] 29)):=(Below.refl _ _).alloc (Nat.le_refl _) _
  have KE2:=Lib.hid (KE.out _ hb2)
  have HB2:=Lib.hid hb2
  have q2:=heap_alloc_new w1 (.cells #[.int .i64 k,.bool b0,.bool neg,.slice ma mn mc,.int .i64 e,.string s,.slice ka kn kc,.slice (some ⟨vb,vo,none⟩) 1 vc] 29)
  have Q2:=Lib.hid q2
  clear hb2 KE q2
  go_wp2_with fail
  refine KE2.out.mono ?_
  rintro r w3 ⟨v,rfl,ho,hb3⟩
  obtain ⟨ad3,cap3,rfl,hc3,hr3,_,_,h03⟩:=own_viewN ho
  have HCV:=Lib.hid (conv_bv w3 ad3 6 cap3 awC rfl hr3)
  rw [show strB awC=⟨#[161,97,97,249,62,0]⟩ from rfl] at HCV
  have x3:=(hb3.cell (p:=⟨vb,vo+4,none⟩) (by simp;omega)).trans ((HB2.out.cell (p:=⟨vb,vo+4,none⟩) hvlt).trans hce)
  have q3:=(hb3.block _ (by simp)).trans Q2.out
  have HB3:=Lib.hid (HB.out.trans ((HB2.out.trans (hb3.mono HB2.out.size)).mono HB.out.size))
  clear hb3 KE2 ho hr3 h03 hc3 hce
  have y7:=(boxC q3 7 _ rfl).1
  clear q3
  have el:awC.length=6:=rfl
  rw [el]
  go_wp2_with fail
  rw [HCV.out]
  simp only [Result.andThen]
  rw [Oper.upon_value]
  go_wp2_with fail
  go_ret
  exact BoolBelow.mk rfl HB3.out
theorem head_of (c s:Nat) (l:List Nat) (hs:sizeH (c % 32)=some s) (hl:s≤l.length):cbHead (c::l)=.inl ((c / 32,c % 32,if c % 32<24 then c % 32 else natB (l.take s)),l.drop s):=by
  have hg:=getN_in (c::l) 0 c (by simp) rfl
  rw [Int.natCast_zero,hs] at hg
  simp only at hg
  rw [if_neg (by simp only [List.length_cons];omega)] at hg
  unfold cbHead
  rw [hg]
  simp only [if_true]
  congr 2
  · rw [Nat.zero_add,Nat.add_comm,List.drop_succ_cons]
theorem head_plain (c:Nat) (r:List Nat) (hc:c % 32<24):cbHead (c::r)=.inl ((c / 32,c % 32,c % 32),r):=by
  rw [head_of c 0 r (by unfold sizeH;rw [if_pos (.inl hc)]) (Nat.zero_le _),if_pos hc,List.drop_zero]
theorem head_hd (m n:Nat) (r:List Nat) (hm:m<8) (hn:n<18446744073709551616):cbHead (hd m n++r)=.inl ((m,infoN n,n),r):=by
  by_cases h0:n<24
  · rw [hd_0 m n h0]
    have e:infoN n=n:=by unfold infoN;rw [if_pos h0]
    show cbHead ((m*32+n)::r)=_
    rw [head_plain _ _ (by omega),e,show (m*32+n) / 32=m by omega,show (m*32+n) % 32=n by omega]
  · by_cases h1:n<256
    · rw [hd_1 m n (by omega) h1]
      have e:infoN n=24:=by unfold infoN;rw [if_neg h0,if_pos h1]
      show cbHead ((m*32+24)::n::r)=_
      rw [head_of _ 1 _ (by rw [show (m*32+24) % 32=24 by omega];rfl) (by simp),e,show (m*32+24) / 32=m by omega,show (m*32+24) % 32=24 by omega,if_neg (by omega)]
      have:natB ((n::r).take 1)=n:=by simp [natB]
      rw [this];rfl
    · by_cases h2:n<65536
      · rw [hd_2 m n (by omega) h2]
        have e:infoN n=25:=by unfold infoN;rw [if_neg h0,if_neg h1,if_pos h2]
        show cbHead ((m*32+25)::n / 256::n % 256::r)=_
        rw [head_of _ 2 _ (by rw [show (m*32+25) % 32=25 by omega];rfl) (by simp),e,show (m*32+25) / 32=m by omega,show (m*32+25) % 32=25 by omega,if_neg (by omega)]
        have:natB ((n / 256::n % 256::r).take 2)=n:=by simp [natB];omega
        rw [this];rfl
      · by_cases h3:n<4294967296
        · rw [hd_4 m n (by omega) h3]
          have e:infoN n=26:=by unfold infoN;rw [if_neg h0,if_neg h1,if_neg h2,if_pos h3]
          show cbHead ((m*32+26)::n / 16777216::n / 65536 % 256::n / 256 % 256::n % 256::r)=_
          rw [head_of _ 4 _ (by rw [show (m*32+26) % 32=26 by omega];rfl) (by simp),e,show (m*32+26) / 32=m by omega,show (m*32+26) % 32=26 by omega,if_neg (by omega)]
          have:natB ((n / 16777216::n / 65536 % 256::n / 256 % 256::n % 256::r).take 4)=n:=by simp [natB];omega
          rw [this];rfl
        · rw [hd_8 m n (by omega)]
          have e:infoN n=27:=by unfold infoN;rw [if_neg h0,if_neg h1,if_neg h2,if_neg h3]
          show cbHead ((m*32+27)::n / 72057594037927936::n / 281474976710656 % 256::n / 1099511627776 % 256::n / 4294967296 % 256::n / 16777216 % 256::n / 65536 % 256::n / 256 % 256::n % 256::r)=_
          rw [head_of _ 8 _ (by rw [show (m*32+27) % 32=27 by omega];rfl) (by simp),e,show (m*32+27) / 32=m by omega,show (m*32+27) % 32=27 by omega,if_neg (by omega)]
          have:natB ((n / 72057594037927936::n / 281474976710656 % 256::n / 1099511627776 % 256::n / 4294967296 % 256::n / 16777216 % 256::n / 65536 % 256::n / 256 % 256::n % 256::r).take 8)=n:=by simp [natB];omega
          rw [this];rfl
theorem hd_first (m n:Nat) (hm:m<8):∃ c r,hd m n=c::r∧c=m*32+infoN n∧c<252:=by
  have:=infoN_le n
  exact ⟨m*32+infoN n,tailN n,rfl,rfl,by omega⟩
theorem val_hd (f n m k:Nat) (r:List Nat) (hm:m<8) (hk:k<18446744073709551616) (hn:n<2000) (hf:f ≠ 0):cbValue (f+1) (hd m k++r) n=cbBehind (cbValue f) (m,infoN k,k) r (n+1):=by
  have h:=head_hd m k r hm hk
  obtain ⟨c,q,h1,_,h3⟩:=hd_first m k hm
  rw [h1,List.cons_append] at h ⊢
  exact cbV_on (by omega) (by omega) h
theorem infoN_31 (n:Nat):infoN n ≠ 31:=by have:=infoN_le n;omega
theorem strN_okb (s:ByteArray):Okb (strN s):=by
  intro x hx
  unfold strN at hx
  obtain ⟨b,_,rfl⟩:=List.mem_map.1 hx
  exact b.toNat_lt
theorem strB_strN (s:ByteArray):strB (strN s)=s:=by
  unfold strB strN
  rw [List.map_map]
  apply ByteArray.ext
  simp only [Function.comp_def]
  simp
theorem piece_enc (m:Nat) (s:ByteArray) (more:List Nat) (hv:m=3→validL s.data.toList=true):cbPiece m s.size (strN s++more)=.inl (strN s,more):=by
  have hl:=strN_len s
  unfold cbPiece
  rw [if_neg (by rw [List.length_append];omega),List.take_append_of_le_length (by omega),List.take_of_length_le (by omega),List.drop_append_of_le_length (by omega),List.drop_of_length_le (by omega),List.nil_append]
  rw [if_neg]
  rintro ⟨h3,h4⟩
  have h5:=hv h3
  have e:(strN s).map (fun x=>UInt8.ofNat x)=s.data.toList:=by
    unfold strN;rw [List.map_map];simp [Function.comp_def]
  unfold validB at h4
  rw [e,h5] at h4
  cases h4
theorem text_enc (m:Nat) (s:ByteArray) (more:List Nat) (hz:s.size≤2000) (hv:m=3→validL s.data.toList=true):cbText (m,infoN s.size,s.size) (strN s++more)=.inl (strN s,more):=by
  unfold cbText
  rw [if_neg (infoN_31 _),if_neg (by simp only;omega)]
  exact piece_enc m s more hv
theorem val_str (f n m:Nat) (s:ByteArray) (more:List Nat) (hm:m=2∨m=3) (hn:n<2000) (hf:f ≠ 0) (hz:s.size≤2000) (hv:m=3→validL s.data.toList=true) :
    cbValue (f+1) (strC m s++more) n=.inl (leafT (if m=2 then 5 else 4) false s,more,n+1):=by
  unfold strC
  rw [List.append_assoc,val_hd f n m s.size _ (by omega) (by omega) hn hf]
  unfold cbBehind
  rcases hm with rfl | rfl
  · rw [if_pos rfl,text_enc 2 s more hz (by omega)]
    simp only
    rw [strB_strN]
    rfl
  · rw [if_neg (by simp),if_pos rfl,text_enc 3 s more hz hv]
    simp only
    rw [strB_strN]
    rfl
theorem mkN_canon {ng:Bool} {xs:List Nat} {E:Int} (ho:Okl xs) (h:chkB ng xs E=true) (k:Nat):mkN ng (val xs*tenN k) (E - (k:Int))=some (ng,val xs,E):=by
  have hx:=chkB_limbs ho h
  by_cases h0:xs=[]
  · subst h0
    obtain ⟨rfl,rfl⟩:=chkB_zero h
    unfold mkN
    rw [if_pos (by simp [val])]
    rfl
  · obtain ⟨h1,_,h2,h3,h4⟩:=chkB_some h0 h
    have hne:val xs ≠ 0:=by intro e;rw [e] at h4;exact h4 rfl
    have hn0:val xs*tenN k ≠ 0:=Nat.mul_ne_zero hne (tenN_ne _)
    obtain ⟨e1,e2⟩:=trim_unique (N:=val xs*tenN k) rfl h4
    unfold mkN
    rw [if_neg hn0,e1,e2,hx,if_pos ⟨h1,by omega,by omega⟩]
    congr 3
    omega
theorem size_told {b:Bool} {M:Nat} (h:b=true→M ≠ 0):cbSize (b,toldN b M)=M:=by
  unfold cbSize toldN
  cases b with
  | false=>rfl
  | true=>have:=h rfl;simp only [if_true];omega
theorem neg_ne {ng:Bool} {xs:List Nat} {E:Int} (ho:Okl xs) (h:chkB ng xs E=true) (hn:ng=true):val xs ≠ 0:=by
  intro h0
  have hx:=chkB_limbs ho h
  rw [h0,limbs_zero] at hx
  rw [← hx] at h
  have:=(chkB_zero h).1
  rw [hn] at this
  cases this
theorem part_hd (a b m k:Nat) (r:List Nat) (hm:m=a∨m=b) (hm8:m<8) (hk:k<18446744073709551616):cbPart a b (hd m k++r)=.inl ((m,infoN k,k),r):=by
  have h:=head_hd m k r hm8 hk
  obtain ⟨c,q,h1,h2,h3⟩:=hd_first m k hm8
  have hi:=infoN_le k
  rw [h1,List.cons_append] at h ⊢
  unfold cbPart
  simp only
  rw [if_neg (by omega),h]
theorem long_enc (tag T:Nat) (more:List Nat) (hl:(bytesN T).length≤2000):cbLong tag (hd 2 (bytesN T).length++(bytesN T++more))=.inl ((decide (tag=3),T),more):=by
  unfold cbLong
  rw [part_hd 2 2 2 _ _ (.inl rfl) (by decide) (by omega)]
  simp only
  unfold cbText
  rw [if_neg (infoN_31 _),if_neg (by simp only;omega)]
  simp only
  unfold cbPiece
  rw [if_neg (by rw [List.length_append];omega),if_neg (fun h=>absurd h.1 (by decide)),List.take_append_of_le_length (Nat.le_refl _),List.take_of_length_le (Nat.le_refl _),List.drop_append_of_le_length (Nat.le_refl _),List.drop_of_length_le (Nat.le_refl _),List.nil_append]
  simp only
  rw [natB_bytesN]
theorem short_lt {T:Nat} (h:shortN T=true):T<18446744073709551616:=bits_le_of (of_decide_eq_true h)
theorem digits_enc (b:Bool) (T:Nat) (more:List Nat) (hl:(bytesN T).length≤2000):cbDigits (intB b T++more)=.inl ((b,T),more):=by
  unfold intB
  split
  next hs =>
    have hT:=short_lt hs
    obtain ⟨c,q,h1,h2,h3⟩:=hd_first (if b then 1 else 0) T (by split <;> decide)
    have hi:=infoN_le T
    have hp:=part_hd 0 1 (if b then 1 else 0) T more (by split <;> simp) (by split <;> decide) hT
    rw [h1,List.cons_append] at hp ⊢
    unfold cbDigits
    simp only
    have hc:¬ (c=194∨c=195):=by split at h2 <;> omega
    rw [if_neg hc,hp]
    simp only
    unfold cbWhole
    cases b <;> rfl
  next hs =>
    rw [List.append_assoc,List.append_assoc]
    cases b with
    | false =>
      show cbDigits (194::(hd 2 (bytesN T).length++(bytesN T++more)))=_
      unfold cbDigits
      simp only
      rw [if_pos (by decide),head_plain 194 _ (by decide)]
      simp only
      rw [show (194 % 32:Nat)=2 from rfl,long_enc 2 T more hl]
      rfl
    | true =>
      show cbDigits (195::(hd 2 (bytesN T).length++(bytesN T++more)))=_
      unfold cbDigits
      simp only
      rw [if_pos (by decide),head_plain 195 _ (by decide)]
      simp only
      rw [show (195 % 32:Nat)=3 from rfl,long_enc 3 T more hl]
      rfl
theorem val_int {ng:Bool} {xs:List Nat} {e:Int} (ho:Okl xs) (h:chkB ng xs e=true) (he:0≤e) (f n:Nat) (more:List Nat) (hn:n<2000) (hf:f ≠ 0) (hs:shortN (toldN ng (val xs*tenN e.toNat))=true) :
    cbValue (f+1) (intB ng (toldN ng (val xs*tenN e.toNat))++more) n=.inl (bnumC (ng,val xs,e),more,n+1):=by
  have hT:=short_lt hs
  have hsz:cbSize (ng,toldN ng (val xs*tenN e.toNat))=val xs*tenN e.toNat:=size_told (fun hb=>Nat.mul_ne_zero (neg_ne ho h hb) (tenN_ne _))
  have hmk:=mkN_canon ho h e.toNat
  rw [show e - (e.toNat:Int)=0 by omega] at hmk
  unfold intB
  rw [if_pos hs]
  generalize toldN ng (val xs*tenN e.toNat)=T at *
  rw [val_hd f n _ T more (by split <;> decide) hT hn hf]
  unfold cbBehind
  have hi:=infoN_31 T
  cases ng with
  | false =>
    rw [if_neg (by simp),if_neg (by simp),if_neg (by simp),if_neg (by simp),if_neg (by simp),if_neg (by simpa using hi),if_neg (by simp)]
    unfold cbWhole cbNum
    simp only [Bool.false_eq_true,if_false]
    rw [show decide ((0:Nat)=1)=false from rfl,hsz,hmk]
  | true =>
    rw [if_neg (by simp),if_neg (by simp),if_neg (by simp),if_neg (by simp),if_neg (by simp),if_neg (by simpa using hi),if_neg (by simp)]
    unfold cbWhole cbNum
    simp only [if_true]
    rw [show decide True=true from by simp,hsz,hmk]
theorem val_dec {ng:Bool} {xs:List Nat} {e:Int} (ho:Okl xs) (h:chkB ng xs e=true) (f n:Nat) (more:List Nat) (hn:n<2000) (hf:f ≠ 0) :
    cbValue (f+1) (decB ng (val xs) e++more) n=.inl (bnumC (ng,val xs,e),more,n+1):=by
  have hb:=chkB_bounds h
  have hsz:cbSize (ng,toldN ng (val xs))=val xs:=size_told (fun hb=>neg_ne ho h hb)
  have hmk:=mkN_canon ho h 0
  rw [show tenN 0=1 from rfl,Nat.mul_one,show e - ((0:Nat):Int)=e by omega] at hmk
  have hlen:(bytesN (toldN ng (val xs))).length≤2000:=by
    rw [bytesN_len]
    have h1:=bits_mono (told_le ng (val xs))
    have h2:=bits_words ho
    omega
  obtain ⟨q,hq⟩:∃ q,toldN (decide (e<0)) e.natAbs=q:=⟨_,rfl⟩
  have hqb:q≤1200:=by rw [← hq];have:=told_le (decide (e<0)) e.natAbs;omega
  have hqs:shortN q=true:=by
    unfold shortN
    have:=bits_small (q:=q) (by omega)
    exact decide_eq_true (by omega)
  have hd1:decB ng (val xs) e++more=hd 6 4++(hd 4 2++(hd (if decide (e<0) then 1 else 0) q++(intB ng (toldN ng (val xs))++more))):=by
    unfold decB
    rw [hq]
    have:intB (decide (e<0)) q=hd (if decide (e<0) then 1 else 0) q:=by unfold intB;rw [if_pos hqs]
    rw [this]
    simp only [List.append_assoc]
  rw [hd1,val_hd f n 6 4 _ (by decide) (by decide) hn hf]
  unfold cbBehind
  rw [if_neg (by decide),if_neg (by decide),if_neg (by decide),if_neg (by decide),if_neg (by decide),if_neg (by decide),if_pos rfl]
  unfold cbTag
  rw [if_neg (by decide),if_pos rfl]
  unfold cbDec
  rw [part_hd 4 4 4 2 _ (.inl rfl) (by decide) (by decide)]
  simp only
  rw [if_neg (by decide),part_hd 0 1 _ q _ (by split <;> simp) (by split <;> decide) (by omega)]
  simp only
  rw [digits_enc ng _ more hlen]
  simp only
  have ht:cbTens (if decide (e<0) then 1 else 0,infoN q,q)=e:=by
    by_cases he:e<0
    · rw [decide_eq_true he]
      rw [decide_eq_true he] at hq
      unfold toldN at hq
      rw [if_pos rfl] at hq
      rw [if_pos rfl,tens_one _ _ _ rfl]
      omega
    · rw [decide_eq_false he]
      rw [decide_eq_false he] at hq
      unfold toldN at hq
      rw [if_neg (by decide)] at hq
      rw [if_neg (by decide),tens_not _ _ _ (by decide)]
      omega
  rw [ht]
  unfold cbNum
  rw [hsz,hmk]
  rfl
end Go.Proofs.YtnacbakcalcgaaaGreatDoor
