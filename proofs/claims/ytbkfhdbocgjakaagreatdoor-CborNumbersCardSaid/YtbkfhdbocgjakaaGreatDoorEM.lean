/- Texts of the claim. -/
import Derived.Test.YtbkfhdbocgjakaaGreatDoorEL
import Derived.Defers
import Derived.Recover
import Derived.Lib.SlBytesConst
import Derived.Test.YtbkfhdbocgjakaaGreatDoorEg
import Derived.Test.YtbkfhdbocgjakaaGreatDoorEi
set_option linter.unusedVariables false
set_option linter.unusedSimpArgs false
set_option maxHeartbeats 8000000
set_option maxRecDepth 100000
namespace Go.Proofs.YtbkfhdbocgjakaaGreatDoor
open Go.RowKit Go.Lib Go.Sort
theorem catch_thrownX (g h : Nat) (v0 u : Value) (x : Int) (older : List PanicEntry) (w : World) (n1 : g ≠ h) (hv0 : ∃ a b c, v0 = .slice a b c)
    (c0 : w.cell? ⟨g, 0, none⟩ = some v0) (f0 : w.frozen? ⟨g, 0, none⟩ = false)
    (ch : w.cell? ⟨h, 0, none⟩ = some u) (fh : w.frozen? ⟨h, 0, none⟩ = false) :
    CallsD Tryz.prog 25 #[.pointer (some ⟨g, 0, none⟩), .pointer (some ⟨h, 0, none⟩)] (.panicking ({ v := .iface 32 (.int .i64 x), recovered := false } :: older)) w fun e u' w' =>
      e = .returned (.tuple #[]) ∧ u' = .panicking ({ v := .iface 32 (.int .i64 x), recovered := true } :: older) ∧
        w' = ((w.setCell ⟨g, 0, none⟩ (.slice none 0 0)).setCell ⟨h, 0, none⟩ (.int .i64 x)).drew := by
  obtain ⟨va, vb, vc, rfl⟩ := hv0
  refine callsD_of_wpS Tryz.func25 rfl fun c₀ cs hu => ?_
  apply wpS_seq
  apply wpS_region
  simp [wpOpsS, go_sem, recoverD, hu, Tryz.ntmps25, Exit.thenS]
  apply wpS_seq
  apply wpS_region
  simp [wpOpsS, go_sem, Exit.thenS]
  refine wpS_cond (t := true) (by simp [Act.eval, Array.replicate]) ?_
  simp only [if_true]
  refine wpS_of_wp ?_
  change Code.wp _ _ _ { tmps := #[.pointer (some ⟨g, 0, none⟩), .pointer (some ⟨h, 0, none⟩), .iface 32 (.int .i64 x), .iface 32 (.int .i64 x), .iface 32 (.int .i64 x), .bool true, undef, undef], defers := [] } w
  have hne1 : ¬ h = g := fun hh => n1 hh.symm
  have hta := assert_errnoC x
  go_region
  exact ⟨rfl, _, rfl, .tuple #[], by simp [results, Tryz.results25, go_sem], rfl, rfl, rfl⟩
theorem catch_idleX (p q:Addr) (w:World) :
    CallsD Tryz.prog 25 #[.pointer (some p),.pointer (some q)] .returning w fun e u' w'=>e=.returned (.tuple #[])∧u'=.returning∧w'=w:=by
  refine callsD_of_wpS Tryz.func25 rfl fun c₀ cs hu=>?_
  apply wpS_seq
  apply wpS_region
  simp [wpOpsS,go_sem,recoverD,hu,Tryz.ntmps25,Exit.thenS]
  apply wpS_seq
  apply wpS_region
  simp [wpOpsS,go_sem,Exit.thenS]
  refine wpS_cond (t:=false) (by simp [Act.eval,Array.replicate]) ?_
  simp only [Bool.false_eq_true,if_false]
  refine wpS_of_wp (wp_skip ?_)
  cases c₀
  simp_all [bodyPostS,results,Tryz.results25]
theorem check_subC {t:MT} (h:checkB t=true):∀ s,t.sub s→soundB s=true:=by
  intro s hs
  unfold checkB at h
  rw [Bool.and_eq_true,List.all_eq_true] at h
  obtain ⟨n,hn⟩:=hs
  obtain ⟨m,hm⟩:=MT.mem_pre_shift t 0 1 s ⟨n,hn⟩
  have:=h.2 _ hm
  rw [Bool.and_eq_true] at this
  exact this.2
def encoX (t:MT):List Nat ⊕ Int:=if checkB t=false then .inr 1 else if (encX t).length≤32768 then .inl (encX t) else .inr 4
def EnP (r:List Nat ⊕ Int) (w:World) (e:Ending) (w':World):Prop :=
  match r with
  | .inl l=>∃ v,e=.returned (.tuple #[v,.int .i64 0])∧w'.ownsRow w.heap.size 5 1 v l.length (bc l)∧Below w.heap.size w w'
  | .inr x=>e=.returned (.tuple #[.slice none 0 0,.int .i64 x])∧Below w.heap.size w w'
theorem EnP.no {r:List Nat ⊕ Int} {w w':World} {e:Ending} {x:Int} (h:r=.inr x) (he:e=.returned (.tuple #[.slice none 0 0,.int .i64 x])) (hb:Below w.heap.size w w'):EnP r w e w':=by
  subst h;exact ⟨he,hb⟩
theorem EnP.yes {r:List Nat ⊕ Int} {w w':World} {e:Ending} {l:List Nat} {v:Value} (h:r=.inl l) (he:e=.returned (.tuple #[v,.int .i64 0])) (ho:w'.ownsRow w.heap.size 5 1 v l.length (bc l)) (hb:Below w.heap.size w w'):EnP r w e w':=by
  subst h;exact ⟨v,he,ho,hb⟩
theorem own_set {w:World} {B:Nat} {e:TypeId} {size:Nat} {v:Value} {n:Nat} {xs:List Value} (h:w.ownsRow B e size v n xs) {a:Addr} (ha:a.block<B) (u:Value):(w.setCell a u).ownsRow B e size v n xs :=
  own_keep h (fun k hk=>by have:=(own_bd h hk).1;simp [World.setCell,Array.getElem?_modify,show a.block ≠ k by omega])
theorem encode_cb (t:MT) (w:World) (hR:Rep w t) (hU:UT w) (hT:DB w):Calls Tryz.prog 11 #[t.c.val] w (EnP (encoX t) w):=by
  have hmf:∀ (fn:Fn) (first cap:Array Value) (w:World),(Instr.makeFunc fn first cap).run Tryz.prog w=.ok (.func fn first cap) w:=fun _ _ _ _=>rfl
  obtain ⟨W,hW⟩:∃ W,W=((w.alloc (.cells t.c.cells.toArray 29)).alloc (.cells #[.slice none 0 0] 22)).alloc (.cells #[.int .i64 0] 32):=⟨_,rfl⟩
  have hb0:Below w.heap.size w W:=by
    rw [hW];exact (((Below.refl _ _).alloc (Nat.le_refl _) _).alloc (by simp) _).alloc (by simp;omega) _
  have hs0:W.heap.size=w.heap.size+1+1+1:=by rw [hW];simp
  have q0:W.heap[w.heap.size]? = some (.cells t.c.cells.toArray 29):=by
    rw [hW];exact (Below.heap_alloc _ _ _ (by simp;omega)).trans ((Below.heap_alloc _ _ _ (by simp)).trans (heap_alloc_new w _))
  have q1:W.heap[w.heap.size+1]? = some (.cells #[.slice none 0 0] 22):=by
    rw [hW]
    refine (Below.heap_alloc _ _ _ (by simp)).trans ?_
    have:=heap_alloc_new (w.alloc (.cells t.c.cells.toArray 29)) (.cells #[.slice none 0 0] 22);simpa using this
  have q2:W.heap[w.heap.size+1+1]? = some (.cells #[.int .i64 0] 32):=by
    rw [hW]
    have:=heap_alloc_new ((w.alloc (.cells t.c.cells.toArray 29)).alloc (.cells #[.slice none 0 0] 22)) (.cells #[.int .i64 0] 32);simpa using this
  have KC:=Lib.hid (checkT_any t W (hR.on hb0) (hU.below hb0))
  have KV:=Lib.hid (fun W' (h:Below W.heap.size W W') (hc:checkB t=true) =>
    valc_any W'.heap.size W'.heap.size W' (Nat.le_refl _) rfl ((hT.below hb0).below h) t ((hR.on hb0).on h) (check_subC hc))
  have HR1:=Lib.hid (fun (h:checkB t=false)=>(show encoX t=.inr 1 by unfold encoX;rw [if_pos h]))
  have HR4:=Lib.hid (fun (h:checkB t=true) (h3:32768<(encX t).length)=>(show encoX t=.inr 4 by unfold encoX;rw [if_neg (by rw [h];decide),if_neg (by omega)]))
  have HRY:=Lib.hid (fun (h:checkB t=true) (h3:(encX t).length≤32768)=>(show encoX t=.inl (encX t) by unfold encoX;rw [if_neg (by rw [h];decide),if_pos h3]))
  unfold WrV at KV
  have HB0:=Lib.hid hb0;have HS0:=Lib.hid hs0;have Q0:=Lib.hid q0;have Q1:=Lib.hid q1;have Q2:=Lib.hid q2
  clear hR hU hT hb0 hs0 q0 q1 q2
  generalize checkB t=ck at *
  generalize encoX t=RR at *
  generalize encX t=ej at *
  generalize t.c=c at *
  obtain ⟨k,b0,neg,ma,mn,mc,e,s,ka,kn,kc,va,vn,vc⟩:=c
  unfold Cel.cells at hW Q0
  simp only at hW Q0
  unfold Cel.val at *
  have HW:=Lib.hid hW.symm
  clear hW
  have hb:Below W.heap.size W W:=Below.refl _ _
  have p0:=(hb.block w.heap.size (by have:=HS0.out;omega)).trans Q0.out
  have p1:=(hb.block (w.heap.size+1) (by have:=HS0.out;omega)).trans Q1.out
  have p2:=(hb.block (w.heap.size+1+1) (by have:=HS0.out;omega)).trans Q2.out
  have y0:=(boxC p0 0 _ rfl).1
  have y1:=(boxC p0 1 _ rfl).1
  have y2:=(boxC p0 2 _ rfl).1
  have y3:=(boxC p0 3 _ rfl).1
  have y4:=(boxC p0 4 _ rfl).1
  have y5:=(boxC p0 5 _ rfl).1
  have y6:=(boxC p0 6 _ rfl).1
  have y7:=(boxC p0 7 _ rfl).1
  have a0:W.cell? ⟨w.heap.size+1,0,none⟩=some (.slice none 0 0):=(boxC p1 0 _ rfl).1
  have af0:=(boxC p1 0 _ rfl).2
  have b0':W.cell? ⟨w.heap.size+1+1,0,none⟩=some (.int .i64 0):=(boxC p2 0 _ rfl).1
  have bf0:=(boxC p2 0 _ rfl).2
  clear p0 p1 p2 hb
  go_enter_defers Tryz.func11,Tryz.ntmps11
  go_wp2_with fail
  rw [HW.out]
  go_wp2_with fail
  refine KC.out.mono ?_
  rintro r w1 ⟨rfl,hb⟩
  clear y0 y1 y2 y3 y4 y5 y6 y7 a0 af0 b0' bf0
  have p0:=(hb.block w.heap.size (by have:=HS0.out;omega)).trans Q0.out
  have p1:=(hb.block (w.heap.size+1) (by have:=HS0.out;omega)).trans Q1.out
  have p2:=(hb.block (w.heap.size+1+1) (by have:=HS0.out;omega)).trans Q2.out
  have y0:=(boxC p0 0 _ rfl).1
  have y1:=(boxC p0 1 _ rfl).1
  have y2:=(boxC p0 2 _ rfl).1
  have y3:=(boxC p0 3 _ rfl).1
  have y4:=(boxC p0 4 _ rfl).1
  have y5:=(boxC p0 5 _ rfl).1
  have y6:=(boxC p0 6 _ rfl).1
  have y7:=(boxC p0 7 _ rfl).1
  have a0:w1.cell? ⟨w.heap.size+1,0,none⟩=some (.slice none 0 0):=(boxC p1 0 _ rfl).1
  have af0:=(boxC p1 0 _ rfl).2
  have b0':w1.cell? ⟨w.heap.size+1+1,0,none⟩=some (.int .i64 0):=(boxC p2 0 _ rfl).1
  have bf0:=(boxC p2 0 _ rfl).2
  have HB1:=Lib.hid hb
  have HBW:=Lib.hid (HB0.out.trans (hb.mono HB0.out.size))
  have hs2:w.heap.size+1+1<w1.heap.size:=(Array.getElem?_eq_some_iff.1 p2).1
  have P0:=Lib.hid p0;have P1:=Lib.hid p1;have P2:=Lib.hid p2
  clear p0 p1 p2 hb
  cases ck with
  | false =>
    have HR:=Lib.hid (HR1.out (by first | rfl | trivial))
    go_wp2
    refine leaves_cons (f:=25) (args:=#[.pointer (some ⟨w.heap.size+1,0,none⟩),.pointer (some ⟨w.heap.size+1+1,0,none⟩)]) (by simp) (by simp [go_sem]) ?_
    refine (catch_thrownX (w.heap.size+1) (w.heap.size+1+1) _ _ 1 [] _ (by omega) ⟨_,_,_,rfl⟩ a0 af0 b0' bf0).mono ?_
    rintro e u' w'' ⟨rfl,rfl,rfl⟩
    simp [Leaves,settle,results,Tryz.results11,go_sem,a0,b0']
    exact EnP.no HR.out rfl (((HBW.out.setCell (by simp) _).setCell (by simp <;> omega) _).drew)
  | true =>
    obtain ⟨W3,hW3⟩:∃ x,w1.alloc (.cells #[.slice none 0 0] 62)=x:=⟨_,rfl⟩
    have hb3:Below w1.heap.size w1 W3:=by rw [← hW3];exact (Below.refl _ _).alloc (Nat.le_refl _) _
    have q3:W3.heap[w1.heap.size]? = some (.cells #[.slice none 0 0] 62):=by rw [← hW3];exact heap_alloc_new w1 _
    have KV2:=Lib.hid (KV.out w1 HB1.out (by first | rfl | trivial) [] W3 ⟨_,q3,World.ownsRow_nil _ _ _ _⟩ (by simp) hb3)
    have HW3:=Lib.hid hW3
    have HB3:=Lib.hid hb3
    clear a0 af0 b0' bf0
    have hlt2:w.heap.size<w1.heap.size:=by omega
    clear hb3 hW3 q3 KV
    go_wp2_with fail
    rw [HW3.out]
    refine KV2.out.mono ?_
    intro r w4 hp4
    unfold EncB at hp4
    simp only [List.length_nil,Nat.zero_add,List.nil_append] at hp4
    rcases hp4 with ⟨e1,rfl,e2,e3⟩ | ⟨e1,rfl,e2⟩
    · have HR:=Lib.hid (HRY.out (by first | rfl | trivial) e1)
      have hb4:=HB3.out.trans e3.bel
      obtain ⟨v,hv,ho⟩:=e2
      obtain ⟨vad,vcap,rfl,t1,t2,t3,t4,t5⟩:=own_viewN ho
      have HO:=Lib.hid ho
      have v0:w4.cell? ⟨w1.heap.size,0,none⟩=some (.slice vad ej.length vcap):=(boxC hv 0 _ rfl).1
      have p1:=(hb4.block (w.heap.size+1) (by omega)).trans P1.out
      have p2:=(hb4.block (w.heap.size+1+1) (by omega)).trans P2.out
      have a0:w4.cell? ⟨w.heap.size+1,0,none⟩=some (.slice none 0 0):=(boxC p1 0 _ rfl).1
      have af0:=(boxC p1 0 _ rfl).2
      have b0':w4.cell? ⟨w.heap.size+1+1,0,none⟩=some (.int .i64 0):=(boxC p2 0 _ rfl).1
      have bf0:=(boxC p2 0 _ rfl).2
      have HB4:=Lib.hid (HBW.out.trans (hb4.mono HBW.out.size))
      have n1:¬ w.heap.size+1+1=w.heap.size+1:=by omega
      clear e1 e3 KV2 y0 y1 y2 y3 y4 y5 y6 y7 hb4 p1 p2 ho hv t1 t2 t3 t4 t5
      go_wp2
      refine leaves_cons (f:=25) (args:=#[.pointer (some ⟨w.heap.size+1,0,none⟩),.pointer (some ⟨w.heap.size+1+1,0,none⟩)]) (by simp) (by simp [go_sem]) ?_
      refine (catch_idleX _ _ _).mono ?_
      rintro e u' w'' ⟨rfl,rfl,rfl⟩
      simp [Leaves,settle,results,Tryz.results11,go_sem,a0,b0']
      exact EnP.yes HR.out rfl (own_monoB (own_set (own_set HO.out (by simp;omega) _) (by simp;omega) _) (by omega)) ((HB4.out.setCell (by simp) _).setCell (by simp <;> omega) _)
    · have HR:=Lib.hid (HR4.out (by first | rfl | trivial) e1)
      have hb4:=HB3.out.trans e2
      have p1:=(hb4.block (w.heap.size+1) (by omega)).trans P1.out
      have p2:=(hb4.block (w.heap.size+1+1) (by omega)).trans P2.out
      have a0:w4.cell? ⟨w.heap.size+1,0,none⟩=some (.slice none 0 0):=(boxC p1 0 _ rfl).1
      have af0:=(boxC p1 0 _ rfl).2
      have b0':w4.cell? ⟨w.heap.size+1+1,0,none⟩=some (.int .i64 0):=(boxC p2 0 _ rfl).1
      have bf0:=(boxC p2 0 _ rfl).2
      have HB4:=Lib.hid (HBW.out.trans (hb4.mono HBW.out.size))
      clear hb4 p1 p2 e1 e2 KV2 y0 y1 y2 y3 y4 y5 y6 y7
      go_wp2
      refine leaves_cons (f:=25) (args:=#[.pointer (some ⟨w.heap.size+1,0,none⟩),.pointer (some ⟨w.heap.size+1+1,0,none⟩)]) (by simp) (by simp [go_sem]) ?_
      refine (catch_thrownX (w.heap.size+1) (w.heap.size+1+1) _ _ 4 [] _ (by omega) ⟨_,_,_,rfl⟩ a0 af0 b0' bf0).mono ?_
      rintro e u' w'' ⟨rfl,rfl,rfl⟩
      simp [Leaves,settle,results,Tryz.results11,go_sem,a0,b0']
      exact EnP.no HR.out rfl (((HB4.out.setCell (by simp) _).setCell (by simp <;> omega) _).drew)
def awC:List Nat:=[161,97,97,249,62,0]
def awN:MT:=numT false none 1 0 (-1) [15]
def awT10:MT:=bobjC [⟨#[97]⟩] [awN]
theorem awC_mem:cbMembers (cbValue 64) false 1 302 [] [] [97,97,249,62,0] 1=.inl (([⟨#[97]⟩],[awN]),[],2):=by kernel_rfl
theorem awC_sort:sortC [⟨#[97]⟩]=[0]:=by
  unfold sortC srt
  show (List.range' 0 1).mergeSort _=[0]
  simp
theorem awC_val:cbValue 65 awC 0=.inl (awT10,[],2):=by
  unfold awC
  rw [cbV_on (h0:=(5,1,1)) (r2:=[97,97,249,62,0]) (by decide) (by decide) (by kernel_rfl)]
  unfold cbBehind
  rw [if_neg (by decide),if_neg (by decide),if_neg (by decide),if_pos (by decide)]
  have h:=awC_mem
  unfold cbObj
  rw [if_neg (by decide)]
  rw [show (decide (((5,1,1):HdC).2.1=31))=false from rfl,show ((5,1,1):HdC).2.2=1 from rfl,h]
  simp only
  rw [if_pos (by simp),awC_sort]
  rfl
theorem awC_dec:cbDecode awC=.inl awT10:=by
  unfold cbDecode
  rw [if_neg (by decide),awC_val]
  rfl
theorem awC_enc:encX awT10=awC:=by
  have h1:encX awN=[249,62,0]:=by kernel_rfl
  have h2:ordC [⟨#[97]⟩]=[0]:=by
    unfold ordC srt
    show (List.range' 0 1).mergeSort _=[0]
    simp
  rw [encX_eq]
  show objE [⟨#[97]⟩] ([awN].map encX)=awC
  rw [List.map_cons,List.map_nil,h1]
  unfold objE
  rw [h2]
  decide
theorem awC_check:checkB awT10=true:=by kernel_rfl
theorem soundB_bareC (t:MT):soundB t.bare=soundB t:=by
  rw [MT.bare_eq]
  obtain ⟨⟨k,b,neg,ma,mn,mc,e,s,ka,kn,kc,va,vn,vc⟩,m,ks,vs⟩:=t
  rfl
theorem encX_bare (t:MT):encX t.bare=encX t:=by
  refine MT.ind (P:=fun t=>encX t.bare=encX t) ?_ t
  intro t ih
  rw [encX_eq t.bare,encX_eq t,MT.bare_eq]
  obtain ⟨c,m,ks,vs⟩:=t
  simp only [MT.c,MT.m,MT.k,MT.v,Cel.bare] at ih ⊢
  have e:(vs.map MT.bare).map encX=vs.map encX:=by
    rw [List.map_map]
    exact List.map_congr_left ih
  rw [e,List.length_map]
  rfl
theorem pre_bareC (t:MT):∀ d,t.bare.pre d=(t.pre d).map fun x=>(x.1,x.2.bare):=by
  refine MT.ind (P:=fun t=>∀ d,t.bare.pre d=(t.pre d).map fun x=>(x.1,x.2.bare)) ?_ t
  intro t ih d
  rw [MT.bare_eq,MT.pre_eq,MT.pre_eq,List.map_cons,MT.bare_eq]
  congr 1
  have key:∀ l:List MT,(∀ u∈l,∀ d,u.bare.pre d=(u.pre d).map fun x=>(x.1,x.2.bare))→MT.preL (l.map MT.bare) (d+1)=(MT.preL l (d+1)).map fun x=>(x.1,x.2.bare):=by
    intro l
    induction l with
    | nil=>intro _;rw [List.map_nil,MT.preL_nil];rfl
    | cons u l ih2 =>
      intro h
      rw [List.map_cons,MT.preL_cons,MT.preL_cons,List.map_append,h u (by simp),ih2 (fun x hx=>h x (by simp [hx]))]
  exact key t.v ih
theorem nodes_bareC (t:MT):t.bare.nodes=t.nodes:=by
  rw [← t.bare.pre_len 0,← t.pre_len 0,pre_bareC,List.length_map]
theorem checkB_bareC (t:MT):checkB t.bare=checkB t:=by
  unfold checkB
  rw [nodes_bareC,pre_bareC,List.all_map]
  congr 1
  apply List.all_congr rfl
  intro x
  simp only [Function.comp,soundB_bareC]
theorem encoX_of {t u:MT} (h:t.bare=u):encoX t=encoX u:=by
  have h1:checkB t=checkB u:=by rw [← checkB_bareC t,h]
  have h2:encX t=encX u:=by rw [← encX_bare t,h]
  unfold encoX
  rw [h1,h2]
theorem encoX_yes {t:MT} (h:checkB t=true) (h3:(encX t).length≤32768):encoX t=.inl (encX t):=by unfold encoX;rw [if_neg (by rw [h];decide),if_pos h3]
theorem awC_encode {t:MT} (h:t.bare=awT10):encoX t=.inl awC:=by
  rw [encoX_of h,encoX_yes awC_check (by rw [awC_enc];decide),awC_enc]
theorem awC_cells {t:MT} {w:World} (h:t.bare=awT10) (hR:Rep w t):t.c.vn=1∧∃ b o,t.c.va=some ⟨b,o,none⟩∧w.cell? ⟨b,o+4,none⟩=some (.int .i64 (-1)):=by
  have own:=hR.own
  rw [MT.bare_eq] at h
  unfold awT10 bobjC objT at h
  injection h with h1 h2 h3 h4
  have hvn:t.c.vn=1:=by have:=congrArg Cel.vn h1;exact this
  obtain ⟨u,hu⟩:∃ u,t.v=[u]:=by
    match hv:t.v with
    | []=>rw [hv] at h4;cases h4
    | [u]=>exact ⟨u,rfl⟩
    | _::_::_=>rw [hv] at h4;simp at h4
  rw [hu,List.map_cons,List.map_nil] at h4
  have hub:u.bare=awN:=by injection h4
  have hr:=own.vr
  rw [hu,List.map_cons,List.map_nil] at hr
  obtain ⟨b,o,hva,hl⟩:=hr.shape (by rw [flat_len];simp)
  refine ⟨hvn,b,o,hva,?_⟩
  rw [hva] at hr
  have hxx:=flat_at hr 0 (by simp) (c:=u.c) rfl
  obtain ⟨_,_,_,_,x4,_⟩:=hxx
  rw [MT.bare_eq] at hub
  have he:u.c.e = -1:=by unfold awN numT at hub;injection hub with g1;have:=congrArg Cel.e g1;exact this
  rw [he] at x4
  simpa using x4
theorem rd_mark (w:World) (e:TypeId) (vs:List Value) (fz:Nat × Nat):RdV (w.alloc (.cells vs.toArray e fz)) (some ⟨w.heap.size,0,none⟩) vs:=by
  intro i hi
  refine ⟨w.heap.size,0,rfl,by simp,?_⟩
  rw [Nat.zero_add]
  show World.cell? _ _=_
  have:(w.alloc (.cells vs.toArray e fz)).heap[w.heap.size]? = some (.cells vs.toArray e fz):=heap_alloc_new w _
  simp only [World.cell?,this]
  simp
/-- The document's example. -/
theorem awake10_any (w:World) (hU:UT w) (hT:DB w):Calls Tryz.prog 10 #[] w (BoolBelow true w):=by
  have hba:Below w.heap.size w (w.alloc (.cells #[.int .u8 161,.int .u8 97,.int .u8 97,.int .u8 249,.int .u8 62,.int .u8 0] 5 (6,7))):=(Below.refl _ _).alloc (Nat.le_refl _) _
  have kc:=fun (w:World) (C:Array Value) (n c:Nat)=>Lib.run_convert_bytes_const (P:=Tryz.prog) w 22 5 C n c Tryz.underlying22 Tryz.underlying5
  have KD:=Lib.hid (decode_cb (some ⟨w.heap.size,0,none⟩) 6 6 awC _ (hU.below hba) rfl (Nat.le_refl _) (by unfold Okb awC;decide) (rd_mark w 5 [.int .u8 161,.int .u8 97,.int .u8 97,.int .u8 249,.int .u8 62,.int .u8 0] (6,7)) (.inr ⟨_,_,rfl⟩))
  rw [awC_dec] at KD
  have HU:=Lib.hid hU;have HT:=Lib.hid hT;have HBA:=Lib.hid hba
  clear hU hT hba
  unfold DecC at KD
  go_enter Tryz.func10,Tryz.ntmps10
  go_wp2_with fail
  refine KD.out.mono ?_
  rintro r w1 ⟨t,rfl,hbare,hR,hb⟩
  replace hb:=below_on HBA.out hb
  have KE:=Lib.hid (fun W (h:Below w1.heap.size w1 W)=>encode_cb t W (hR.on h) (HU.out.below (hb.trans (h.mono hb.size))) (HT.out.below (hb.trans (h.mono hb.size))))
  rw [awC_encode hbare] at KE
  unfold EnP at KE
  obtain ⟨hvn,vb,vo,hva,hce⟩:=awC_cells hbare hR
  have hvlt:=lt_of_cell hce
  have HB:=Lib.hid hb
  clear hb hR hbare KD
  generalize t.c=c at *
  obtain ⟨k,b0,neg,ma,mn,mc,e,s,ka,kn,kc,va,vn,vc⟩:=c
  unfold Cel.val at *
  simp only at hvn hva
  subst hvn hva
  have hb2:Below w1.heap.size w1 (w1.alloc (.cells #[.int .i64 k,.bool b0,.bool neg,.slice ma mn mc,.int .i64 e,.string s,.slice ka kn kc,.slice (some ⟨vb,vo,none⟩) 1 vc] 29)):=(Below.refl _ _).alloc (Nat.le_refl _) _
  have KE2:=Lib.hid (KE.out _ hb2)
  have HB2:=Lib.hid hb2
  have q2:=heap_alloc_new w1 (.cells #[.int .i64 k,.bool b0,.bool neg,.slice ma mn mc,.int .i64 e,.string s,.slice ka kn kc,.slice (some ⟨vb,vo,none⟩) 1 vc] 29)
  have Q2:=Lib.hid q2
  clear hb2 KE q2
  go_wp2_with fail
  refine KE2.out.mono ?_
  rintro r w3 ⟨v,rfl,ho,hb3⟩
  obtain ⟨ad3,cap3,rfl,hc3,hr3,_,_,h03⟩:=own_viewN ho
  have HCV:=Lib.hid (conv_bv w3 ad3 6 cap3 awC rfl hr3)
  rw [show strB awC=⟨#[161,97,97,249,62,0]⟩ from rfl] at HCV
  have x3:=(hb3.cell (p:=⟨vb,vo+4,none⟩) (by simp;omega)).trans ((HB2.out.cell (p:=⟨vb,vo+4,none⟩) hvlt).trans hce)
  have q3:=(hb3.block _ (by simp)).trans Q2.out
  have HB3:=Lib.hid (HB.out.trans ((HB2.out.trans (hb3.mono HB2.out.size)).mono HB.out.size))
  clear hb3 KE2 ho hr3 h03 hc3 hce
  have y7:=(boxC q3 7 _ rfl).1
  clear q3
  have el:awC.length=6:=rfl
  rw [el]
  go_wp2_with fail
  rw [HCV.out]
  simp only [Result.andThen]
  rw [Oper.upon_value]
  go_wp2_with fail
  go_ret
  exact BoolBelow.mk rfl HB3.out
theorem head_of (c s:Nat) (l:List Nat) (hs:sizeH (c % 32)=some s) (hl:s≤l.length):cbHead (c::l)=.inl ((c / 32,c % 32,if c % 32<24 then c % 32 else natB (l.take s)),l.drop s):=by
  have hg:=getN_in (c::l) 0 c (by simp) rfl
  rw [Int.natCast_zero,hs] at hg
  simp only at hg
  rw [if_neg (by simp only [List.length_cons];omega)] at hg
  unfold cbHead
  rw [hg]
  simp only [if_true]
  congr 2
  · rw [Nat.zero_add,Nat.add_comm,List.drop_succ_cons]
theorem head27 (m:Nat) (l r:List Nat) (hm:m<2) (hl:l.length=8):cbHead ((m*32+27)::(l++r))=.inl ((m,27,natB l),r):=by
  rw [head_of (m*32+27) 8 (l++r) (by rw [show (m*32+27) % 32=27 by omega];rfl) (by simp;omega)]
  rw [show (m*32+27) / 32=m by omega,show (m*32+27) % 32=27 by omega,if_neg (by omega),List.take_append_of_le_length (by omega),List.take_of_length_le (by omega),List.drop_append_of_le_length (by omega),List.drop_of_length_le (by omega),List.nil_append]
theorem head_plain (c:Nat) (r:List Nat) (hc:c % 32<24):cbHead (c::r)=.inl ((c / 32,c % 32,c % 32),r):=by
  rw [head_of c 0 r (by unfold sizeH;rw [if_pos (.inl hc)]) (Nat.zero_le _),if_pos hc,List.drop_zero]
theorem zero_natB (l:List Nat):natB (0::l)=natB l:=by rw [natB_cons];omega
theorem natB_five (k : Nat) (hk : k < 1099511627776) : natB (bytesL k 5) = k := by
  rw [natB_bytesL]
  exact Nat.mod_eq_of_lt (by have : 256 ^ 5 = 1099511627776 := by decide
                             omega)
def inA (m k:Nat):List Nat:=(m*32+27)::0::0::0::bytesL k 5
def inB (m k:Nat):List Nat:=(194+m)::71::0::0::bytesL k 5
def inC (m k:Nat):List Nat:=196::130::0::inA m k
def inD (m k t:Nat):List Nat:=196::130::t::inB m k
theorem headA (m k:Nat) (hm:m<2) (hk:k<1099511627776):cbHead (inA m k)=.inl ((m,27,k),[]):=by
  have:=head27 m (0::0::0::bytesL k 5) [] hm (by simp [bytesL_len])
  rw [List.append_nil] at this
  unfold inA
  rw [this,zero_natB,zero_natB,zero_natB,natB_five k hk]
theorem partA (m k:Nat) (hm:m<2) (hk:k<1099511627776):cbPart 0 1 (inA m k)=.inl ((m,27,k),[]):=by
  have h:=headA m k hm hk
  unfold inA at h ⊢
  unfold cbPart
  simp only
  rw [if_neg (by omega),h]
theorem longB (m k:Nat) (hm:m<2) (hk:k<1099511627776):cbLong (2+m) (71::0::0::bytesL k 5)=.inl ((decide (m=1),k),[]):=by
  unfold cbLong cbPart
  simp only
  rw [if_neg (by omega),head_plain 71 _ (by decide)]
  simp only
  unfold cbText cbPiece
  rw [if_neg (by decide),if_neg (by decide),if_neg (by simp [bytesL_len]),if_neg (fun h=>absurd h.1 (by decide))]
  simp only
  have e:((71 % 32:Nat))=7:=rfl
  rw [e]
  rw [List.take_of_length_le (by simp [bytesL_len]),List.drop_of_length_le (by simp [bytesL_len]),zero_natB,zero_natB,natB_five k hk]
  congr 3
  have:m=0∨m=1:=by omega
  rcases this with rfl | rfl <;> rfl
theorem digitsA (m k:Nat) (hm:m<2) (hk:k<1099511627776):cbDigits (inA m k)=.inl ((decide (m=1),k),[]):=by
  have h:=partA m k hm hk
  unfold inA at h ⊢
  unfold cbDigits
  simp only
  rw [if_neg (by omega),h]
  rfl
theorem digitsB (m k:Nat) (hm:m<2) (hk:k<1099511627776):cbDigits (inB m k)=.inl ((decide (m=1),k),[]):=by
  unfold inB cbDigits
  simp only
  rw [if_pos (by omega),head_plain (194+m) _ (by omega)]
  simp only
  rw [show (194+m) % 32=2+m by omega]
  exact longB m k hm hk
def numK (m k:Nat) (e:Int):MT ⊕ Int:=cbNum (decide (m=1),k) e
theorem decA (m k:Nat) (hm:m<2) (hk:k<1099511627776) {t:MT} (h:numK m k 0=.inl t):cbDecode (inA m k)=.inl t:=by
  have h1:=headA m k hm hk
  unfold numK at h
  have hlen:¬ 32768<(inA m k).length:=by unfold inA;simp [bytesL_len]
  unfold cbDecode
  rw [if_neg hlen]
  unfold inA at h1 ⊢
  rw [cbV_on (by omega) (by decide) h1]
  unfold cbBehind
  rw [if_neg (by simp only;omega),if_neg (by simp only;omega),if_neg (by simp only;omega),if_neg (by simp only;omega),if_neg (by simp only;omega),if_neg (by simp only;omega),if_neg (by simp only;omega)]
  unfold cbWhole
  simp only
  rw [h]
  rfl
theorem decTag (l:List Nat) (c tag:Nat) (r:List Nat) (hl:l=c::r) (hlen:l.length≤100) (hc:c ≠ 255) (h1:cbHead l=.inl ((6,tag,tag),r)) (ht:tag<24) {t:MT} (h:cbTag tag r=.inl (t,[])):cbDecode l=.inl t:=by
  unfold cbDecode
  rw [if_neg (by omega)]
  subst hl
  rw [cbV_on hc (by decide) h1]
  unfold cbBehind
  rw [if_neg (by simp),if_neg (by simp),if_neg (by simp),if_neg (by simp),if_neg (by simp),if_neg (by simp only;omega),if_pos rfl]
  simp only
  rw [h]
  rfl
theorem decB2 (m k:Nat) (hm:m<2) (hk:k<1099511627776) {t:MT} (h:numK m k 0=.inl t):cbDecode (inB m k)=.inl t:=by
  refine decTag _ (194+m) (2+m) _ rfl (by simp [bytesL_len]) (by omega) (by rw [head_plain (194+m) _ (by omega),show (194+m) / 32=6 by omega,show (194+m) % 32=2+m by omega]) (by omega) ?_
  unfold cbTag
  rw [if_pos (by omega),longB m k hm hk]
  simp only
  unfold numK at h
  rw [h]
theorem decDec (l:List Nat) (t0:Nat) (ht0:t0<20) (hl:l.length≤90) {m k:Nat} (hd:cbDigits l=.inl ((decide (m=1),k),[])) {t:MT} (h:numK m k (t0:Int)=.inl t):cbDecode (196::130::t0::l)=.inl t:=by
  refine decTag _ 196 4 _ rfl (by simp;omega) (by decide) (by rw [head_plain 196 _ (by decide)]) (by decide) ?_
  unfold cbTag
  rw [if_neg (by decide),if_pos rfl]
  unfold cbDec
  have p1:cbPart 4 4 (130::t0::l)=.inl ((4,2,2),t0::l):=by
    unfold cbPart;simp only;rw [if_neg (by decide),head_plain 130 _ (by decide)]
  have p2:cbPart 0 1 (t0::l)=.inl ((0,t0,t0),l):=by
    unfold cbPart;simp only;rw [if_neg (by omega),head_plain t0 _ (by omega),show t0 / 32=0 by omega,show t0 % 32=t0 by omega]
  rw [p1]
  simp only
  rw [if_neg (by decide),p2]
  simp only
  rw [hd]
  simp only
  have e:cbTens (0,t0,t0)=(t0:Int):=by rw [tens_not _ _ _ (by decide)];omega
  unfold numK at h
  rw [e,h]
theorem decC (m k:Nat) (hm:m<2) (hk:k<1099511627776) {t:MT} (h:numK m k 0=.inl t):cbDecode (inC m k)=.inl t:=decDec _ 0 (by decide) (by unfold inA;simp [bytesL_len]) (digitsA m k hm hk) h
theorem decD (m k t0:Nat) (hm:m<2) (hk:k<1099511627776) (ht:t0<20) {t:MT} (h:numK m k (t0:Int)=.inl t):cbDecode (inD m k t0)=.inl t:=decDec _ t0 ht (by unfold inB;simp [bytesL_len]) (digitsB m k hm hk) h
end Go.Proofs.YtbkfhdbocgjakaaGreatDoor
namespace Go.Proofs.YtbkfhdbocgjakaaGreatDoor
open Go.RowKit
theorem refNorm_any (ad:Option Addr) (n cap:Nat) (xs:List Nat) (w:World) (hn:xs.length=n) (hcap:n≤cap) (hm:n≤100000000) (ho:Okl xs) (hr:Rd w ad xs) :
    Calls Tryz.prog 58 #[.slice ad n cap] w (Gives (val xs) w):=by
  have hcl:=cutLen_le xs n
  have hcv:=cut_limbs ho
  rw [hn] at hcv
  have hr':=hr.take (cutLen xs n)
  have hlc:(xs.take (cutLen xs n)).length=cutLen xs n:=by rw [List.length_take];omega
  have hot:=ho.take (cutLen xs n)
  have HN:=Lib.hid hn;clear hn
  have HF:Hid (∀ v w1,Own w.heap.size w1 v ([]++xs.take (cutLen xs n))→Below w.heap.size w w1→Gives (val xs) w (.returned v) w1):=fun v w1 h1 h2=>⟨v,rfl,by rw [← hcv];simpa using h1,h2⟩
  clear hcv
  have HC:=Lib.hid (rfl:cutLen xs n=cutLen xs n)
  generalize hc0:cutLen xs n=c at *
  have HC0:=Lib.hid hc0;clear hc0 HC
  generalize hY:xs.take c=Y at *
  clear hY
  have HLC:=Lib.hid hlc;clear hlc
  go_enter Tryz.func58,Tryz.ntmps58
  go_wp2
  go_loop [3] (fun i=>∃ k:Nat,k≤n∧i=.int .i64 k∧cutLen xs k=c) (fun i=>(intOf i).toNat)
  case atStart=>exact ⟨n,Nat.le_refl _,rfl,HC0.out⟩
  case round =>
    obtain ⟨k,hk,rfl,he⟩:=hrel
    have HE:=Lib.hid he;clear he
    rcases k with _ | k
    · have h0:c=0:=by rw [← HE.out];rfl
      subst h0
      go_wp2_with (at_builtin;refine wpl_append_rd rfl _ _ rfl w.heap.size _ [] rfl (Own.nil _ _) _ _ _ Y rfl hot HLC.out hr' (by simp) (Nat.le_refl _) ?_;intro v' w' hv hb)
      go_ret
      exact HF.out _ _ hv hb
    · obtain ⟨b,o,hadd,_,hc⟩:=hr k (by rw [HN.out];omega)
      subst hadd
      generalize hx:xs.getD k 0=x at *
      have HX:=Lib.hid hx;clear hx
      by_cases hz:x=0
      · go_wp2
        go_round
        case rel=>exact ⟨k,by omega,rfl,by rw [← HE.out];simp only [cutLen];rw [if_pos (by rw [HX.out];exact hz)]⟩
        case measure=>simp [intOf]
      · have h0:c=k+1:=by rw [← HE.out];simp only [cutLen];rw [if_neg (by rw [HX.out];exact hz)]
        subst h0
        go_wp2_with (at_builtin;refine wpl_append_rd rfl _ _ rfl w.heap.size _ [] rfl (Own.nil _ _) _ _ _ Y rfl hot HLC.out hr' (by simp;omega) (Nat.le_refl _) ?_;intro v' w' hv hb)
        go_ret
        exact HF.out _ _ hv hb
def SMRel (g n:Nat) (xs:List Nat) (d:Nat) (w1:World) (c i:Value) (wr:World):Prop :=
  ∃ (k q:Nat) (zs:List Nat),k≤n∧i=.int .i64 ((k:Int) - 1)∧c=.int .u64 (q:Int)∧q<d∧zs.length=n∧Okl zs∧val (zs.drop k)*d+q=val (xs.drop k)∧wr=put g zs [] w1
def SmallPost (N d:Nat) (w:World) (e:Ending) (w':World):Prop :=
  ∃ v,e=.returned (.tuple #[v,.int .u32 ((N % d:Nat):Int)])∧Own w.heap.size w' v (limbs (N / d))∧Below w.heap.size w w'
theorem sm_step {g n d j q x:Nat} {xs zs:List Nat} {w1:World} (hl:zs.length=n) (hn:xs.length=n) (hj:j+1≤n) (hd:d<B32) (hd0:0<d) (hq:q<d) (hoz:Okl zs) (hx:xs.getD j 0=x) (hxb:x<B32)
    (he:val (zs.drop (j+1))*d+q=val (xs.drop (j+1))) (hb:Blk w1 g (List.replicate n 0) []) :
    SMRel g n xs d w1 (.int .u64 ((wd q x % d:Nat):Int)) (.int .i64 ((j:Int) - 1)) ((put g zs [] w1).setCell ⟨g,j,none⟩ (.int .u32 ((wd q x / d:Nat):Int))):=by
  have hql:wd q x / d<B32:=by
    rw [Nat.div_lt_iff_lt_mul hd0];unfold wd
    have:(q+1)*B32≤d*B32:=Nat.mul_le_mul_right _ hq
    rw [Nat.add_mul,Nat.one_mul] at this
    rw [Nat.mul_comm B32 d];omega
  have hml:wd q x % d<d:=Nat.mod_lt _ hd0
  rw [set_blk (put_blk _ _ hb.lt) _ _ (by omega),put_put]
  refine ⟨j,_,zs.set j (wd q x / d),by omega,rfl,rfl,hml,by rw [List.length_set];exact hl,hoz.set _ _ hql,?_,rfl⟩
  rw [val_drop_succ _ j (by rw [List.length_set];omega),val_drop_succ xs j (by omega),hx,List.drop_set_of_lt (by omega)]
  have e3:(zs.set j (wd q x / d)).getD j 0=wd q x / d:=by simp [List.getD,show j<zs.length by omega]
  rw [e3]
  exact sh_num he (Nat.div_add_mod _ _)
theorem refSmall_any (ad:Option Addr) (n cap:Nat) (xs:List Nat) (d:Nat) (w:World) (hn:xs.length=n) (hcap:n≤cap) (hm:n≤100000000) (ho:Okl xs) (hr:Rd w ad xs) (hd:d<B32) (hd0:0<d) :
    Calls Tryz.prog 59 #[.slice ad n cap,.int .u32 (d:Int)] w (SmallPost (val xs) d w):=by
  have HN:=Lib.hid hn;clear hn
  have hd':=hd
  rw [B32_eq] at hd'
  have hd0':¬ ((d:Int)=0):=by omega
  go_enter Tryz.func59,Tryz.ntmps59
  go_wp2_with (at_make;refine wpl_make _ rfl _ _ rfl _ _ _ _ n rfl rfl rfl rfl (by omega) ?_;intro w1 hB1 hb1)
  have hg1:=hr.apart (Nat.le_refl w.heap.size)
  have hr1:=hr.below hb1
  go_loopw [7,8] (fun c i wr=>SMRel w.heap.size n xs d w1 c i wr) (fun _ i _=>(intOf i+1).toNat)
  case atStart=>exact ⟨n,0,List.replicate n 0,Nat.le_refl _,by go_num,rfl,hd0,by simp,Okl.replicate n,by rw [List.drop_of_length_le (by simp),List.drop_of_length_le (by rw [HN.out];exact Nat.le_refl _)];simp [val],(put_same hB1).symm⟩
  case round =>
    obtain ⟨k,q,zs,hk,rfl,rfl,hq,hl,hoz,he,rfl⟩:=hrel
    have HL:=Lib.hid hl;clear hl
    have HE:=Lib.hid he;clear he
    have hbz:Blk (put w.heap.size zs [] w1) w.heap.size zs []:=put_blk _ _ hB1.lt
    rcases k with _ | j
    · have hv:=HE.out
      simp only [List.drop_zero] at hv
      have hdv:val xs / d=val zs:=by rw [← hv,Nat.mul_comm,Nat.mul_add_div hd0,Nat.div_eq_of_lt hq,Nat.add_zero]
      have hmd:val xs % d=q:=by rw [← hv,Nat.mul_comm,Nat.mul_add_mod,Nat.mod_eq_of_lt hq]
      have HD:=Lib.hid hdv;clear hdv
      have HM:=Lib.hid hmd;clear hmd hv
      have hbl:Below w.heap.size w (put w.heap.size zs [] w1):=put_below hb1 (Nat.le_refl _) _ _
      have KN:=Lib.hid (refNorm_any (some ⟨w.heap.size,0,none⟩) n n zs _ HL.out (Nat.le_refl _) hm hoz hbz.rd_all)
      have hq':q<4294967296:=by omega
      rw [show (((0:Nat):Int) - 1) = -1 from rfl]
      have HBL:=Lib.hid hbl;clear hbl
      generalize put w.heap.size zs [] w1=W at *
      go_wp2_with fail
      refine KN.out.mono ?_
      rintro e w' ⟨v,rfl,hv,hb'⟩
      go_wp2
      go_ret2
      exact ⟨v,by rw [HM.out];rfl,by rw [HD.out];exact hv.mono HBL.out.size,below_on HBL.out hb'⟩
    · rw [show (((j+1:Nat):Int) - 1)=(j:Int) by omega]
      obtain ⟨b,o,rfl,hblt,hc⟩:=(hr1.put (g:=w.heap.size) hg1 zs []) j (by rw [HN.out];omega)
      have hcz:=hbz.cell j (by rw [HL.out];omega)
      have hfz:=hbz.free j
      have hxb:=ho.getD j
      generalize hx:xs.getD j 0=x at *
      have R:=Lib.hid (sm_step (g:=w.heap.size) (w1:=w1) HL.out HN.out hk hd hd0 hq hoz hx hxb HE.out hB1)
      clear hx
      have hq':q<4294967296:=by omega
      have hwl:=wd_lt (Nat.lt_trans hq hd) hxb
      have hwd:(q:Int)*4294967296+(x:Int)=((wd q x:Nat):Int):=by unfold wd;rw [B32_eq];omega
      have hqb:wd q x / d<4294967296:=by
        have:wd q x / d<B32:=by
          rw [Nat.div_lt_iff_lt_mul hd0];unfold wd
          have:(q+1)*B32≤d*B32:=Nat.mul_le_mul_right _ hq
          rw [Nat.add_mul,Nat.one_mul] at this
          rw [Nat.mul_comm B32 d];omega
        rwa [B32_eq] at this
      rw [B32_eq] at hxb
      generalize wd q x=D at *
      have hml:D % d<4294967296:=by have:=Nat.mod_lt D hd0;omega
      go_wp2
      go_roundw
      case rel =>
        have e1:IntKind.u64.wrap ((D:Int) / (d:Int)) % 4294967296=((D / d:Nat):Int):=by
          rw [← Int.natCast_ediv]
          generalize D / d=Q at *
          rw [IntWalk.u64_in _ (by omega)];omega
        rw [e1];exact R.out
      case measure=>simp [intOf]
end Go.Proofs.YtbkfhdbocgjakaaGreatDoor
