/- Texts of the claim. -/
import Derived.Test.YtnacbakcalcgaaaGreatDoorEG
import Derived.Defers
import Derived.Recover
import Derived.Test.YtnacbakcalcgaaaGreatDoorEk
set_option linter.unusedVariables false
set_option linter.unusedSimpArgs false
set_option maxHeartbeats 8000000
set_option maxRecDepth 100000
namespace Go.Proofs.YtnacbakcalcgaaaGreatDoor
open Go.RowKit Go.Lib Go.Sort
theorem assert_errnoC (x:Int) (W:World):(Instr.typeAssert (.iface 32 (.int .i64 x)) 20 32 false).run Tryz.prog W=.ok (.int .i64 x) W:=by kernel_rfl
/-- The closure that catches: what was thrown becomes the answer. -/
theorem catch_thrownC (g h : Nat) (v0 v1 v2 v3 v4 v5 v6 v7 u : Value) (x : Int) (older : List PanicEntry) (w : World) (n1 : g ≠ h)
    (c0 : w.cell? ⟨g, 0, none⟩ = some v0) (f0 : w.frozen? ⟨g, 0, none⟩ = false)
    (c1 : w.cell? ⟨g, 1, none⟩ = some v1) (f1 : w.frozen? ⟨g, 1, none⟩ = false)
    (c2 : w.cell? ⟨g, 2, none⟩ = some v2) (f2 : w.frozen? ⟨g, 2, none⟩ = false)
    (c3 : w.cell? ⟨g, 3, none⟩ = some v3) (f3 : w.frozen? ⟨g, 3, none⟩ = false)
    (c4 : w.cell? ⟨g, 4, none⟩ = some v4) (f4 : w.frozen? ⟨g, 4, none⟩ = false)
    (c5 : w.cell? ⟨g, 5, none⟩ = some v5) (f5 : w.frozen? ⟨g, 5, none⟩ = false)
    (c6 : w.cell? ⟨g, 6, none⟩ = some v6) (f6 : w.frozen? ⟨g, 6, none⟩ = false)
    (c7 : w.cell? ⟨g, 7, none⟩ = some v7) (f7 : w.frozen? ⟨g, 7, none⟩ = false)
    (ch : w.cell? ⟨h, 0, none⟩ = some u) (fh : w.frozen? ⟨h, 0, none⟩ = false) :
    CallsD Tryz.prog 40 #[.pointer (some ⟨g, 0, none⟩), .pointer (some ⟨h, 0, none⟩)] (.panicking ({ v := .iface 32 (.int .i64 x), recovered := false } :: older)) w fun e u' w' =>
      e = .returned (.tuple #[]) ∧ u' = .panicking ({ v := .iface 32 (.int .i64 x), recovered := true } :: older) ∧
        w' = (((((((((w.setCell ⟨g, 0, none⟩ (.int .i64 0)).setCell ⟨g, 1, none⟩ (.bool false)).setCell ⟨g, 2, none⟩ (.bool false)).setCell ⟨g, 3, none⟩ (.slice none 0 0)).setCell ⟨g, 4, none⟩ (.int .i64 0)).setCell ⟨g, 5, none⟩ (.string ⟨#[]⟩)).setCell ⟨g, 6, none⟩ (.slice none 0 0)).setCell ⟨g, 7, none⟩ (.slice none 0 0)).setCell ⟨h, 0, none⟩ (.int .i64 x)).drew := by
  refine callsD_of_wpS Tryz.func40 rfl fun c₀ cs hu => ?_
  apply wpS_seq
  apply wpS_region
  simp [wpOpsS, go_sem, recoverD, hu, Tryz.ntmps40, Exit.thenS]
  apply wpS_seq
  apply wpS_region
  simp [wpOpsS, go_sem, Exit.thenS]
  refine wpS_cond (t := true) (by simp [Act.eval, Array.replicate]) ?_
  simp only [if_true]
  refine wpS_of_wp ?_
  change Code.wp _ _ _ { tmps := #[.pointer (some ⟨g, 0, none⟩), .pointer (some ⟨h, 0, none⟩), .iface 32 (.int .i64 x), .iface 32 (.int .i64 x), .iface 32 (.int .i64 x), .bool true, undef, undef, undef], defers := [] } w
  have hne1 : ¬ h = g := fun hh => n1 hh.symm
  have hta := assert_errnoC x
  go_region
  exact ⟨rfl, _, rfl, .tuple #[], by simp [results, Tryz.results40, go_sem], rfl, rfl, rfl⟩
theorem catch_idleC (p q:Addr) (w:World) :
    CallsD Tryz.prog 40 #[.pointer (some p),.pointer (some q)] .returning w fun e u' w'=>e=.returned (.tuple #[])∧u'=.returning∧w'=w:=by
  refine callsD_of_wpS Tryz.func40 rfl fun c₀ cs hu=>?_
  apply wpS_seq
  apply wpS_region
  simp [wpOpsS,go_sem,recoverD,hu,Tryz.ntmps40,Exit.thenS]
  apply wpS_seq
  apply wpS_region
  simp [wpOpsS,go_sem,Exit.thenS]
  refine wpS_cond (t:=false) (by simp [Act.eval,Array.replicate]) ?_
  simp only [Bool.false_eq_true,if_false]
  refine wpS_of_wp (wp_skip ?_)
  cases c₀
  simp_all [bodyPostS,results,Tryz.results40]
def DecC (r:MT ⊕ Int) (w:World) (e:Ending) (w':World):Prop :=
  match r with
  | .inl t=>∃ t':MT,e=.returned (.tuple #[t'.c.val,.int .i64 0])∧t'.bare=t∧Rep w' t'∧Below w.heap.size w w'
  | .inr x=>e=.returned (.tuple #[.agg #[.int .i64 0,.bool false,.bool false,.slice none 0 0,.int .i64 0,.string ⟨#[]⟩,.slice none 0 0,.slice none 0 0],.int .i64 x])∧Below w.heap.size w w'
theorem DecC.no {r:MT ⊕ Int} {w w':World} {e:Ending} {x:Int} (h:r=.inr x) (he:e=.returned (.tuple #[.agg #[.int .i64 0,.bool false,.bool false,.slice none 0 0,.int .i64 0,.string ⟨#[]⟩,.slice none 0 0,.slice none 0 0],.int .i64 x])) (hb:Below w.heap.size w w'):DecC r w e w':=by
  subst h;exact ⟨he,hb⟩
theorem decode_longC (ad:Option Addr) (n cap:Nat) (w:World) (hbig:32768<n) :
    Calls Tryz.prog 16 #[.slice ad n cap] w (DecC (.inr 4) w):=by
  have hmf:∀ (fn:Fn) (first cap:Array Value) (w:World),(Instr.makeFunc fn first cap).run Tryz.prog w=.ok (.func fn first cap) w:=fun _ _ _ _=>rfl
  generalize hW:(w.alloc (.cells #[.int .i64 0,.bool false,.bool false,.slice none 0 0,.int .i64 0,.string ⟨#[]⟩,.slice none 0 0,.slice none 0 0] 29)).alloc (.cells #[.int .i64 0] 32)=W
  have hb0:Below w.heap.size w W:=by
    rw [← hW];exact ((Below.refl _ _).alloc (Nat.le_refl _) _).alloc (by simp) _
  have q0:W.heap[w.heap.size]? = some (.cells #[.int .i64 0,.bool false,.bool false,.slice none 0 0,.int .i64 0,.string ⟨#[]⟩,.slice none 0 0,.slice none 0 0] 29):=by rw [← hW];exact (Below.heap_alloc _ _ _ (by simp)).trans (heap_alloc_new w _)
  have q1:W.heap[w.heap.size+1]? = some (.cells #[.int .i64 0] 32):=by
    rw [← hW];have:=heap_alloc_new (w.alloc (.cells #[.int .i64 0,.bool false,.bool false,.slice none 0 0,.int .i64 0,.string ⟨#[]⟩,.slice none 0 0,.slice none 0 0] 29)) (.cells #[.int .i64 0] 32);simpa using this
  have a0:World.cell? W ⟨w.heap.size,0,none⟩=some (.int .i64 0):=cellOf q0 0 rfl
  have af0:=freeOf q0 0
  have a1:World.cell? W ⟨w.heap.size,1,none⟩=some (.bool false):=cellOf q0 1 rfl
  have af1:=freeOf q0 1
  have a2:World.cell? W ⟨w.heap.size,2,none⟩=some (.bool false):=cellOf q0 2 rfl
  have af2:=freeOf q0 2
  have a3:World.cell? W ⟨w.heap.size,3,none⟩=some (.slice none 0 0):=cellOf q0 3 rfl
  have af3:=freeOf q0 3
  have a4:World.cell? W ⟨w.heap.size,4,none⟩=some (.int .i64 0):=cellOf q0 4 rfl
  have af4:=freeOf q0 4
  have a5:World.cell? W ⟨w.heap.size,5,none⟩=some (.string ⟨#[]⟩):=cellOf q0 5 rfl
  have af5:=freeOf q0 5
  have a6:World.cell? W ⟨w.heap.size,6,none⟩=some (.slice none 0 0):=cellOf q0 6 rfl
  have af6:=freeOf q0 6
  have a7:World.cell? W ⟨w.heap.size,7,none⟩=some (.slice none 0 0):=cellOf q0 7 rfl
  have af7:=freeOf q0 7
  have b0:W.cell? ⟨w.heap.size+1,0,none⟩=some (.int .i64 0):=cellOf q1 0 rfl
  have bf0:=freeOf q1 0
  have hgt:decide ((32768:Int)<(n:Int))=true:=decide_eq_true (by omega)
  have HB:=Lib.hid hb0
  have hW2:=Lib.hid hW
  clear hW hb0 q0 q1
  go_enter_defers Tryz.func16,Tryz.ntmps16
  go_wp2_with fail
  rw [hW2.out]
  go_wp2
  refine leaves_cons (f:=40) (args:=#[.pointer (some ⟨w.heap.size,0,none⟩),.pointer (some ⟨w.heap.size+1,0,none⟩)]) (by simp) (by simp [go_sem]) ?_
  refine (catch_thrownC w.heap.size (w.heap.size+1) _ _ _ _ _ _ _ _ _ 4 [] _ (by omega) a0 af0 a1 af1 a2 af2 a3 af3 a4 af4 a5 af5 a6 af6 a7 af7 b0 bf0).mono ?_
  rintro e u' w'' ⟨rfl,rfl,rfl⟩
  simp [Leaves,settle,results,Tryz.results16,go_sem,a0,a1,a2,a3,a4,a5,a6,a7,b0]
  exact DecC.no rfl rfl ((((((((((HB.out.setCell (by simp) _).setCell (by simp) _).setCell (by simp) _).setCell (by simp) _).setCell (by simp) _).setCell (by simp) _).setCell (by simp) _).setCell (by simp) _).setCell (by simp) _).drew)
def finC (R:RC MT):MT ⊕ Int:=match R with
  | .inr x=>.inr x
  | .inl (t,r,_)=>if r=[] then .inl t else .inr 2
theorem decode_shortC (ad:Option Addr) (n cap:Nat) (l:List Nat) (w:World) (hln:l.length=n) (hl:n≤32768) (hc:n≤cap) (hok:Okb l) (hr:RdV w ad (bc l)) (hsh:Shp ad cap) (R:RC MT)
    (hV:∀ W,RdC w (w.heap.size+1+1) l 0 0 W→Calls Tryz.prog 41 #[.pointer (some ⟨(w.heap.size+1+1),0,none⟩)] W (ValV w (w.heap.size+1+1) 0 R W)) :
    Calls Tryz.prog 16 #[.slice ad n cap] w (DecC (finC R) w):=by
  have hmf:∀ (fn:Fn) (first cap:Array Value) (w:World),(Instr.makeFunc fn first cap).run Tryz.prog w=.ok (.func fn first cap) w:=fun _ _ _ _=>rfl
  generalize hW:((w.alloc (.cells #[.int .i64 0,.bool false,.bool false,.slice none 0 0,.int .i64 0,.string ⟨#[]⟩,.slice none 0 0,.slice none 0 0] 29)).alloc (.cells #[.int .i64 0] 32)).alloc (.cells #[.slice ad n cap,.int .i64 0,.int .i64 0] 67)=W
  have hb0:Below w.heap.size w W:=by
    rw [← hW];exact (((Below.refl _ _).alloc (Nat.le_refl _) _).alloc (by simp) _).alloc (by simp;omega) _
  have hsW:W.heap.size=w.heap.size+3:=by rw [← hW];simp
  have q0:W.heap[w.heap.size]? = some (.cells #[.int .i64 0,.bool false,.bool false,.slice none 0 0,.int .i64 0,.string ⟨#[]⟩,.slice none 0 0,.slice none 0 0] 29):=by
    rw [← hW];exact ((Below.heap_alloc _ _ _ (by simp;omega)).trans (Below.heap_alloc _ _ _ (by simp))).trans (heap_alloc_new w _)
  have q1:W.heap[w.heap.size+1]? = some (.cells #[.int .i64 0] 32):=by
    rw [← hW]
    refine (Below.heap_alloc _ _ _ (by simp)).trans ?_
    have:=heap_alloc_new (w.alloc (.cells #[.int .i64 0,.bool false,.bool false,.slice none 0 0,.int .i64 0,.string ⟨#[]⟩,.slice none 0 0,.slice none 0 0] 29)) (.cells #[.int .i64 0] 32);simpa using this
  have q2:RdC w (w.heap.size+1+1) l 0 0 W:=by
    refine ⟨by omega,hb0,hok,by omega,ad,cap,?_,by omega,hr,hsh⟩
    rw [← hW,hln]
    have:=heap_alloc_new ((w.alloc (.cells #[.int .i64 0,.bool false,.bool false,.slice none 0 0,.int .i64 0,.string ⟨#[]⟩,.slice none 0 0,.slice none 0 0] 29)).alloc (.cells #[.int .i64 0] 32)) (.cells #[.slice ad n cap,.int .i64 0,.int .i64 0] 67)
    simpa using this
  have KV:=Lib.hid (hV W q2)
  have hgt:¬ 32768<n:=by omega
  have HB:=Lib.hid hb0
  have Q0:=Lib.hid q0;have Q1:=Lib.hid q1
  have hW2:=Lib.hid hW
  clear hW hb0 q0 q1 q2 hV hr hsh hok hln
  go_enter_defers Tryz.func16,Tryz.ntmps16
  go_wp2_with fail
  rw [hW2.out]
  refine KV.out.mono ?_
  intro r w1 hp
  unfold ValV at hp
  cases R with
  | inr y =>
    obtain ⟨rfl,la,da,na,h2⟩:=hp
    have p0:=(h2.oth.block w.heap.size (by omega) (by omega)).trans Q0.out
    have p1:=(h2.oth.block (w.heap.size+1) (by omega) (by omega)).trans Q1.out
    have HB1:Hid (Below w.heap.size w w1):=Lib.hid (HB.out.trans (h2.oth.below (by omega) (by omega)))
    have a0:World.cell? w1 ⟨w.heap.size,0,none⟩=some (.int .i64 0):=cellOf p0 0 rfl
    have af0:=freeOf p0 0
    have a1:World.cell? w1 ⟨w.heap.size,1,none⟩=some (.bool false):=cellOf p0 1 rfl
    have af1:=freeOf p0 1
    have a2:World.cell? w1 ⟨w.heap.size,2,none⟩=some (.bool false):=cellOf p0 2 rfl
    have af2:=freeOf p0 2
    have a3:World.cell? w1 ⟨w.heap.size,3,none⟩=some (.slice none 0 0):=cellOf p0 3 rfl
    have af3:=freeOf p0 3
    have a4:World.cell? w1 ⟨w.heap.size,4,none⟩=some (.int .i64 0):=cellOf p0 4 rfl
    have af4:=freeOf p0 4
    have a5:World.cell? w1 ⟨w.heap.size,5,none⟩=some (.string ⟨#[]⟩):=cellOf p0 5 rfl
    have af5:=freeOf p0 5
    have a6:World.cell? w1 ⟨w.heap.size,6,none⟩=some (.slice none 0 0):=cellOf p0 6 rfl
    have af6:=freeOf p0 6
    have a7:World.cell? w1 ⟨w.heap.size,7,none⟩=some (.slice none 0 0):=cellOf p0 7 rfl
    have af7:=freeOf p0 7
    have b0:w1.cell? ⟨w.heap.size+1,0,none⟩=some (.int .i64 0):=cellOf p1 0 rfl
    have bf0:=freeOf p1 0
    clear p0 p1 h2 KV
    go_wp2
    refine leaves_cons (f:=40) (args:=#[.pointer (some ⟨w.heap.size,0,none⟩),.pointer (some ⟨w.heap.size+1,0,none⟩)]) (by simp) (by simp [go_sem]) ?_
    refine (catch_thrownC w.heap.size (w.heap.size+1) _ _ _ _ _ _ _ _ _ y [] _ (by omega) a0 af0 a1 af1 a2 af2 a3 af3 a4 af4 a5 af5 a6 af6 a7 af7 b0 bf0).mono ?_
    rintro e u' w'' ⟨rfl,rfl,rfl⟩
    simp [Leaves,settle,results,Tryz.results16,go_sem,a0,a1,a2,a3,a4,a5,a6,a7,b0]
    exact DecC.no rfl rfl ((((((((((HB1.out.setCell (by simp) _).setCell (by simp) _).setCell (by simp) _).setCell (by simp) _).setCell (by simp) _).setCell (by simp) _).setCell (by simp) _).setCell (by simp) _).setCell (by simp) _).drew)
  | inl p =>
    obtain ⟨t,l2,n2⟩:=p
    obtain ⟨t',rfl,hbare,hi,h2⟩:=hp
    have p0:=(h2.oth.block w.heap.size (by omega) (by omega)).trans Q0.out
    have p1:=(h2.oth.block (w.heap.size+1) (by omega) (by omega)).trans Q1.out
    have HS:Hid (StC w (w.heap.size+1+1) l2 0 n2 w w1):=Lib.hid ⟨(But.of_below HB.out).trans h2.oth,h2.rd⟩
    have HM:=Lib.hid hbare
    obtain ⟨⟨k,b,neg,ma,mn,mc,x,s,ka,kn,kc,va,vn,vc⟩,M,K,V⟩:=t'
    dsimp only [MT.c,Cel.val]
    have a0:World.cell? w1 ⟨w.heap.size,0,none⟩=some (.int .i64 0):=cellOf p0 0 rfl
    have af0:=freeOf p0 0
    have a1:World.cell? w1 ⟨w.heap.size,1,none⟩=some (.bool false):=cellOf p0 1 rfl
    have af1:=freeOf p0 1
    have a2:World.cell? w1 ⟨w.heap.size,2,none⟩=some (.bool false):=cellOf p0 2 rfl
    have af2:=freeOf p0 2
    have a3:World.cell? w1 ⟨w.heap.size,3,none⟩=some (.slice none 0 0):=cellOf p0 3 rfl
    have af3:=freeOf p0 3
    have a4:World.cell? w1 ⟨w.heap.size,4,none⟩=some (.int .i64 0):=cellOf p0 4 rfl
    have af4:=freeOf p0 4
    have a5:World.cell? w1 ⟨w.heap.size,5,none⟩=some (.string ⟨#[]⟩):=cellOf p0 5 rfl
    have af5:=freeOf p0 5
    have a6:World.cell? w1 ⟨w.heap.size,6,none⟩=some (.slice none 0 0):=cellOf p0 6 rfl
    have af6:=freeOf p0 6
    have a7:World.cell? w1 ⟨w.heap.size,7,none⟩=some (.slice none 0 0):=cellOf p0 7 rfl
    have af7:=freeOf p0 7
    have HS8:Hid (StC w (w.heap.size+1+1) l2 0 n2 w ((((((((w1.setCell ⟨w.heap.size,0,none⟩ (.int .i64 k)).setCell ⟨w.heap.size,1,none⟩ (.bool b)).setCell ⟨w.heap.size,2,none⟩ (.bool neg)).setCell ⟨w.heap.size,3,none⟩ (.slice ma mn mc)).setCell ⟨w.heap.size,4,none⟩ (.int .i64 x)).setCell ⟨w.heap.size,5,none⟩ (.string s)).setCell ⟨w.heap.size,6,none⟩ (.slice ka kn kc)).setCell ⟨w.heap.size,7,none⟩ (.slice va vn vc))):=Lib.hid ((((((((HS.out.fresh (Nat.le_refl _) (by omega) (Nat.le_refl _) _ _).fresh (Nat.le_refl _) (by omega) (Nat.le_refl _) _ _).fresh (Nat.le_refl _) (by omega) (Nat.le_refl _) _ _).fresh (Nat.le_refl _) (by omega) (Nat.le_refl _) _ _).fresh (Nat.le_refl _) (by omega) (Nat.le_refl _) _ _).fresh (Nat.le_refl _) (by omega) (Nat.le_refl _) _ _).fresh (Nat.le_refl _) (by omega) (Nat.le_refl _) _ _).fresh (Nat.le_refl _) (by omega) (Nat.le_refl _) _ _)
    have hP0:((((((((w1.setCell ⟨w.heap.size,0,none⟩ (.int .i64 k)).setCell ⟨w.heap.size,1,none⟩ (.bool b)).setCell ⟨w.heap.size,2,none⟩ (.bool neg)).setCell ⟨w.heap.size,3,none⟩ (.slice ma mn mc)).setCell ⟨w.heap.size,4,none⟩ (.int .i64 x)).setCell ⟨w.heap.size,5,none⟩ (.string s)).setCell ⟨w.heap.size,6,none⟩ (.slice ka kn kc)).setCell ⟨w.heap.size,7,none⟩ (.slice va vn vc)).heap[w.heap.size]? = some (.cells #[.int .i64 k,.bool b,.bool neg,.slice ma mn mc,.int .i64 x,.string s,.slice ka kn kc,.slice va vn vc] 29):=by simp [World.setCell,Array.getElem?_modify,p0]
    have hP1:((((((((w1.setCell ⟨w.heap.size,0,none⟩ (.int .i64 k)).setCell ⟨w.heap.size,1,none⟩ (.bool b)).setCell ⟨w.heap.size,2,none⟩ (.bool neg)).setCell ⟨w.heap.size,3,none⟩ (.slice ma mn mc)).setCell ⟨w.heap.size,4,none⟩ (.int .i64 x)).setCell ⟨w.heap.size,5,none⟩ (.string s)).setCell ⟨w.heap.size,6,none⟩ (.slice ka kn kc)).setCell ⟨w.heap.size,7,none⟩ (.slice va vn vc)).heap[w.heap.size+1]? = some (.cells #[.int .i64 0] 32):=by
      have hne:w.heap.size+1 ≠ w.heap.size:=by omega
      rw [set_otherC hne,set_otherC hne,set_otherC hne,set_otherC hne,set_otherC hne,set_otherC hne,set_otherC hne,set_otherC hne];exact p1
    have HI8:Hid (Ind (fun k=>k<W.heap.size) ((((((((w1.setCell ⟨w.heap.size,0,none⟩ (.int .i64 k)).setCell ⟨w.heap.size,1,none⟩ (.bool b)).setCell ⟨w.heap.size,2,none⟩ (.bool neg)).setCell ⟨w.heap.size,3,none⟩ (.slice ma mn mc)).setCell ⟨w.heap.size,4,none⟩ (.int .i64 x)).setCell ⟨w.heap.size,5,none⟩ (.string s)).setCell ⟨w.heap.size,6,none⟩ (.slice ka kn kc)).setCell ⟨w.heap.size,7,none⟩ (.slice va vn vc)) (fun W=>Rep W (.mk ⟨k,b,neg,ma,mn,mc,x,s,ka,kn,kc,va,vn,vc⟩ M K V))):=Lib.hid (hi.to (by simp [World.setCell]) (fun j hj hx=>by
      have hx':¬ j<W.heap.size:=hx
      have hne:j ≠ w.heap.size:=by omega
      rw [set_otherC hne,set_otherC hne,set_otherC hne,set_otherC hne,set_otherC hne,set_otherC hne,set_otherC hne,set_otherC hne]) (fun _ _ h=>h) (fun _ h=>h))
    obtain ⟨ad2,cap2,c0,_,_,_⟩:=HS8.out.rd.cell
    replace c0:=cellOf c0 0 rfl
    obtain ⟨ln2,hln2⟩:∃ ln2,l2.length=ln2:=⟨_,rfl⟩
    rw [hln2] at c0
    have HL2:=Lib.hid hln2
    have HP0:=Lib.hid hP0;have HP1:=Lib.hid hP1;have HQ0:=Lib.hid p0
    clear h2 KV hi hbare HS hln2 hP0 hP1 p0 p1
    clear a0 a1 a2 a3 a4 a5 a6 a7 af0 af1 af2 af3 af4 af5 af6 af7
    have a0:World.cell? w1 ⟨w.heap.size,0,none⟩=some (.int .i64 0):=cellOf HQ0.out 0 rfl
    have af0:=freeOf HQ0.out 0
    have a1:World.cell? w1 ⟨w.heap.size,1,none⟩=some (.bool false):=cellOf HQ0.out 1 rfl
    have af1:=freeOf HQ0.out 1
    have a2:World.cell? w1 ⟨w.heap.size,2,none⟩=some (.bool false):=cellOf HQ0.out 2 rfl
    have af2:=freeOf HQ0.out 2
    have a3:World.cell? w1 ⟨w.heap.size,3,none⟩=some (.slice none 0 0):=cellOf HQ0.out 3 rfl
    have af3:=freeOf HQ0.out 3
    have a4:World.cell? w1 ⟨w.heap.size,4,none⟩=some (.int .i64 0):=cellOf HQ0.out 4 rfl
    have af4:=freeOf HQ0.out 4
    have a5:World.cell? w1 ⟨w.heap.size,5,none⟩=some (.string ⟨#[]⟩):=cellOf HQ0.out 5 rfl
    have af5:=freeOf HQ0.out 5
    have a6:World.cell? w1 ⟨w.heap.size,6,none⟩=some (.slice none 0 0):=cellOf HQ0.out 6 rfl
    have af6:=freeOf HQ0.out 6
    have a7:World.cell? w1 ⟨w.heap.size,7,none⟩=some (.slice none 0 0):=cellOf HQ0.out 7 rfl
    have af7:=freeOf HQ0.out 7
    go_upto_region 6 with fail
    generalize ((((((((w1.setCell ⟨w.heap.size,0,none⟩ (.int .i64 k)).setCell ⟨w.heap.size,1,none⟩ (.bool b)).setCell ⟨w.heap.size,2,none⟩ (.bool neg)).setCell ⟨w.heap.size,3,none⟩ (.slice ma mn mc)).setCell ⟨w.heap.size,4,none⟩ (.int .i64 x)).setCell ⟨w.heap.size,5,none⟩ (.string s)).setCell ⟨w.heap.size,6,none⟩ (.slice ka kn kc)).setCell ⟨w.heap.size,7,none⟩ (.slice va vn vc))=w2 at *
    clear a0 a1 a2 a3 a4 a5 a6 a7 af0 af1 af2 af3 af4 af5 af6 af7
    have a0:World.cell? w2 ⟨w.heap.size,0,none⟩=some (.int .i64 k):=cellOf HP0.out 0 rfl
    have af0:=freeOf HP0.out 0
    have a1:World.cell? w2 ⟨w.heap.size,1,none⟩=some (.bool b):=cellOf HP0.out 1 rfl
    have af1:=freeOf HP0.out 1
    have a2:World.cell? w2 ⟨w.heap.size,2,none⟩=some (.bool neg):=cellOf HP0.out 2 rfl
    have af2:=freeOf HP0.out 2
    have a3:World.cell? w2 ⟨w.heap.size,3,none⟩=some (.slice ma mn mc):=cellOf HP0.out 3 rfl
    have af3:=freeOf HP0.out 3
    have a4:World.cell? w2 ⟨w.heap.size,4,none⟩=some (.int .i64 x):=cellOf HP0.out 4 rfl
    have af4:=freeOf HP0.out 4
    have a5:World.cell? w2 ⟨w.heap.size,5,none⟩=some (.string s):=cellOf HP0.out 5 rfl
    have af5:=freeOf HP0.out 5
    have a6:World.cell? w2 ⟨w.heap.size,6,none⟩=some (.slice ka kn kc):=cellOf HP0.out 6 rfl
    have af6:=freeOf HP0.out 6
    have a7:World.cell? w2 ⟨w.heap.size,7,none⟩=some (.slice va vn vc):=cellOf HP0.out 7 rfl
    have af7:=freeOf HP0.out 7
    have b0:w2.cell? ⟨w.heap.size+1,0,none⟩=some (.int .i64 0):=cellOf HP1.out 0 rfl
    have bf0:=freeOf HP1.out 0
    have n1:¬ w.heap.size+1=w.heap.size:=by omega
    by_cases h0:ln2=0
    · have HS:Hid (l2=[]):=Lib.hid (List.eq_nil_of_length_eq_zero (by rw [HL2.out];exact h0))
      have e0:¬ 0<ln2:=by omega
      clear h0
      go_wp2
      refine leaves_cons (f:=40) (args:=#[.pointer (some ⟨w.heap.size,0,none⟩),.pointer (some ⟨w.heap.size+1,0,none⟩)]) (by simp) (by simp [go_sem]) ?_
      refine (catch_idleC _ _ _).mono ?_
      rintro e u' w'' ⟨rfl,rfl,rfl⟩
      simp [Leaves,settle,results,Tryz.results16,go_sem,a0,a1,a2,a3,a4,a5,a6,a7,b0]
      rw [show finC (.inl (t,l2,n2))=.inl t from by unfold finC;simp [HS.out]]
      refine ⟨.mk ⟨k,b,neg,ma,mn,mc,x,s,ka,kn,kc,va,vn,vc⟩ M K V,rfl,HM.out,HI8.out _ (by simp [World.setCell]) (fun j hj hx=>?_),((((((((((HS8.out.oth.below (by omega) (Nat.le_refl _)).setCell (by simp) _).setCell (by simp) _).setCell (by simp) _).setCell (by simp) _).setCell (by simp) _).setCell (by simp) _).setCell (by simp) _).setCell (by simp) _).setCell (by simp) _)⟩
      have hx':¬ j<W.heap.size:=hx
      have hne:j ≠ w.heap.size:=by omega
      have hne2:j ≠ w.heap.size+1:=by omega
      rw [set_otherC hne2,set_otherC hne,set_otherC hne,set_otherC hne,set_otherC hne,set_otherC hne,set_otherC hne,set_otherC hne,set_otherC hne]
    · have HS:Hid (¬ l2=[]):=Lib.hid (fun h=>h0 (by rw [← HL2.out,h];rfl))
      have e0:0<ln2:=by omega
      clear h0
      go_wp2
      refine leaves_cons (f:=40) (args:=#[.pointer (some ⟨w.heap.size,0,none⟩),.pointer (some ⟨w.heap.size+1,0,none⟩)]) (by simp) (by simp [go_sem]) ?_
      refine (catch_thrownC w.heap.size (w.heap.size+1) _ _ _ _ _ _ _ _ _ 2 [] _ (by omega) a0 af0 a1 af1 a2 af2 a3 af3 a4 af4 a5 af5 a6 af6 a7 af7 b0 bf0).mono ?_
      rintro e u' w'' ⟨rfl,rfl,rfl⟩
      simp [Leaves,settle,results,Tryz.results16,go_sem,a0,a1,a2,a3,a4,a5,a6,a7,b0]
      exact DecC.no (by unfold finC;simp [HS.out]) rfl (((((((((((HS8.out.oth.below (by omega) (Nat.le_refl _)).setCell (by simp) _).setCell (by simp) _).setCell (by simp) _).setCell (by simp) _).setCell (by simp) _).setCell (by simp) _).setCell (by simp) _).setCell (by simp) _).setCell (by simp) _).drew)
theorem decode_cb (ad:Option Addr) (n cap:Nat) (l:List Nat) (w:World) (hU:UT w) (hln:l.length=n) (hc:n≤cap) (hok:Okb l) (hr:RdV w ad (bc l)) (hsh:Shp ad cap) :
    Calls Tryz.prog 16 #[.slice ad n cap] w (DecC (cbDecode l) w):=by
  unfold cbDecode
  rw [hln]
  by_cases h:32768<n
  · rw [if_pos h];exact decode_longC ad n cap w h
  · rw [if_neg h]
    have:=decode_shortC ad n cap l w hln (by omega) hc hok hr hsh (cbValue 65 l 0) (fun W hW=>value_allC hU 64 0 rfl W l 0 (by omega) hW)
    unfold finC at this
    cases hv:cbValue 65 l 0 with
    | inr x=>rw [hv] at this;exact this
    | inl p=>obtain ⟨t,r,k⟩:=p;rw [hv] at this;exact this
theorem made_u8 (n:Nat):(madeCells (Value.cells (.int .u8 0)) (n*1)).toList=bc (List.replicate n 0):=by
  simp only [madeCells]
  apply List.ext_getElem
  · simp [bc]
  · intro i h1 h2;simp [Value.cells,bc,Nat.mod_one]
theorem wpl_makeB (w:World) {ops:Array Oper} {rest:List Oper} {o:Oper} {a:Act} {Q:Exit→Act→World→Prop}
    (hg:o.guard=none) (l c:Operand) (hop:o.op=Op.makeSlice 22 l c) (kl kc:IntKind) (L C:Int) (n:Nat)
    (hl:a.eval l=.int kl L) (hc:a.eval c=.int kc C) (hL:L=(n:Int)) (hC:C=(n:Int)) (hn:n≤1000000000000)
    (hK:∀ w',BlkV w' w.heap.size 5 (bc (List.replicate n 0))→Below w.heap.size w w'→wpList Tryz.prog ops Q rest (a.put o.dst (.slice (some ⟨w.heap.size,0,none⟩) n n)) w') :
    wpList Tryz.prog ops Q (o::rest) a w:=by
  obtain ⟨i0,hi,hz0,hz1,hz2⟩:=info_parts info_u8
  refine wpList_make_full w hg l c 22 hop w.heap.size 5 i0 (.int .u8 0) 1 Tryz.underlying22 hi hz0 hz1 kl kc L C n hl hc hL hC (by rw [hz2];omega) (by unfold maxLen;omega) (Nat.le_refl _) ?_
  intro w' ho hgr
  refine hK w' ?_ ((Below.refl _ _).grown hgr (Nat.le_refl _) (fun k h=>by cases h))
  obtain ⟨hl',h | ⟨g,cap,cur,e,_,hh,_,_,hs,ht⟩⟩:=ho
  · exact absurd h.1 (by simp)
  · simp only [Value.slice.injEq,Option.some.injEq,Addr.mk.injEq] at e
    obtain ⟨⟨rfl,_⟩,_,rfl⟩:=e
    unfold BlkV
    rw [hh,← made_u8]
    have:cur.toList=(madeCells (Value.cells (.int .u8 0)) (n*1)).toList:=by
      have h2:=ht
      rw [List.take_of_length_le (by simp [hs])] at h2
      simpa using h2
    rw [← this]
def bytesL (N:Nat):Nat→List Nat
  | 0=>[]
  | n+1=>(N / 256 ^ n % 256)::bytesL N n
def bytesN (N:Nat):List Nat:=bytesL N ((bitsN N+7) / 8)
theorem bytesL_len (N n:Nat):(bytesL N n).length=n:=by induction n with | zero=>rfl | succ n ih=>simp [bytesL,ih]
theorem bytesL_ok (N n:Nat):Okb (bytesL N n):=by
  induction n with
  | zero=>intro x hx;cases hx
  | succ n ih =>
    intro x hx
    rcases List.mem_cons.1 hx with rfl | h
    · exact Nat.mod_lt _ (by decide)
    · exact ih x h
theorem natB_bytesL (N n:Nat):natB (bytesL N n)=N % 256 ^ n:=by
  induction n with
  | zero=>simp [bytesL,natB,Nat.mod_one]
  | succ n ih =>
    have e:N % 256 ^ (n+1)=N % 256 ^ n+256 ^ n*(N / 256 ^ n % 256):=by rw [Nat.pow_succ,Nat.mod_mul]
    rw [bytesL,natB_cons,ih,bytesL_len,e,Nat.mul_comm (256 ^ n)]
    omega
theorem bytesN_len (N:Nat):(bytesN N).length=(bitsN N+7) / 8:=bytesL_len _ _
theorem bytesN_ok (N:Nat):Okb (bytesN N):=bytesL_ok _ _
theorem lt_bits (N:Nat):N<2 ^ bitsN N:=by
  rcases Nat.eq_zero_or_pos N with rfl | h
  · exact Nat.pow_pos (by decide)
  · obtain ⟨t,h1,_,h3⟩:=bitsN_bounds (Nat.ne_of_gt h)
    rw [h1];exact h3
theorem natB_bytesN (N:Nat):natB (bytesN N)=N:=by
  unfold bytesN
  rw [natB_bytesL]
  refine Nat.mod_eq_of_lt (Nat.lt_of_lt_of_le (lt_bits N) ?_)
  rw [show (256:Nat)=2 ^ 8 by decide,← Nat.pow_mul]
  exact Nat.pow_le_pow_right (by decide) (by omega)
theorem limb_byte {xs:List Nat} (i:Nat) (hj:i / 4<xs.length) (ho:Okl xs):xs.getD (i / 4) 0 / 2 ^ (8*(i % 4)) % 256=val xs / 256 ^ i % 256:=by
  have h2:=val_take_drop xs (i / 4+1) (by omega)
  have h4:=val_take_succ xs (i / 4) hj
  have h5:=val_lt (ho.take (i / 4))
  rw [List.length_take,Nat.min_eq_left (by omega)] at h5
  have hp:0<B32 ^ (i / 4):=Nat.pow_pos (by rw [B32_eq];decide)
  have h6:val xs / B32 ^ (i / 4)=xs.getD (i / 4) 0+B32*val (xs.drop (i / 4+1)):=by
    rw [h2,h4,Nat.pow_succ,Nat.mul_assoc,Nat.add_assoc,← Nat.mul_add,Nat.add_mul_div_left _ _ hp,Nat.div_eq_of_lt h5,Nat.zero_add]
  rw [pow_256,← Nat.div_div_eq_div_mul,h6,B32_eq]
  generalize xs.getD (i / 4) 0=x
  generalize val (xs.drop (i / 4+1))=y
  have:i % 4=0∨i % 4=1∨i % 4=2∨i % 4=3:=by omega
  rcases this with h | h | h | h <;> rw [h]
  · rw [show (2:Nat) ^ (8*0)=1 by decide];omega
  · rw [show (2:Nat) ^ (8*1)=256 by decide];omega
  · rw [show (2:Nat) ^ (8*2)=65536 by decide];omega
  · rw [show (2:Nat) ^ (8*3)=16777216 by decide];omega
theorem bits_words {xs:List Nat} (ho:Okl xs):bitsN (val xs)≤32*xs.length:=by
  rcases Nat.eq_zero_or_pos (val xs) with h | h
  · rw [h,bitsN_z];omega
  · obtain ⟨t,h1,h2,_⟩:=bitsN_bounds (Nat.ne_of_gt h)
    have h3:=val_lt ho
    rw [show B32 ^ xs.length=2 ^ (32*xs.length) by rw [Nat.pow_mul];rfl] at h3
    have:=(Nat.pow_lt_pow_iff_right (show 1<2 by decide)).1 (Nat.lt_of_le_of_lt h2 h3)
    omega
def BytesRel (N n:Nat) (w:World) (k:Nat) (v:Value) (wr:World):Prop :=
  ∃ i:Nat,v=.int .i64 (i:Int)∧i≤n∧k=n+1 - i∧BlkV wr w.heap.size 5 (bc (List.replicate (n - i) 0++bytesL N i))∧Below w.heap.size w wr
theorem put_byte (N n i:Nat) (h:i<n):(bc (List.replicate (n - i) 0++bytesL N i)).set (n - 1 - i) (.int .u8 ((N / 256 ^ i % 256:Nat):Int))=bc (List.replicate (n - (i+1)) 0++bytesL N (i+1)):=by
  have e:n - i=(n - 1 - i)+1:=by omega
  rw [show n - (i+1)=n - 1 - i by omega,e,List.replicate_succ',bytesL]
  simp only [bc,List.map_append,List.map_cons,List.map_nil,List.append_assoc,List.singleton_append]
  rw [List.set_append_right _ _ (by simp),List.length_map,List.length_replicate,Nat.sub_self,List.set_cons_zero]
def BytesP (N:Nat) (w:World) (e:Ending) (w':World):Prop:=e=.returned (.slice (some ⟨w.heap.size,0,none⟩) (bytesN N).length (bytesN N).length)∧BlkV w' w.heap.size 5 (bc (bytesN N))∧Below w.heap.size w w'
theorem bytesOf_cb {ad:Option Addr} {cap L N:Nat} {xs:List Nat} {w:World} (m:Nat) (hm:xs.length=m) (h:ListOk w (.slice ad m cap) L N xs) (hL:L≤100000) :
    Calls Tryz.prog 85 #[.slice ad m cap] w (BytesP N w):=by
  obtain ⟨ad',cap',e,hcap,hlen,hok,hrd,hval⟩:=h
  simp only [Value.slice.injEq] at e
  obtain ⟨rfl,h00,rfl⟩:=e
  clear h00
  rw [hm] at hcap hlen
  obtain ⟨n,hn⟩:∃ n,(bitsN N+7) / 8=n:=⟨_,rfl⟩
  obtain ⟨B,hB⟩:∃ B,bitsN N=B:=⟨_,rfl⟩
  have hbw:bitsN N≤32*m:=by rw [← hval,← hm];exact bits_words hok
  have HK:=Lib.hid (bits_any ad m cap xs w hm (by omega) (by omega) hok hrd)
  rw [hval,hB] at HK
  rw [hB] at hbw hn
  have e0:IntKind.i64.wrap ((B:Int)+7)=(B:Int)+7:=IntWalk.i64_in _ (by omega)
  have e1:IntKind.i64.wrap (((B:Int)+7).tdiv 8)=(n:Int):=by
    rw [Int.tdiv_eq_ediv_of_nonneg (by omega)]
    rw [show ((B:Int)+7) / 8=(n:Int) by omega]
    exact IntWalk.i64_in _ (by omega)
  have HN:Hid (bytesN N=bytesL N n):=Lib.hid (by unfold bytesN;rw [hB,hn])
  have HM:=Lib.hid hm
  have HOK:=Lib.hid hok;have HRD:=Lib.hid hrd;have HVAL:=Lib.hid hval
  have hmb:m≤100000:=by omega
  have hnm:n≤4*m:=by omega
  clear hok hrd hval hlen hm hn hB
  go_enter Tryz.func85,Tryz.ntmps85
  go_wp2_with fail
  refine HK.out.mono ?_
  rintro r w1 ⟨rfl,rfl⟩
  go_wp2_with (refine wpl_makeB _ rfl _ _ rfl .i64 .i64 (n:Int) (n:Int) n rfl rfl rfl rfl (by omega) ?_)
  intro w1 hb1 hbl1
  have HB1:=Lib.hid hb1
  have HBL1:=Lib.hid hbl1
  clear hb1 hbl1 e0 e1
  go_wp2_with fail
  go_loopg [12] (n+1) (fun k v wr=>BytesRel N n w k v wr)
  case atStart=>exact ⟨0,rfl,Nat.zero_le _,rfl,by simpa [bytesL] using HB1.out,HBL1.out⟩
  case round =>
    obtain ⟨i,rfl,hi,hk,hbk,hbw⟩:=hrel
    by_cases hin:i<n
    · have hlm:i / 4<m:=by omega
      have c0:wr.cell? ⟨w.heap.size,n - 1 - i,none⟩=some (.int .u8 0):=by
        rw [hbk.cell,bc_get _ _ (by simp [bytesL_len];omega),List.getD_eq_getElem?_getD,List.getElem?_append_left (by simp;omega)]
        simp [List.getElem?_replicate,show n - 1 - i<n - i by omega]
      have f0:wr.frozen? ⟨w.heap.size,n - 1 - i,none⟩=false:=hbk.free _
      have HBK:=Lib.hid hbk;have HBW:=Lib.hid hbw
      obtain ⟨b,o,rfl,hbb,hcx⟩:=HRD.out (i / 4) (by rw [HM.out];exact hlm)
      have hcx2:wr.cell? ⟨b,o+i / 4,none⟩=some (.int .u32 ((xs.getD (i / 4) 0:Nat):Int)):=(hbw.cell (p:=⟨b,o+i / 4,none⟩) hbb).trans hcx
      have q1:IntKind.i64.wrap ((i:Int).tdiv 4)=((i / 4:Nat):Int):=by
        rw [Int.tdiv_eq_ediv_of_nonneg (by omega)];rw [show (i:Int) / 4=((i / 4:Nat):Int) by omega];exact IntWalk.i64_in _ (by omega)
      have q2:IntKind.i64.wrap ((n:Int) - 1)=(n:Int) - 1:=IntWalk.i64_in _ (by omega)
      have q3:IntKind.i64.wrap ((n:Int) - 1 - (i:Int))=((n - 1 - i:Nat):Int):=by rw [show (n:Int) - 1 - (i:Int)=((n - 1 - i:Nat):Int) by omega];exact IntWalk.i64_in _ (by omega)
      have q4:IntKind.i64.wrap ((i:Int).tmod 4)=((i % 4:Nat):Int):=by
        rw [Int.tmod_eq_emod_of_nonneg (by omega)];rw [show (i:Int) % 4=((i % 4:Nat):Int) by omega];exact IntWalk.i64_in _ (by omega)
      have q5:IntKind.i64.wrap (8*((i % 4:Nat):Int))=((8*(i % 4):Nat):Int):=by rw [show 8*((i % 4:Nat):Int)=((8*(i % 4):Nat):Int) by omega];exact IntWalk.i64_in _ (by omega)
      have q6:IntKind.i64.wrap ((i:Int)+1)=((i+1:Nat):Int):=by rw [show (i:Int)+1=((i+1:Nat):Int) by omega];exact IntWalk.i64_in _ (by omega)
      have hr4:8*(i % 4)≤24:=by omega
      have HLB:=Lib.hid (limb_byte i (by rw [HM.out];exact hlm) HOK.out)
      rw [HVAL.out] at HLB
      clear hbk hbw hcx
      generalize hz:xs.getD (i / 4) 0=z at *
      generalize hnk:n - 1 - i=nk at *
      generalize hiq:i / 4=iq at *
      generalize hir:8*(i % 4)=ir at *
      have HSH:Hid ((z:Int) / 2 ^ ir % 256=((N / 256 ^ i % 256:Nat):Int)):=Lib.hid (by rw [shr_cast];have:=HLB.out;omega)
      have hnk2:nk<n:=by omega
      clear HLB
      go_wp2_with fail
      go_roundg (n+1 - (i+1))
      case measure=>omega
      case rel =>
        have h1:=HBK.out.set nk (.int .u8 ((N / 256 ^ i % 256:Nat):Int))
        have h2:=put_byte N n i hin
        rw [hnk] at h2
        rw [h2] at h1
        refine ⟨i+1,by go_num,by omega,by omega,?_,?_⟩
        · rw [HSH.out];exact h1
        · exact HBW.out.setCell (Nat.le_refl _) _
    · obtain rfl:i=n:=by omega
      rw [Nat.sub_self,List.replicate_zero,List.nil_append] at hbk
      have HBK:=Lib.hid hbk
      have HBW:=Lib.hid hbw
      clear hbk hbw
      go_wp2_with fail
      go_ret
      have h1:=HBK.out;have h2:=HBW.out;have h3:=HN.out
      unfold BytesP
      rw [h3,bytesL_len]
      exact ⟨rfl,h1,h2⟩
theorem natB_take_succ (l:List Nat) (i:Nat) (h:i<l.length):natB (l.take (i+1))=natB (l.take i)*256+l.getD i 0:=by
  rw [List.take_succ_eq_append_getElem h]
  unfold natB
  rw [List.foldl_append]
  simp [List.getD,h]
def WordRel (l:List Nat) (n:Nat) (w:World) (k:Nat) (v i:Value) (wr:World):Prop :=
  ∃ j:Nat,i=.int .i64 (j:Int)∧v=.int .u64 ((natB (l.take j):Nat):Int)∧j≤n∧k=n+1 - j∧wr=w
theorem wordOf_cb (ad:Option Addr) (l:List Nat) (n cap:Nat) (w:World) (hl:l.length=n) (hn:n≤8) (hc:n≤cap) (hb:Okb l) (hr:RdV w ad (bc l)) :
    Calls Tryz.prog 86 #[.slice ad n cap] w fun e w'=>e=.returned (.int .u64 ((natB l:Nat):Int))∧w'=w:=by
  have HL:=Lib.hid hl;have HB:=Lib.hid hb;have HR:=Lib.hid hr
  clear hl hb hr
  go_enter Tryz.func86,Tryz.ntmps86
  go_wp2_with fail
  go_loopg [2,7] (n+1) (fun k v i wr=>WordRel l n w k v i wr)
  case atStart=>exact ⟨0,rfl,rfl,Nat.zero_le _,rfl,rfl⟩
  case round =>
    obtain ⟨j,rfl,rfl,hj,hk,rfl⟩:=hrel
    by_cases hin:j<n
    · obtain ⟨b,o,rfl,hbb,hcx⟩:=HR.out j (by rw [bc_len,HL.out];exact hin)
      rw [bc_get _ _ (by rw [HL.out];exact hin)] at hcx
      have hx:l.getD j 0<256:=by
        have:j<l.length:=by rw [HL.out];exact hin
        rw [List.getD_eq_getElem?_getD,List.getElem?_eq_getElem this]
        exact HB.out _ (List.getElem_mem _)
      have hw8:natB (l.take j)<256 ^ j:=by
        have:=natB_bd (l.take j) (okb_take HB.out _)
        rw [List.length_take,HL.out,Nat.min_eq_left hj] at this
        exact this
      have hw7:natB (l.take j)<72057594037927936:=Nat.lt_of_lt_of_le hw8 (Nat.le_trans (Nat.pow_le_pow_right (show 0<256 by decide) (show j≤7 by omega)) (by decide))
      have HS:=Lib.hid (natB_take_succ l j (by rw [HL.out];exact hin))
      clear hw8
      generalize natB (l.take j)=W at *
      generalize l.getD j 0=x at *
      have q6:IntKind.i64.wrap ((j:Int)+1)=((j+1:Nat):Int):=by rw [show (j:Int)+1=((j+1:Nat):Int) by omega];exact IntWalk.i64_in _ (by omega)
      have HO:Hid (bits .or .u64 ((W:Int)*256) (x:Int)=((W*256+x:Nat):Int)):=Lib.hid (by rw [orJ 8 _ _ (by omega) (by omega) (by omega) (by omega) (by omega) (by omega)];omega)
      go_wp2_with fail
      go_roundg (n+1 - (j+1))
      case measure=>omega
      case rel =>
        refine ⟨j+1,by go_num,?_,by omega,by omega,rfl⟩
        rw [HO.out,HS.out]
    · obtain rfl:j=n:=by omega
      have HE:Hid (natB (l.take j)=natB l):=Lib.hid (by rw [List.take_of_length_le (by rw [HL.out];exact Nat.le_refl _)])
      go_wp2_with fail
      go_ret
      rw [HE.out]
      exact ⟨rfl,rfl⟩
def shortN (N:Nat):Bool:=decide (bitsN N≤64)
theorem short_cb {b:Bool} {ad:Option Addr} {m cap L N:Nat} {xs:List Nat} {w:World} (h:ListOk w (.slice ad m cap) L N xs) (hL:L≤100000) :
    Calls Tryz.prog 48 #[.agg #[.bool b,.slice ad m cap]] w fun e w'=>e=.returned (.bool (shortN N))∧Below w.heap.size w w':=by
  have HK:=Lib.hid (fun (W:World) (hb:Below w.heap.size w W)=>(show Calls Tryz.prog 83 #[.slice ad m cap] W fun e w'=>e=.returned (.int .i64 (bitsN N:Int))∧w'=W from by
    obtain ⟨ad',cap',e,hcap,hlen,hok,hrd,hval⟩:=h.below hb
    simp only [Value.slice.injEq] at e
    obtain ⟨rfl,h00,rfl⟩:=e
    rw [h00,← hval]
    refine (bits_any ad _ cap xs W rfl hcap (by omega) hok hrd).mono ?_
    rintro e w' ⟨rfl,rfl⟩;exact ⟨rfl,rfl⟩))
  have HB:=Lib.hid (fun o:Obj=>((Below.refl w.heap.size w).alloc (Nat.le_refl _) o))
  clear h
  by_cases hs:bitsN N≤64
  · have e1:decide ((bitsN N:Int)≤64)=true:=decide_eq_true (by omega)
    have HS:Hid (shortN N=true):=Lib.hid (by unfold shortN;exact decide_eq_true hs)
    generalize bitsN N=q at *
    go_enter Tryz.func48,Tryz.ntmps48
    go_wp2_with fail
    refine (HK.out _ (HB.out _)).mono ?_
    rintro r w1 ⟨rfl,rfl⟩
    go_wp2_with fail
    go_ret
    rw [HS.out]
    exact ⟨rfl,HB.out _⟩
  · have e1:decide ((bitsN N:Int)≤64)=false:=decide_eq_false (by omega)
    have HS:Hid (shortN N=false):=Lib.hid (by unfold shortN;exact decide_eq_false hs)
    generalize bitsN N=q at *
    go_enter Tryz.func48,Tryz.ntmps48
    go_wp2_with fail
    refine (HK.out _ (HB.out _)).mono ?_
    rintro r w1 ⟨rfl,rfl⟩
    go_wp2_with fail
    go_ret
    rw [HS.out]
    exact ⟨rfl,HB.out _⟩
def toldN (neg:Bool) (N:Nat):Nat:=if neg then N - 1 else N
def IntegerP (neg:Bool) (N L:Nat) (w:World) (e:Ending) (w':World):Prop:=∃ ad n cap xs,e=.returned (.agg #[.bool neg,.slice ad n cap])∧ListOk w' (.slice ad n cap) L (toldN neg N) xs∧Below w.heap.size w w'
theorem integerOf_cb {neg:Bool} {ad:Option Addr} {m cap L N:Nat} {xs:List Nat} {w:World} (h:ListOk w (.slice ad m cap) L N xs) (hL:L≤100000) :
    Calls Tryz.prog 47 #[.bool neg,.slice ad m cap] w (IntegerP neg N L w):=by
  have HH:=Lib.hid h
  have HB:=Lib.hid (fun o:Obj=>((Below.refl w.heap.size w).alloc (Nat.le_refl _) o))
  cases neg with
  | false =>
    clear h
    go_enter Tryz.func47,Tryz.ntmps47
    go_wp2_with fail
    refine bodyPost_ret (v:=.agg #[.bool false,.slice ad m cap]) (by simp [results,Tryz.results47,go_sem]) rfl ?_
    exact ⟨ad,m,cap,xs,rfl,HH.out.below (HB.out _),HB.out _⟩
  | true =>
    have HK:=Lib.hid (fun (W0 W:World) (x:Value) (hc:Ctx W0 W [⟨x,1,1,[1]⟩,⟨.slice ad m cap,L,N,xs⟩])=>sub_c hc 1 0 rfl rfl (by omega) (by omega))
    have HC:=Lib.hid (fun o:Obj=>((((Ctx.begin (w.alloc o)).push (x:=⟨.slice ad m cap,L,N,xs⟩) (h.below (HB.out o))).lit (x:=1) (by rw [B32_eq];decide))))
    clear h
    go_enter Tryz.func47,Tryz.ntmps47
    go_wp2_with fail
    have HC2:=Lib.hid (HC.out (.cells #[.bool false,.slice none 0 0] 76))
    rw [show (w.alloc (.cells #[.bool false,.slice none 0 0] 76)).heap.size=w.heap.size+1 by simp] at HC2
    refine (HK.out _ _ _ HC2.out).mono ?_
    rintro r w2 ⟨v,rfl,hc⟩
    have hb2:=hc.below
    obtain ⟨ad2,cap2,e2,hlo⟩:=hc.get 0 rfl
    have HL2:Hid (ListOk w2 v L (N - 1) (limbs (N - 1))):=Lib.hid (hc.get 0 rfl)
    subst e2
    clear hlo hc HC HC2 HK
    have c0:w2.cell? ⟨w.heap.size,0,none⟩=some (.bool false):=by rw [hb2.cell (by simp)];simp
    have c1:w2.cell? ⟨w.heap.size,1,none⟩=some (.slice none 0 0):=by rw [hb2.cell (by simp)];simp
    have f0:w2.frozen? ⟨w.heap.size,0,none⟩=false:=by rw [hb2.frozen (by simp)];simp
    have f1:w2.frozen? ⟨w.heap.size,1,none⟩=false:=by rw [hb2.frozen (by simp)];simp
    have HB2:=Lib.hid (((HB.out (.cells #[.bool false,.slice none 0 0] 76)).trans (hb2.mono (by simp))))
    clear hb2
    go_wp2_with fail
    refine bodyPost_ret (v:=.agg #[.bool true,.slice ad2 (limbs (N - 1)).length cap2]) (by simp [results,Tryz.results47,go_sem,c0,c1]) rfl ?_
    refine ⟨ad2,_,cap2,limbs (N - 1),rfl,?_,(HB2.out.setCell (Nat.le_refl _) _).setCell (Nat.le_refl _) _⟩
    exact (HL2.out.box c0 (by intro n h;cases h) _).box (x:=.slice none 0 0) (by rw [World.cell?_setCell_other (h:=by simp)];exact c1) (by intro n h;cases h) _
end Go.Proofs.YtnacbakcalcgaaaGreatDoor
