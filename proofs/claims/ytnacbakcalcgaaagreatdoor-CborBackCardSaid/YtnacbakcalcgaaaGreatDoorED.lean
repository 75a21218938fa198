/- Texts of the claim. -/
import Derived.Test.YtnacbakcalcgaaaGreatDoorEB
import Derived.Test.YtnacbakcalcgaaaGreatDoorEC
set_option linter.unusedVariables false
set_option linter.unusedSimpArgs false
set_option maxHeartbeats 8000000
set_option maxRecDepth 100000
namespace Go.Proofs.YtnacbakcalcgaaaGreatDoor
open Go.RowKit Go.Lib Go.Sort Go.Shelf
theorem cellOf {W:World} {b:Nat} {c:Array Value} {t:TypeId} (h:W.heap[b]? = some (.cells c t)) (i:Nat) {v:Value} (hv:c[i]? = some v):W.cell? ⟨b,i,none⟩=some v:=by
  simp [World.cell?,h,hv]
theorem freeOf {W:World} {b:Nat} {c:Array Value} {t:TypeId} (h:W.heap[b]? = some (.cells c t)) (i:Nat):W.frozen? ⟨b,i,none⟩=false:=by
  simp [World.frozen?,h]
theorem rangeOf {W:World} {b:Nat} {cs:List Value} {t:TypeId} (h:W.heap[b]? = some (.cells cs.toArray t)):W.rangeAt b 0 cs:=fun j v hv=>by
  rw [Nat.zero_add];exact cellOf h j (by simpa using hv)
theorem set_otherC {w:World} {b i:Nat} {v:Value} {k:Nat} (h:k ≠ b):(w.setCell ⟨b,i,none⟩ v).heap[k]? = w.heap[k]?:=Below.heap_setCell _ _ _ _ (by simpa using h)
theorem box3_thereC {W:World} {gb:Nat} {t:TypeId} {v0 v1 v2:Value} (h:W.heap[gb]? = some (.cells #[v0,v1,v2] t)) {u0 u1 u2:Value}:∀ j,j<(#[u0,u1,u2]:Array Value).size→(W.cell? ⟨gb,0+j,none⟩).isSome=true∧W.frozen? ⟨gb,0+j,none⟩=false:=by
  intro j hj
  have hj:j<3:=hj
  match j,hj with
  | 0,_=>simp [World.cell?,World.frozen?,h]
  | 1,_=>simp [World.cell?,World.frozen?,h]
  | 2,_=>simp [World.cell?,World.frozen?,h]
theorem set3_outC {W:World} {gb k:Nat} {u0 u1 u2:Value} (h:k ≠ gb):(W.setCells gb 0 [u0,u1,u2]).heap[k]? = W.heap[k]?:=by
  simp only [World.setCells]
  rw [set_otherC h,set_otherC h,set_otherC h]
theorem set3_sizeC {W:World} {gb:Nat} {u0 u1 u2:Value}:(W.setCells gb 0 [u0,u1,u2]).heap.size=W.heap.size:=by simp [World.setCells,World.setCell]
theorem set3_inC {W:World} {gb:Nat} {t:TypeId} {v0 v1 v2 u0 u1 u2:Value} (h:W.heap[gb]? = some (.cells #[v0,v1,v2] t)):(W.setCells gb 0 [u0,u1,u2]).heap[gb]? = some (.cells #[u0,u1,u2] t):=by
  simp [World.setCells,World.setCell,Array.getElem?_modify,h]
def CutN (w : World) (r : Option (Bool × Nat × Int)) (s5 s6 : Value) (W : World) : Prop :=
  ∃ (gb : Nat) (neg : Bool) (ad : Option Addr) (n cap : Nat) (x : Int) (ok : Bool), s5 = .pointer (some ⟨gb, 0, none⟩) ∧ s6 = .bool ok ∧ w.heap.size + 1 < gb ∧ Below w.heap.size w W ∧ W.heap[w.heap.size + 1]? = some (.cells #[.int .i64 0, .bool false, .bool false, .slice none 0 0, .int .i64 0, .string ⟨#[]⟩, .slice none 0 0, .slice none 0 0] 29) ∧
    W.heap[gb]? = some (.cells #[.bool neg, .slice ad n cap, .int .i64 x] 25) ∧ MkR r (w.heap.size + 2) W neg ad n cap x ok
theorem cutN_mk {w Wm Wl:World} {r:Option (Bool × Nat × Int)} {z gb:Nat} {neg:Bool} {ad:Option Addr} {n cap:Nat} {x:Int} {ok:Bool} (hz:w.heap.size+2≤z) (hmk:MkR r z Wm neg ad n cap x ok) (hml:∀ k,k<Wm.heap.size→Wl.heap[k]? = Wm.heap[k]?) (hsl:Wm.heap.size≤Wl.heap.size) (hgz:gb<z∨Wm.heap.size≤gb) (hgb:w.heap.size+1<gb)
    (hbw:Below w.heap.size w Wl) (hb1:Wl.heap[w.heap.size+1]? = some (.cells #[.int .i64 0,.bool false,.bool false,.slice none 0 0,.int .i64 0,.string ⟨#[]⟩,.slice none 0 0,.slice none 0 0] 29)) (hbx:Wl.heap[gb]? = some (.cells #[.bool false,.slice none 0 0,.int .i64 0] 25)) :
    CutN w r (.pointer (some ⟨gb,0,none⟩)) (.bool ok) (Wl.setCells gb 0 [.bool neg,.slice ad n cap,.int .i64 x]):=by
  refine ⟨gb,neg,ad,n,cap,x,ok,rfl,rfl,hgb,⟨hbw.os,hbw.tape,hbw.output,by rw [set3_sizeC];exact hbw.size,fun k hk=>(set3_outC (by omega)).trans (hbw.block k hk)⟩,(set3_outC (by omega)).trans hb1,set3_inC hbx,?_⟩
  unfold MkR at *
  cases r with
  | none=>exact hmk
  | some p =>
    obtain ⟨h1,h2,h3,h4,h5,h6⟩:=hmk
    refine ⟨h1,h2,h3,h4,h5,h6.to (by rw [set3_sizeC];exact hsl) (fun k hk hx=>(set3_outC (by omega)).trans (hml k hk)) (fun k _ (h:k<w.heap.size+2)=>(by omega:k<z)) (fun _ h=>h)⟩
def ValN (w:World) (r:MT ⊕ Int) (e:Ending) (w':World):Prop:=match r with
  | .inl t=>∃ t':MT,e=.returned t'.c.val∧t'.bare=t∧Ind (fun k=>k<w.heap.size) w' (fun W=>Rep W t')∧Below w.heap.size w w'
  | .inr x=>e=.panicked [{ v:=.iface 32 (.int .i64 x),recovered:=false }]∧Below w.heap.size w w'
theorem ValN.yes {w w':World} {r:MT ⊕ Int} {e:Ending} {t:MT} (t':MT) (h:r=.inl t) (he:e=.returned t'.c.val) (hb:t'.bare=t) (hi:Ind (fun k=>k<w.heap.size) w' (fun W=>Rep W t')) (hw:Below w.heap.size w w'):ValN w r e w':=by
  subst h;exact ⟨t',he,hb,hi,hw⟩
theorem ValN.no {w w':World} {r:MT ⊕ Int} {x:Int} (h:r=.inr x) (hw:Below w.heap.size w w'):ValN w r (.panicked [{ v:=.iface 32 (.int .i64 x),recovered:=false }]) w':=by
  subst h;exact ⟨rfl,hw⟩
def BdR (r:Option (Bool × Nat × Int)):Prop:=∀ p,r=some p→(limbs p.2.1).length≤90∧-1200≤p.2.2∧p.2.2≤1200
theorem mkN_bd (neg:Bool) (N:Nat) (e:Int):BdR (mkN neg N e):=by
  intro p h
  unfold mkN at h
  split at h
  · simp only [Option.some.injEq] at h
    subst h
    simp [limbs_zero]
  · split at h
    · rename_i hb
      simp only [Option.some.injEq] at h
      subst h
      exact hb
    · cases h
theorem exactN_bd (width:Int) (x:Nat):BdR (exactN width x):=by
  intro p h
  unfold exactN at h
  split at h
  · simp only [Option.some.injEq] at h
    subst h
    simp only
    unfold exMW exEW
    cases hlo:layOf width with
    | none=>simp [limbs_zero]
    | some q =>
      obtain ⟨e,f⟩:=q
      simp only
      by_cases hk:kindF e f x=1
      · rw [if_pos hk,if_pos hk]
        have:=ex_bounds (layOf_lay hlo) hk
        exact ⟨this.2.2.1,this.2.2.2.1,this.2.2.2.2⟩
      · rw [if_neg hk,if_neg hk];simp [limbs_zero]
  · cases h
theorem numT_bareC (neg:Bool) (ad:Option Addr) (n cap:Nat) (x:Int) (m:List Nat):(numT neg ad n cap x m).bare=numT neg none n 0 x m:=by rw [MT.bare_eq];rfl
theorem num_fin {w W:World} {p:Bool × Nat × Int} {ad:Option Addr} {n cap:Nat} (hbw:Below w.heap.size w W) (hz:w.heap.size+1<W.heap.size) (hn:n=(limbs p.2.1).length) (hc:n≤cap) (hb:(limbs p.2.1).length≤90∧-1200≤p.2.2∧p.2.2≤1200) (hi:Ind (fun k=>k<w.heap.size+2) W (fun W=>Rd W ad (limbs p.2.1))) (v0 v1 v2 v3 v4 v5 v6 v7:Value) :
    Ind (fun k=>k<w.heap.size) ((((((((W.setCell ⟨w.heap.size+1,0,none⟩ v0).setCell ⟨w.heap.size+1,1,none⟩ v1).setCell ⟨w.heap.size+1,2,none⟩ v2).setCell ⟨w.heap.size+1,3,none⟩ v3).setCell ⟨w.heap.size+1,4,none⟩ v4).setCell ⟨w.heap.size+1,5,none⟩ v5).setCell ⟨w.heap.size+1,6,none⟩ v6).setCell ⟨w.heap.size+1,7,none⟩ v7) (fun W=>Rep W (numT p.1 ad n cap p.2.2 (limbs p.2.1)))∧Below w.heap.size w ((((((((W.setCell ⟨w.heap.size+1,0,none⟩ v0).setCell ⟨w.heap.size+1,1,none⟩ v1).setCell ⟨w.heap.size+1,2,none⟩ v2).setCell ⟨w.heap.size+1,3,none⟩ v3).setCell ⟨w.heap.size+1,4,none⟩ v4).setCell ⟨w.heap.size+1,5,none⟩ v5).setCell ⟨w.heap.size+1,6,none⟩ v6).setCell ⟨w.heap.size+1,7,none⟩ v7):=by
  constructor
  · refine hi.to (by simp [World.setCell]) (fun k hk hx=>?_) (fun k _ (h:k<w.heap.size)=>(by omega:k<w.heap.size+2)) (fun W h=>numT_rep (by rw [hn]) hc (by omega) (limbs_ok _) h (by omega))
    have hne:k ≠ w.heap.size+1:=by omega
    rw [set_otherC hne,set_otherC hne,set_otherC hne,set_otherC hne,set_otherC hne,set_otherC hne,set_otherC hne,set_otherC hne]
  · have hle:w.heap.size≤w.heap.size+1:=by omega
    exact (((((((hbw.setCell hle _).setCell hle _).setCell hle _).setCell hle _).setCell hle _).setCell hle _).setCell hle _).setCell hle _
theorem number_cb {w:World} {nb:Bool} {N:Nat} {ua:Option Addr} {un uc:Nat} {xs:List Nat} (h:ListOk w (.slice ua un uc) 600 N xs) (E:Int) (hE:-200000≤E∧E≤200000) :
    Calls Tryz.prog 113 #[.agg #[.bool nb,.slice ua un uc],.int .i64 E] w (ValN w (cbNum (nb,N) E)):=by
  obtain ⟨R,hR⟩:∃ R,mkN nb (cbSize (nb,N)) E=R:=⟨_,rfl⟩
  have HNO:Hid (R=none→cbNum (nb,N) E=.inr 4):=Lib.hid (fun h=>by unfold cbNum;rw [hR,h])
  have HYES:Hid (∀ p,R=some p→cbNum (nb,N) E=.inl (bnumC p)):=Lib.hid (fun p h=>by unfold cbNum;rw [hR,h])
  have HBD:Hid (BdR R):=Lib.hid (by rw [← hR];exact mkN_bd _ _ _)
  have hw:Below w.heap.size w ((w.alloc (.cells #[.bool nb,.slice ua un uc] 76)).alloc (.cells #[.int .i64 0,.bool false,.bool false,.slice none 0 0,.int .i64 0,.string ⟨#[]⟩,.slice none 0 0,.slice none 0 0] 29)):=((Below.refl _ _).alloc (Nat.le_refl _) _).alloc (by simp) _
  have HW:=Lib.hid hw
  have HLOK:=Lib.hid (h.below hw)
  have hq0:((w.alloc (.cells #[.bool nb,.slice ua un uc] 76)).alloc (.cells #[.int .i64 0,.bool false,.bool false,.slice none 0 0,.int .i64 0,.string ⟨#[]⟩,.slice none 0 0,.slice none 0 0] 29)).heap[w.heap.size]? = some (.cells #[.bool nb,.slice ua un uc] 76):=(Below.heap_alloc _ _ _ (by simp)).trans (heap_alloc_new w _)
  have hq1:((w.alloc (.cells #[.bool nb,.slice ua un uc] 76)).alloc (.cells #[.int .i64 0,.bool false,.bool false,.slice none 0 0,.int .i64 0,.string ⟨#[]⟩,.slice none 0 0,.slice none 0 0] 29)).heap[w.heap.size+1]? = some (.cells #[.int .i64 0,.bool false,.bool false,.slice none 0 0,.int .i64 0,.string ⟨#[]⟩,.slice none 0 0,.slice none 0 0] 29):=by
    have:=heap_alloc_new (w.alloc (.cells #[.bool nb,.slice ua un uc] 76)) (.cells #[.int .i64 0,.bool false,.bool false,.slice none 0 0,.int .i64 0,.string ⟨#[]⟩,.slice none 0 0,.slice none 0 0] 29)
    simpa using this
  have hq2:w.heap.size+2≤((w.alloc (.cells #[.bool nb,.slice ua un uc] 76)).alloc (.cells #[.int .i64 0,.bool false,.bool false,.slice none 0 0,.int .i64 0,.string ⟨#[]⟩,.slice none 0 0,.slice none 0 0] 29)).heap.size:=by simp
  have HQ0:=Lib.hid hq0;have HQ1:=Lib.hid hq1;have HQ2:=Lib.hid hq2
  have HE0:=Lib.hid hE
  have HR:=Lib.hid hR
  clear hw hq0 hq1 hq2 h hE hR
  rw [← HR.out] at HNO HYES HBD
  rw [HR.out] at HNO HYES HBD
  go_enter Tryz.func113,Tryz.ntmps113
  go_upto_region 1 with fail
  go_cut [5,6] from 7 to 15 (fun p q W=>CutN w R p q W)
  case first =>
    rename_i J K hJ hK
    have HJ:=Lib.hid hJ
    refine rc_first J hK ?_
    clear hJ hK
    refine rl_start (S:=fun _ W=>W.heap[w.heap.size]? = some (.cells #[.bool nb,.slice ua un uc] 76)) (by kernel_rfl) HQ0.out (fun hC hS=>?_)
    have hbw:=below_drew HW.out
    have hb0:((w.alloc (.cells #[.bool nb,.slice ua un uc] 76)).alloc (.cells #[.int .i64 0,.bool false,.bool false,.slice none 0 0,.int .i64 0,.string ⟨#[]⟩,.slice none 0 0,.slice none 0 0] 29)).drew.heap[w.heap.size]? = some (.cells #[.bool nb,.slice ua un uc] 76):=HQ0.out
    have hb1:((w.alloc (.cells #[.bool nb,.slice ua un uc] 76)).alloc (.cells #[.int .i64 0,.bool false,.bool false,.slice none 0 0,.int .i64 0,.string ⟨#[]⟩,.slice none 0 0,.slice none 0 0] 29)).drew.heap[w.heap.size+1]? = some (.cells #[.int .i64 0,.bool false,.bool false,.slice none 0 0,.int .i64 0,.string ⟨#[]⟩,.slice none 0 0,.slice none 0 0] 29):=HQ1.out
    have hzz:w.heap.size+2≤((w.alloc (.cells #[.bool nb,.slice ua un uc] 76)).alloc (.cells #[.int .i64 0,.bool false,.bool false,.slice none 0 0,.int .i64 0,.string ⟨#[]⟩,.slice none 0 0,.slice none 0 0] 29)).drew.heap.size:=HQ2.out
    have hlok:=HLOK.out.below (below_drew (Below.refl _ _))
    generalize hW0:((w.alloc (.cells #[.bool nb,.slice ua un uc] 76)).alloc (.cells #[.int .i64 0,.bool false,.bool false,.slice none 0 0,.int .i64 0,.string ⟨#[]⟩,.slice none 0 0,.slice none 0 0] 29)).drew=W0 at *
    refine rl_pure 0 _ (.pointer (some ⟨w.heap.size,0,none⟩)) (some 8) rfl (by kernel_rfl) (by kernel_rfl) (by kernel_rfl) (by kernel_rfl) (fun _ _ _ h=>h) (fun _ _=>Iff.rfl) (by kernel_rfl) (fun w=>by kernel_rfl) hC hS (fun hC hS=>?_)
    refine rl_load1 1 _ 4 (.tmp 8) ⟨w.heap.size,0,none⟩ (.bool nb) _ (some 9) rfl (by kernel_rfl) (by kernel_rfl) (by kernel_rfl) (by kernel_rfl) (fun _ _ _ h=>h) (fun _ _=>Iff.rfl) (by kernel_rfl) rfl (by kernel_rfl) Tryz.underlying4 rfl (fun L W hC h1 hS=>cellOf hS 0 rfl) hC hS (fun hC hS=>?_)
    refine rl_loadM 2 _ 76 (.tmp 2) w.heap.size 0 ([.bool nb,.slice ua un uc]) _ (some 10) rfl (by kernel_rfl) (by kernel_rfl) (by kernel_rfl) (by kernel_rfl) (fun _ _ _ h=>h) (fun _ _=>Iff.rfl) (by kernel_rfl) rfl (by kernel_rfl) Tryz.underlying76 rfl (by kernel_rfl) (fun L W hC h1 hS=>rangeOf hS) hC hS (fun hC hS=>?_)
    refine rl_pure 4 _ (.int .i64 E) (some 12) rfl (by kernel_rfl) (by kernel_rfl) (by kernel_rfl) (by kernel_rfl) (fun _ _ _ h=>h) (fun _ _=>Iff.rfl) (by kernel_rfl) (fun w=>by kernel_rfl) hC hS (fun hC hS=>?_)
    refine rl_all [3,9] (by kernel_rfl) (by simp) hC (rl_two _ _ ?_ ?_)
    · skip
      refine rc_call 3 _ 156 _ _ _ _ #[.agg #[.bool nb,.slice ua un uc]] (some 11) rfl (by kernel_rfl) (by kernel_rfl) rfl (by kernel_rfl) Tryz.func156 (by kernel_rfl) (by kernel_rfl) (by kernel_rfl) (size_cb hlok) ?_
      rintro r' W1 ⟨sa,sn,sc,sx,rfl,hlok2,hb⟩
      replace hbw:=hbw.trans (hb.mono hbw.size)
      replace hb0:=(hb.block _ (Array.getElem?_eq_some_iff.1 hb0).1).trans hb0
      replace hb1:=(hb.block _ (Array.getElem?_eq_some_iff.1 hb1).1).trans hb1
      replace hzz:=Nat.le_trans hzz hb.size
      refine ⟨_,rfl,?_⟩
      refine rl_and hb0 (fun hS hC=>?_)
      refine rl_all [5,9] (by kernel_rfl) (by simp) hC (rl_two _ _ ?_ ?_)
      · skip
        refine rc_call 5 _ 155 _ _ _ _ #[.bool nb,.slice sa sn sc,.int .i64 E] (some 13) rfl (by kernel_rfl) (by kernel_rfl) rfl (by kernel_rfl) Tryz.func155 (by kernel_rfl) (by kernel_rfl) (by kernel_rfl) (by have h:=make_cb hlok2 (by decide) nb E HE0.out;rwa [HR.out] at h) ?_
        rintro r' W2 ⟨neg,ad,n,cap,x,ok,rfl,hb,hmk⟩
        have hz2:=hzz
        have hml:∀ k,k<W2.heap.size→W2.heap[k]? = W2.heap[k]?:=fun _ _=>rfl
        have hsl:W2.heap.size≤W2.heap.size:=Nat.le_refl _
        replace hbw:=hbw.trans (hb.mono hbw.size)
        replace hb0:=(hb.block _ (Array.getElem?_eq_some_iff.1 hb0).1).trans hb0
        replace hb1:=(hb.block _ (Array.getElem?_eq_some_iff.1 hb1).1).trans hb1
        replace hzz:=Nat.le_trans hzz hb.size
        refine ⟨_,rfl,?_⟩
        refine rl_and hb0 (fun hS hC=>?_)
        refine rl_pure 6 _ (.tuple #[.agg #[.bool neg,.slice ad n cap,.int .i64 x],.bool ok]) (some 7) rfl (by kernel_rfl) (by kernel_rfl) (by kernel_rfl) (by kernel_rfl) (fun _ _ _ h=>h) (fun _ _=>Iff.rfl) (by kernel_rfl) (fun w=>by kernel_rfl) hC hS (fun hC hS=>?_)
        refine rl_pure 7 _ (.agg #[.bool neg,.slice ad n cap,.int .i64 x]) (some 14) rfl (by kernel_rfl) (by kernel_rfl) (by kernel_rfl) (by kernel_rfl) (fun _ _ _ h=>h) (fun _ _=>Iff.rfl) (by kernel_rfl) (fun w=>by kernel_rfl) hC hS (fun hC hS=>?_)
        refine rl_pure 8 _ (.bool ok) (some 15) rfl (by kernel_rfl) (by kernel_rfl) (by kernel_rfl) (by kernel_rfl) (fun _ _ _ h=>h) (fun _ _=>Iff.rfl) (by kernel_rfl) (fun w=>by kernel_rfl) hC hS (fun hC hS=>?_)
        refine rl_all [9] (by kernel_rfl) (by simp) hC (rl_one _ ?_)
        refine rl_val 9 _ (.pointer (some ⟨W2.heap.size,0,none⟩)) (W2.alloc (.cells #[.bool false,.slice none 0 0,.int .i64 0] 25)) (some 5) rfl (by kernel_rfl) (by kernel_rfl) (by kernel_rfl) ?_
        have hbx:(W2.alloc (.cells #[.bool false,.slice none 0 0,.int .i64 0] 25)).heap[W2.heap.size]? = some (.cells #[.bool false,.slice none 0 0,.int .i64 0] 25):=heap_alloc_new W2 _
        have hba:Below W2.heap.size W2 (W2.alloc (.cells #[.bool false,.slice none 0 0,.int .i64 0] 25)):=(Below.refl _ _).alloc (Nat.le_refl _) _
        have hgb:w.heap.size+1<W2.heap.size:=hzz
        have hgz:W2.heap.size<W1.heap.size∨W2.heap.size≤W2.heap.size:=.inr (Nat.le_refl _)
        replace hml:∀ k,k<W2.heap.size→(W2.alloc (.cells #[.bool false,.slice none 0 0,.int .i64 0] 25)).heap[k]? = W2.heap[k]?:=fun k hk=>hba.block k hk
        replace hsl:W2.heap.size≤(W2.alloc (.cells #[.bool false,.slice none 0 0,.int .i64 0] 25)).heap.size:=hba.size
        replace hbw:=hbw.trans (hba.mono hbw.size)
        replace hb0:=(hba.block _ (Array.getElem?_eq_some_iff.1 hb0).1).trans hb0
        replace hb1:=(hba.block _ (Array.getElem?_eq_some_iff.1 hb1).1).trans hb1
        replace hzz:=Nat.le_trans hzz hba.size
        generalize hWz:W2.alloc (.cells #[.bool false,.slice none 0 0,.int .i64 0] 25)=Z2 at *
        obtain ⟨gb,hgbz⟩:∃ gb,gb=W2.heap.size:=⟨_,rfl⟩
        rw [← hgbz] at hbx hgb ⊢
        replace hgz:gb<W1.heap.size∨W2.heap.size≤gb:=.inr (by rw [hgbz];exact Nat.le_refl _)
        refine rl_and hb0 (fun hS hC=>?_)
        refine rl_all [10] (by kernel_rfl) (by simp) hC (rl_one _ ?_)
        refine rp_storeM 10 _ 25 (.tmp 5) (.tmp 14) gb 0 #[.bool neg,.slice ad n cap,.int .i64 x] rfl (by kernel_rfl) (by kernel_rfl) rfl (by kernel_rfl) (by kernel_rfl) (by kernel_rfl) (by intro u hu;simp at hu;rcases hu with rfl | rfl | rfl <;> rfl) (box3_thereC hbx) ?_
        refine rl_and ((set3_outC (by omega)).trans hS) (fun hS hC=>?_)
        refine rl_pure 11 _ (.bool ok) (some 6) rfl (by kernel_rfl) (by kernel_rfl) (by kernel_rfl) (by kernel_rfl) (fun _ _ _ h=>h) (fun _ _=>Iff.rfl) (by kernel_rfl) (fun w=>by kernel_rfl) hC hS (fun hC hS=>?_)
        refine rl_done (by kernel_rfl) ?_ _
        have HX:=Lib.hid (cutN_mk hz2 hmk hml hsl hgz hgb hbw hb1 hbx)
        clear hbw hb0 hb1 hzz hmk hml hsl hgz hgb hbx hS hC
        refine HJ.out _ _ ?_
        clear HJ
        simp only [Act.put,List.setIfInBounds_toArray,List.set_cons_zero,List.set_cons_succ]
        (repeat apply Exists.intro)
        exact ⟨HX.out,rfl⟩
      · skip
        refine rl_val 9 _ (.pointer (some ⟨W1.heap.size,0,none⟩)) (W1.alloc (.cells #[.bool false,.slice none 0 0,.int .i64 0] 25)) (some 5) rfl (by kernel_rfl) (by kernel_rfl) (by kernel_rfl) ?_
        have hbx:(W1.alloc (.cells #[.bool false,.slice none 0 0,.int .i64 0] 25)).heap[W1.heap.size]? = some (.cells #[.bool false,.slice none 0 0,.int .i64 0] 25):=heap_alloc_new W1 _
        have hba:Below W1.heap.size W1 (W1.alloc (.cells #[.bool false,.slice none 0 0,.int .i64 0] 25)):=(Below.refl _ _).alloc (Nat.le_refl _) _
        have hgb:w.heap.size+1<W1.heap.size:=hzz
        replace hbw:=hbw.trans (hba.mono hbw.size)
        replace hb0:=(hba.block _ (Array.getElem?_eq_some_iff.1 hb0).1).trans hb0
        replace hb1:=(hba.block _ (Array.getElem?_eq_some_iff.1 hb1).1).trans hb1
        replace hzz:=Nat.le_trans hzz hba.size
        replace hlok2:=hlok2.below hba
        generalize hgbz:W1.heap.size=gb at *
        generalize hWz:W1.alloc (.cells #[.bool false,.slice none 0 0,.int .i64 0] 25)=Z1 at *
        refine rl_and hb0 (fun hS hC=>?_)
        refine rl_all [5] (by kernel_rfl) (by simp) hC (rl_one _ ?_)
        refine rc_call 5 _ 155 _ _ _ _ #[.bool nb,.slice sa sn sc,.int .i64 E] (some 13) rfl (by kernel_rfl) (by kernel_rfl) rfl (by kernel_rfl) Tryz.func155 (by kernel_rfl) (by kernel_rfl) (by kernel_rfl) (by have h:=make_cb hlok2 (by decide) nb E HE0.out;rwa [HR.out] at h) ?_
        rintro r' W2 ⟨neg,ad,n,cap,x,ok,rfl,hb,hmk⟩
        have hz2:=hzz
        have hgz:gb<Z1.heap.size∨W2.heap.size≤gb:=.inl (Array.getElem?_eq_some_iff.1 hbx).1
        have hml:∀ k,k<W2.heap.size→W2.heap[k]? = W2.heap[k]?:=fun _ _=>rfl
        have hsl:W2.heap.size≤W2.heap.size:=Nat.le_refl _
        replace hbw:=hbw.trans (hb.mono hbw.size)
        replace hb0:=(hb.block _ (Array.getElem?_eq_some_iff.1 hb0).1).trans hb0
        replace hb1:=(hb.block _ (Array.getElem?_eq_some_iff.1 hb1).1).trans hb1
        replace hzz:=Nat.le_trans hzz hb.size
        replace hbx:=(hb.block _ (Array.getElem?_eq_some_iff.1 hbx).1).trans hbx
        refine ⟨_,rfl,?_⟩
        refine rl_and hb0 (fun hS hC=>?_)
        refine rl_pure 6 _ (.tuple #[.agg #[.bool neg,.slice ad n cap,.int .i64 x],.bool ok]) (some 7) rfl (by kernel_rfl) (by kernel_rfl) (by kernel_rfl) (by kernel_rfl) (fun _ _ _ h=>h) (fun _ _=>Iff.rfl) (by kernel_rfl) (fun w=>by kernel_rfl) hC hS (fun hC hS=>?_)
        refine rl_pure 7 _ (.agg #[.bool neg,.slice ad n cap,.int .i64 x]) (some 14) rfl (by kernel_rfl) (by kernel_rfl) (by kernel_rfl) (by kernel_rfl) (fun _ _ _ h=>h) (fun _ _=>Iff.rfl) (by kernel_rfl) (fun w=>by kernel_rfl) hC hS (fun hC hS=>?_)
        refine rl_pure 8 _ (.bool ok) (some 15) rfl (by kernel_rfl) (by kernel_rfl) (by kernel_rfl) (by kernel_rfl) (fun _ _ _ h=>h) (fun _ _=>Iff.rfl) (by kernel_rfl) (fun w=>by kernel_rfl) hC hS (fun hC hS=>?_)
        refine rl_all [10] (by kernel_rfl) (by simp) hC (rl_one _ ?_)
        refine rp_storeM 10 _ 25 (.tmp 5) (.tmp 14) gb 0 #[.bool neg,.slice ad n cap,.int .i64 x] rfl (by kernel_rfl) (by kernel_rfl) rfl (by kernel_rfl) (by kernel_rfl) (by kernel_rfl) (by intro u hu;simp at hu;rcases hu with rfl | rfl | rfl <;> rfl) (box3_thereC hbx) ?_
        refine rl_and ((set3_outC (by omega)).trans hS) (fun hS hC=>?_)
        refine rl_pure 11 _ (.bool ok) (some 6) rfl (by kernel_rfl) (by kernel_rfl) (by kernel_rfl) (by kernel_rfl) (fun _ _ _ h=>h) (fun _ _=>Iff.rfl) (by kernel_rfl) (fun w=>by kernel_rfl) hC hS (fun hC hS=>?_)
        refine rl_done (by kernel_rfl) ?_ _
        have HX:=Lib.hid (cutN_mk hz2 hmk hml hsl hgz hgb hbw hb1 hbx)
        clear hbw hb0 hb1 hzz hmk hml hsl hgz hgb hbx hS hC
        refine HJ.out _ _ ?_
        clear HJ
        simp only [Act.put,List.setIfInBounds_toArray,List.set_cons_zero,List.set_cons_succ]
        (repeat apply Exists.intro)
        exact ⟨HX.out,rfl⟩
    · skip
      refine rl_val 9 _ (.pointer (some ⟨W0.heap.size,0,none⟩)) (W0.alloc (.cells #[.bool false,.slice none 0 0,.int .i64 0] 25)) (some 5) rfl (by kernel_rfl) (by kernel_rfl) (by kernel_rfl) ?_
      have hbx:(W0.alloc (.cells #[.bool false,.slice none 0 0,.int .i64 0] 25)).heap[W0.heap.size]? = some (.cells #[.bool false,.slice none 0 0,.int .i64 0] 25):=heap_alloc_new W0 _
      have hba:Below W0.heap.size W0 (W0.alloc (.cells #[.bool false,.slice none 0 0,.int .i64 0] 25)):=(Below.refl _ _).alloc (Nat.le_refl _) _
      have hgb:w.heap.size+1<W0.heap.size:=hzz
      replace hbw:=hbw.trans (hba.mono hbw.size)
      replace hb0:=(hba.block _ (Array.getElem?_eq_some_iff.1 hb0).1).trans hb0
      replace hb1:=(hba.block _ (Array.getElem?_eq_some_iff.1 hb1).1).trans hb1
      replace hzz:=Nat.le_trans hzz hba.size
      replace hlok:=hlok.below hba
      generalize hgbz:W0.heap.size=gb at *
      generalize hWz:W0.alloc (.cells #[.bool false,.slice none 0 0,.int .i64 0] 25)=Z0 at *
      refine rl_and hb0 (fun hS hC=>?_)
      refine rl_all [3] (by kernel_rfl) (by simp) hC (rl_one _ ?_)
      refine rc_call 3 _ 156 _ _ _ _ #[.agg #[.bool nb,.slice ua un uc]] (some 11) rfl (by kernel_rfl) (by kernel_rfl) rfl (by kernel_rfl) Tryz.func156 (by kernel_rfl) (by kernel_rfl) (by kernel_rfl) (size_cb hlok) ?_
      rintro r' W1 ⟨sa,sn,sc,sx,rfl,hlok2,hb⟩
      replace hbw:=hbw.trans (hb.mono hbw.size)
      replace hb0:=(hb.block _ (Array.getElem?_eq_some_iff.1 hb0).1).trans hb0
      replace hb1:=(hb.block _ (Array.getElem?_eq_some_iff.1 hb1).1).trans hb1
      replace hzz:=Nat.le_trans hzz hb.size
      replace hbx:=(hb.block _ (Array.getElem?_eq_some_iff.1 hbx).1).trans hbx
      refine ⟨_,rfl,?_⟩
      refine rl_and hb0 (fun hS hC=>?_)
      refine rl_all [5] (by kernel_rfl) (by simp) hC (rl_one _ ?_)
      refine rc_call 5 _ 155 _ _ _ _ #[.bool nb,.slice sa sn sc,.int .i64 E] (some 13) rfl (by kernel_rfl) (by kernel_rfl) rfl (by kernel_rfl) Tryz.func155 (by kernel_rfl) (by kernel_rfl) (by kernel_rfl) (by have h:=make_cb hlok2 (by decide) nb E HE0.out;rwa [HR.out] at h) ?_
      rintro r' W2 ⟨neg,ad,n,cap,x,ok,rfl,hb,hmk⟩
      have hz2:=hzz
      have hgz:gb<W1.heap.size∨W2.heap.size≤gb:=.inl (Array.getElem?_eq_some_iff.1 hbx).1
      have hml:∀ k,k<W2.heap.size→W2.heap[k]? = W2.heap[k]?:=fun _ _=>rfl
      have hsl:W2.heap.size≤W2.heap.size:=Nat.le_refl _
      replace hbw:=hbw.trans (hb.mono hbw.size)
      replace hb0:=(hb.block _ (Array.getElem?_eq_some_iff.1 hb0).1).trans hb0
      replace hb1:=(hb.block _ (Array.getElem?_eq_some_iff.1 hb1).1).trans hb1
      replace hzz:=Nat.le_trans hzz hb.size
      replace hbx:=(hb.block _ (Array.getElem?_eq_some_iff.1 hbx).1).trans hbx
      refine ⟨_,rfl,?_⟩
      refine rl_and hb0 (fun hS hC=>?_)
      refine rl_pure 6 _ (.tuple #[.agg #[.bool neg,.slice ad n cap,.int .i64 x],.bool ok]) (some 7) rfl (by kernel_rfl) (by kernel_rfl) (by kernel_rfl) (by kernel_rfl) (fun _ _ _ h=>h) (fun _ _=>Iff.rfl) (by kernel_rfl) (fun w=>by kernel_rfl) hC hS (fun hC hS=>?_)
      refine rl_pure 7 _ (.agg #[.bool neg,.slice ad n cap,.int .i64 x]) (some 14) rfl (by kernel_rfl) (by kernel_rfl) (by kernel_rfl) (by kernel_rfl) (fun _ _ _ h=>h) (fun _ _=>Iff.rfl) (by kernel_rfl) (fun w=>by kernel_rfl) hC hS (fun hC hS=>?_)
      refine rl_pure 8 _ (.bool ok) (some 15) rfl (by kernel_rfl) (by kernel_rfl) (by kernel_rfl) (by kernel_rfl) (fun _ _ _ h=>h) (fun _ _=>Iff.rfl) (by kernel_rfl) (fun w=>by kernel_rfl) hC hS (fun hC hS=>?_)
      refine rl_all [10] (by kernel_rfl) (by simp) hC (rl_one _ ?_)
      refine rp_storeM 10 _ 25 (.tmp 5) (.tmp 14) gb 0 #[.bool neg,.slice ad n cap,.int .i64 x] rfl (by kernel_rfl) (by kernel_rfl) rfl (by kernel_rfl) (by kernel_rfl) (by kernel_rfl) (by intro u hu;simp at hu;rcases hu with rfl | rfl | rfl <;> rfl) (box3_thereC hbx) ?_
      refine rl_and ((set3_outC (by omega)).trans hS) (fun hS hC=>?_)
      refine rl_pure 11 _ (.bool ok) (some 6) rfl (by kernel_rfl) (by kernel_rfl) (by kernel_rfl) (by kernel_rfl) (fun _ _ _ h=>h) (fun _ _=>Iff.rfl) (by kernel_rfl) (fun w=>by kernel_rfl) hC hS (fun hC hS=>?_)
      refine rl_done (by kernel_rfl) ?_ _
      have HX:=Lib.hid (cutN_mk hz2 hmk hml hsl hgz hgb hbw hb1 hbx)
      clear hbw hb0 hb1 hzz hmk hml hsl hgz hgb hbx hS hC
      refine HJ.out _ _ ?_
      clear HJ
      simp only [Act.put,List.setIfInBounds_toArray,List.set_cons_zero,List.set_cons_succ]
      (repeat apply Exists.intro)
      exact ⟨HX.out,rfl⟩
  case rest =>
    obtain ⟨gb,neg,ad,n,cap,x,ok,rfl,rfl,hgb,hbw,hb1,hbx,hmk⟩:=hcut
    have HBW:=Lib.hid hbw
    cases hRR:R with
    | none =>
      rw [hRR] at hmk
      obtain rfl:ok=false:=hmk
      have HE:=Lib.hid (HNO.out hRR)
      clear hbw hb1 hbx hRR
      go_wp2_with fail
      exact ⟨rfl,ValN.no HE.out HBW.out⟩
    | some p =>
      rw [hRR] at hmk
      obtain ⟨rfl,rfl,hn,rfl,hcap,hind⟩:=hmk
      have HE:=Lib.hid (HYES.out p hRR)
      have hfin:=num_fin hbw (Array.getElem?_eq_some_iff.1 hb1).1 hn hcap (HBD.out p hRR) hind (.int .i64 3) (.bool false) (.bool p.1) (.slice ad n cap) (.int .i64 p.2.2) (.string ⟨#[]⟩) (.slice none 0 0) (.slice none 0 0)
      have HFIN:=Lib.hid hfin
      have HN:=Lib.hid hn
      have x0:wc.cell? ⟨gb,0,none⟩=some (.bool p.1):=cellOf hbx 0 rfl
      have x1:wc.cell? ⟨gb,1,none⟩=some (.slice ad n cap):=cellOf hbx 1 rfl
      have x2:wc.cell? ⟨gb,2,none⟩=some (.int .i64 p.2.2):=cellOf hbx 2 rfl
      have y0:wc.cell? ⟨w.heap.size+1,0,none⟩=some (.int .i64 0):=cellOf hb1 0 rfl
      have z0:=freeOf hb1 0
      have y1:wc.cell? ⟨w.heap.size+1,1,none⟩=some (.bool false):=cellOf hb1 1 rfl
      have z1:=freeOf hb1 1
      have y2:wc.cell? ⟨w.heap.size+1,2,none⟩=some (.bool false):=cellOf hb1 2 rfl
      have z2:=freeOf hb1 2
      have y3:wc.cell? ⟨w.heap.size+1,3,none⟩=some (.slice none 0 0):=cellOf hb1 3 rfl
      have z3:=freeOf hb1 3
      have y4:wc.cell? ⟨w.heap.size+1,4,none⟩=some (.int .i64 0):=cellOf hb1 4 rfl
      have z4:=freeOf hb1 4
      have y5:wc.cell? ⟨w.heap.size+1,5,none⟩=some (.string ⟨#[]⟩):=cellOf hb1 5 rfl
      have z5:=freeOf hb1 5
      have y6:wc.cell? ⟨w.heap.size+1,6,none⟩=some (.slice none 0 0):=cellOf hb1 6 rfl
      have z6:=freeOf hb1 6
      have y7:wc.cell? ⟨w.heap.size+1,7,none⟩=some (.slice none 0 0):=cellOf hb1 7 rfl
      have z7:=freeOf hb1 7
      have n1:¬ gb=w.heap.size+1:=by omega
      have n2:¬ w.heap.size+1=gb:=by omega
      clear hbw hb1 hbx hind hRR hfin hn hcap
      go_wp2_with fail
      refine bodyPost_ret (v:=.agg #[.int .i64 3,.bool false,.bool p.1,.slice ad n cap,.int .i64 p.2.2,.string ⟨#[]⟩,.slice none 0 0,.slice none 0 0]) (by simp [results,Tryz.results113,go_sem,y0,y1,y2,y3,y4,y5,y6,y7,n1,n2]) rfl ?_
      exact ValN.yes (numT p.1 ad n cap p.2.2 (limbs p.2.1)) HE.out rfl (by rw [numT_bareC,HN.out];rfl) HFIN.out.1 HFIN.out.2
theorem shl16C {P:Program} (w:World) (ev:Operand→Value) (o:Oper) (ty ty':TypeId) (x y:Operand) (j:Nat) {r:Int} (ho:o.op=.binOp .shl ty x y ty') (hx:ev x=.int .i64 16) (hy:ev y=.int .i64 (j:Int)) (hj:j≤6) (hr:((16*2 ^ j:Nat):Int)=r) :
    (execOp ev o).run P w=.ok (.value (.int .i64 r)) w:=by
  have hq:j=0∨j=1∨j=2∨j=3∨j=4∨j=5∨j=6:=by omega
  subst hr
  rcases hq with rfl | rfl | rfl | rfl | rfl | rfl | rfl <;> simp [execOp,ho,hx,hy,go_sem,binOp,Op.shift] <;> rfl
theorem simple_cb (m i k:Nat) (w:World) (hi:i<32) (hk:k<18446744073709551616):Calls Tryz.prog 110 #[hdV (m,i,k)] w (ValN w (cbSimple (m,i,k))):=by
  unfold hdV
  have HW2:=Lib.hid (fun o1 o2:Obj=>((Below.refl w.heap.size w).alloc (Nat.le_refl _) o1).alloc (by simp) o2)
  by_cases h20:i=20
  · have HE:Hid (cbSimple (m,i,k)=.inl (leafT 2 false ⟨#[]⟩)):=Lib.hid (by simp [cbSimple,h20])
    have b20:((i:Int) == 20)=true:=by rw [beq_iff_eq];omega
    clear h20
    go_enter Tryz.func110,Tryz.ntmps110
    go_wp2_with fail
    refine bodyPost_ret (v:=.agg #[.int .i64 2,.bool false,.bool false,.slice none 0 0,.int .i64 0,.string ⟨#[]⟩,.slice none 0 0,.slice none 0 0]) (by simp [results,Tryz.results110,go_sem]) rfl ?_
    exact ValN.yes (leafT 2 false ⟨#[]⟩) HE.out rfl (by rw [MT.bare_eq];rfl) (fun W _ _=>leafT_rep W 2 false ⟨#[]⟩ (by decide) (by decide)) (HW2.out _ _)
  by_cases h21:i=21
  · have HE:Hid (cbSimple (m,i,k)=.inl (leafT 2 true ⟨#[]⟩)):=Lib.hid (by simp [cbSimple,h21])
    have b20:((i:Int) == 20)=false:=by rw [beq_eq_false_iff_ne];omega
    have b21:((i:Int) == 21)=true:=by rw [beq_iff_eq];omega
    clear h20 h21
    go_enter Tryz.func110,Tryz.ntmps110
    go_wp2_with fail
    refine bodyPost_ret (v:=.agg #[.int .i64 2,.bool true,.bool false,.slice none 0 0,.int .i64 0,.string ⟨#[]⟩,.slice none 0 0,.slice none 0 0]) (by simp [results,Tryz.results110,go_sem]) rfl ?_
    exact ValN.yes (leafT 2 true ⟨#[]⟩) HE.out rfl (by rw [MT.bare_eq];rfl) (fun W _ _=>leafT_rep W 2 true ⟨#[]⟩ (by decide) (by decide)) (HW2.out _ _)
  by_cases h22:i=22
  · have HE:Hid (cbSimple (m,i,k)=.inl (leafT 1 false ⟨#[]⟩)):=Lib.hid (by simp [cbSimple,h22])
    have b20:((i:Int) == 20)=false:=by rw [beq_eq_false_iff_ne];omega
    have b21:((i:Int) == 21)=false:=by rw [beq_eq_false_iff_ne];omega
    have b22:((i:Int) == 22)=true:=by rw [beq_iff_eq];omega
    clear h20 h21 h22
    go_enter Tryz.func110,Tryz.ntmps110
    go_wp2_with fail
    refine bodyPost_ret (v:=.agg #[.int .i64 1,.bool false,.bool false,.slice none 0 0,.int .i64 0,.string ⟨#[]⟩,.slice none 0 0,.slice none 0 0]) (by simp [results,Tryz.results110,go_sem]) rfl ?_
    exact ValN.yes (leafT 1 false ⟨#[]⟩) HE.out rfl (by rw [MT.bare_eq];rfl) (fun W _ _=>leafT_rep W 1 false ⟨#[]⟩ (by decide) (by decide)) (HW2.out _ _)
  have b20:((i:Int) == 20)=false:=by rw [beq_eq_false_iff_ne];omega
  have b21:((i:Int) == 21)=false:=by rw [beq_eq_false_iff_ne];omega
  have b22:((i:Int) == 22)=false:=by rw [beq_eq_false_iff_ne];omega
  by_cases h24:i=24
  · have b24:((i:Int) == 24)=true:=by rw [beq_iff_eq];omega
    by_cases h31:k≤31
    · have HE:Hid (cbSimple (m,i,k)=.inr 2):=Lib.hid (by simp [cbSimple,h24,h31])
      clear h20 h21 h22 h24
      go_enter Tryz.func110,Tryz.ntmps110
      go_wp2_with fail
      exact ⟨rfl,ValN.no HE.out (HW2.out _ _)⟩
    · have HE:Hid (cbSimple (m,i,k)=.inr 3):=Lib.hid (by simp [cbSimple,h24,h31])
      have b25:i<25:=by omega
      clear h20 h21 h22 h24
      go_enter Tryz.func110,Tryz.ntmps110
      go_wp2_with fail
      exact ⟨rfl,ValN.no HE.out (HW2.out _ _)⟩
  have b24:((i:Int) == 24)=false:=by rw [beq_eq_false_iff_ne];omega
  by_cases h25:i<25
  · have HE:Hid (cbSimple (m,i,k)=.inr 3):=Lib.hid (by simp [cbSimple,h20,h21,h22,h24,h25])
    clear h20 h21 h22 h24
    go_enter Tryz.func110,Tryz.ntmps110
    go_wp2_with fail
    exact ⟨rfl,ValN.no HE.out (HW2.out _ _)⟩
  obtain ⟨j,hj⟩:∃ j,i - 25=j:=⟨_,rfl⟩
  have hj6:j≤6:=by omega
  have HJJ:Hid ((i:Int) - 25=(j:Int)):=Lib.hid (by omega)
  obtain ⟨Wd,hWd⟩:∃ Wd:Int,((16*2 ^ j:Nat):Int)=Wd:=⟨_,rfl⟩
  have HWD:=Lib.hid hWd
  obtain ⟨R,hR⟩:∃ R,exactN Wd k=R:=⟨_,rfl⟩
  have HNO:Hid (R=none→cbSimple (m,i,k)=.inr 3):=Lib.hid (fun h=>by unfold cbSimple;simp only [h20,h21,h22,h24,h25,if_false,false_and];rw [hj,hWd,hR,h])
  have HYES:Hid (∀ p,R=some p→cbSimple (m,i,k)=.inl (bnumC p)):=Lib.hid (fun p h=>by unfold cbSimple;simp only [h20,h21,h22,h24,h25,if_false,false_and];rw [hj,hWd,hR,h])
  have HBD:Hid (BdR R):=Lib.hid (by rw [← hR];exact exactN_bd _ _)
  have HK:=Lib.hid hk
  have HW:=Lib.hid (HW2.out (.cells #[.int .i64 (m:Int),.int .i64 (i:Int),.int .u64 (k:Int)] 111) (.cells #[.int .i64 0,.bool false,.bool false,.slice none 0 0,.int .i64 0,.string ⟨#[]⟩,.slice none 0 0,.slice none 0 0] 29))
  have hq0:((w.alloc (.cells #[.int .i64 (m:Int),.int .i64 (i:Int),.int .u64 (k:Int)] 111)).alloc (.cells #[.int .i64 0,.bool false,.bool false,.slice none 0 0,.int .i64 0,.string ⟨#[]⟩,.slice none 0 0,.slice none 0 0] 29)).heap[w.heap.size]? = some (.cells #[.int .i64 (m:Int),.int .i64 (i:Int),.int .u64 (k:Int)] 111):=(Below.heap_alloc _ _ _ (by simp)).trans (heap_alloc_new w _)
  have hq1:((w.alloc (.cells #[.int .i64 (m:Int),.int .i64 (i:Int),.int .u64 (k:Int)] 111)).alloc (.cells #[.int .i64 0,.bool false,.bool false,.slice none 0 0,.int .i64 0,.string ⟨#[]⟩,.slice none 0 0,.slice none 0 0] 29)).heap[w.heap.size+1]? = some (.cells #[.int .i64 0,.bool false,.bool false,.slice none 0 0,.int .i64 0,.string ⟨#[]⟩,.slice none 0 0,.slice none 0 0] 29):=by
    have:=heap_alloc_new (w.alloc (.cells #[.int .i64 (m:Int),.int .i64 (i:Int),.int .u64 (k:Int)] 111)) (.cells #[.int .i64 0,.bool false,.bool false,.slice none 0 0,.int .i64 0,.string ⟨#[]⟩,.slice none 0 0,.slice none 0 0] 29)
    simpa using this
  have hq2:w.heap.size+2≤((w.alloc (.cells #[.int .i64 (m:Int),.int .i64 (i:Int),.int .u64 (k:Int)] 111)).alloc (.cells #[.int .i64 0,.bool false,.bool false,.slice none 0 0,.int .i64 0,.string ⟨#[]⟩,.slice none 0 0,.slice none 0 0] 29)).heap.size:=by simp
  have HQ0:=Lib.hid hq0;have HQ1:=Lib.hid hq1;have HQ2:=Lib.hid hq2
  have HR:=Lib.hid hR
  clear hq0 hq1 hq2 hR hk hj hWd h20 h21 h22 h24
  go_enter Tryz.func110,Tryz.ntmps110
  go_upto_region 11 with fail
  go_cut [3,4] from 35 to 44 (fun p q W=>CutN w R p q W)
  case first =>
    rename_i J K hJ hK
    have HJ:=Lib.hid hJ
    refine rc_first J hK ?_
    clear hJ hK
    refine rl_start (S:=fun _ W=>W.heap[w.heap.size]? = some (.cells #[.int .i64 (m:Int),.int .i64 (i:Int),.int .u64 (k:Int)] 111)) (by kernel_rfl) HQ0.out (fun hC hS=>?_)
    have hbw:=below_drew HW.out
    have hb0:((w.alloc (.cells #[.int .i64 (m:Int),.int .i64 (i:Int),.int .u64 (k:Int)] 111)).alloc (.cells #[.int .i64 0,.bool false,.bool false,.slice none 0 0,.int .i64 0,.string ⟨#[]⟩,.slice none 0 0,.slice none 0 0] 29)).drew.heap[w.heap.size]? = some (.cells #[.int .i64 (m:Int),.int .i64 (i:Int),.int .u64 (k:Int)] 111):=HQ0.out
    have hb1:((w.alloc (.cells #[.int .i64 (m:Int),.int .i64 (i:Int),.int .u64 (k:Int)] 111)).alloc (.cells #[.int .i64 0,.bool false,.bool false,.slice none 0 0,.int .i64 0,.string ⟨#[]⟩,.slice none 0 0,.slice none 0 0] 29)).drew.heap[w.heap.size+1]? = some (.cells #[.int .i64 0,.bool false,.bool false,.slice none 0 0,.int .i64 0,.string ⟨#[]⟩,.slice none 0 0,.slice none 0 0] 29):=HQ1.out
    have hzz:w.heap.size+2≤((w.alloc (.cells #[.int .i64 (m:Int),.int .i64 (i:Int),.int .u64 (k:Int)] 111)).alloc (.cells #[.int .i64 0,.bool false,.bool false,.slice none 0 0,.int .i64 0,.string ⟨#[]⟩,.slice none 0 0,.slice none 0 0] 29)).drew.heap.size:=HQ2.out
    generalize hW0:((w.alloc (.cells #[.int .i64 (m:Int),.int .i64 (i:Int),.int .u64 (k:Int)] 111)).alloc (.cells #[.int .i64 0,.bool false,.bool false,.slice none 0 0,.int .i64 0,.string ⟨#[]⟩,.slice none 0 0,.slice none 0 0] 29)).drew=W0 at *
    refine rl_pure 0 _ (.pointer (some ⟨w.heap.size,1,none⟩)) (some 36) rfl (by kernel_rfl) (by kernel_rfl) (by kernel_rfl) (by kernel_rfl) (fun _ _ _ h=>h) (fun _ _=>Iff.rfl) (by kernel_rfl) (fun w=>by kernel_rfl) hC hS (fun hC hS=>?_)
    refine rl_load1 1 _ 3 (.tmp 36) ⟨w.heap.size,1,none⟩ (.int .i64 (i:Int)) _ (some 37) rfl (by kernel_rfl) (by kernel_rfl) (by kernel_rfl) (by kernel_rfl) (fun _ _ _ h=>h) (fun _ _=>Iff.rfl) (by kernel_rfl) rfl (by kernel_rfl) Tryz.underlying3 rfl (fun L W hC h1 hS=>cellOf hS 1 rfl) hC hS (fun hC hS=>?_)
    refine rl_pure 2 _ (.int .i64 (j:Int)) (some 38) rfl (by kernel_rfl) (by kernel_rfl) (by kernel_rfl) (by kernel_rfl) (fun _ _ _ h=>h) (fun _ _=>Iff.rfl) (by kernel_rfl) (fun w=>rd_sub w _ _ _ _ _ _ (i:Int) 25 (j:Int) rfl (by kernel_rfl) (by kernel_rfl) HJJ.out (by omega) (by omega)) hC hS (fun hC hS=>?_)
    refine rl_pure 3 _ (.int .i64 Wd) (some 39) rfl (by kernel_rfl) (by kernel_rfl) (by kernel_rfl) (by kernel_rfl) (fun _ _ _ h=>h) (fun _ _=>Iff.rfl) (by kernel_rfl) (fun w=>shl16C w _ _ _ _ _ _ j rfl (by kernel_rfl) (by kernel_rfl) hj6 HWD.out) hC hS (fun hC hS=>?_)
    refine rl_pure 4 _ (.pointer (some ⟨w.heap.size,2,none⟩)) (some 40) rfl (by kernel_rfl) (by kernel_rfl) (by kernel_rfl) (by kernel_rfl) (fun _ _ _ h=>h) (fun _ _=>Iff.rfl) (by kernel_rfl) (fun w=>by kernel_rfl) hC hS (fun hC hS=>?_)
    refine rl_load1 5 _ 79 (.tmp 40) ⟨w.heap.size,2,none⟩ (.int .u64 (k:Int)) _ (some 41) rfl (by kernel_rfl) (by kernel_rfl) (by kernel_rfl) (by kernel_rfl) (fun _ _ _ h=>h) (fun _ _=>Iff.rfl) (by kernel_rfl) rfl (by kernel_rfl) Tryz.underlying79 rfl (fun L W hC h1 hS=>cellOf hS 2 rfl) hC hS (fun hC hS=>?_)
    refine rl_all [6,10] (by kernel_rfl) (by simp) hC (rl_two _ _ ?_ ?_)
    · skip
      refine rc_call 6 _ 152 _ _ _ _ #[.int .i64 Wd,.int .u64 (k:Int)] (some 42) rfl (by kernel_rfl) (by kernel_rfl) rfl (by kernel_rfl) Tryz.func152 (by kernel_rfl) (by kernel_rfl) (by kernel_rfl) (by have h:=exact_cb Wd k HK.out W0;rwa [HR.out] at h) ?_
      rintro r' W1 ⟨neg,ad,n,cap,x,ok,rfl,hb,hmk⟩
      have hz2:=hzz
      have hml:∀ k,k<W1.heap.size→W1.heap[k]? = W1.heap[k]?:=fun _ _=>rfl
      have hsl:W1.heap.size≤W1.heap.size:=Nat.le_refl _
      replace hbw:=hbw.trans (hb.mono hbw.size)
      replace hb0:=(hb.block _ (Array.getElem?_eq_some_iff.1 hb0).1).trans hb0
      replace hb1:=(hb.block _ (Array.getElem?_eq_some_iff.1 hb1).1).trans hb1
      replace hzz:=Nat.le_trans hzz hb.size
      refine ⟨_,rfl,?_⟩
      refine rl_and hb0 (fun hS hC=>?_)
      refine rl_pure 7 _ (.tuple #[.agg #[.bool neg,.slice ad n cap,.int .i64 x],.bool ok]) (some 35) rfl (by kernel_rfl) (by kernel_rfl) (by kernel_rfl) (by kernel_rfl) (fun _ _ _ h=>h) (fun _ _=>Iff.rfl) (by kernel_rfl) (fun w=>by kernel_rfl) hC hS (fun hC hS=>?_)
      refine rl_pure 8 _ (.agg #[.bool neg,.slice ad n cap,.int .i64 x]) (some 43) rfl (by kernel_rfl) (by kernel_rfl) (by kernel_rfl) (by kernel_rfl) (fun _ _ _ h=>h) (fun _ _=>Iff.rfl) (by kernel_rfl) (fun w=>by kernel_rfl) hC hS (fun hC hS=>?_)
      refine rl_pure 9 _ (.bool ok) (some 44) rfl (by kernel_rfl) (by kernel_rfl) (by kernel_rfl) (by kernel_rfl) (fun _ _ _ h=>h) (fun _ _=>Iff.rfl) (by kernel_rfl) (fun w=>by kernel_rfl) hC hS (fun hC hS=>?_)
      refine rl_all [10] (by kernel_rfl) (by simp) hC (rl_one _ ?_)
      refine rl_val 10 _ (.pointer (some ⟨W1.heap.size,0,none⟩)) (W1.alloc (.cells #[.bool false,.slice none 0 0,.int .i64 0] 25)) (some 3) rfl (by kernel_rfl) (by kernel_rfl) (by kernel_rfl) ?_
      have hbx:(W1.alloc (.cells #[.bool false,.slice none 0 0,.int .i64 0] 25)).heap[W1.heap.size]? = some (.cells #[.bool false,.slice none 0 0,.int .i64 0] 25):=heap_alloc_new W1 _
      have hba:Below W1.heap.size W1 (W1.alloc (.cells #[.bool false,.slice none 0 0,.int .i64 0] 25)):=(Below.refl _ _).alloc (Nat.le_refl _) _
      have hgb:w.heap.size+1<W1.heap.size:=hzz
      have hgz:W1.heap.size<W0.heap.size∨W1.heap.size≤W1.heap.size:=.inr (Nat.le_refl _)
      replace hml:∀ k,k<W1.heap.size→(W1.alloc (.cells #[.bool false,.slice none 0 0,.int .i64 0] 25)).heap[k]? = W1.heap[k]?:=fun k hk=>hba.block k hk
      replace hsl:W1.heap.size≤(W1.alloc (.cells #[.bool false,.slice none 0 0,.int .i64 0] 25)).heap.size:=hba.size
      replace hbw:=hbw.trans (hba.mono hbw.size)
      replace hb0:=(hba.block _ (Array.getElem?_eq_some_iff.1 hb0).1).trans hb0
      replace hb1:=(hba.block _ (Array.getElem?_eq_some_iff.1 hb1).1).trans hb1
      replace hzz:=Nat.le_trans hzz hba.size
      generalize hWz:W1.alloc (.cells #[.bool false,.slice none 0 0,.int .i64 0] 25)=Z1 at *
      obtain ⟨gb,hgbz⟩:∃ gb,gb=W1.heap.size:=⟨_,rfl⟩
      rw [← hgbz] at hbx hgb ⊢
      replace hgz:gb<W0.heap.size∨W1.heap.size≤gb:=.inr (by rw [hgbz];exact Nat.le_refl _)
      refine rl_and hb0 (fun hS hC=>?_)
      refine rl_all [11] (by kernel_rfl) (by simp) hC (rl_one _ ?_)
      refine rp_storeM 11 _ 25 (.tmp 3) (.tmp 43) gb 0 #[.bool neg,.slice ad n cap,.int .i64 x] rfl (by kernel_rfl) (by kernel_rfl) rfl (by kernel_rfl) (by kernel_rfl) (by kernel_rfl) (by intro u hu;simp at hu;rcases hu with rfl | rfl | rfl <;> rfl) (box3_thereC hbx) ?_
      refine rl_and ((set3_outC (by omega)).trans hS) (fun hS hC=>?_)
      refine rl_pure 12 _ (.bool ok) (some 4) rfl (by kernel_rfl) (by kernel_rfl) (by kernel_rfl) (by kernel_rfl) (fun _ _ _ h=>h) (fun _ _=>Iff.rfl) (by kernel_rfl) (fun w=>by kernel_rfl) hC hS (fun hC hS=>?_)
      refine rl_done (by kernel_rfl) ?_ _
      have HX:=Lib.hid (cutN_mk hz2 hmk hml hsl hgz hgb hbw hb1 hbx)
      clear hbw hb0 hb1 hzz hmk hml hsl hgz hgb hbx hS hC
      refine HJ.out _ _ ?_
      clear HJ
      simp only [Act.put,List.setIfInBounds_toArray,List.set_cons_zero,List.set_cons_succ]
      (repeat apply Exists.intro)
      exact ⟨HX.out,rfl⟩
    · skip
      refine rl_val 10 _ (.pointer (some ⟨W0.heap.size,0,none⟩)) (W0.alloc (.cells #[.bool false,.slice none 0 0,.int .i64 0] 25)) (some 3) rfl (by kernel_rfl) (by kernel_rfl) (by kernel_rfl) ?_
      have hbx:(W0.alloc (.cells #[.bool false,.slice none 0 0,.int .i64 0] 25)).heap[W0.heap.size]? = some (.cells #[.bool false,.slice none 0 0,.int .i64 0] 25):=heap_alloc_new W0 _
      have hba:Below W0.heap.size W0 (W0.alloc (.cells #[.bool false,.slice none 0 0,.int .i64 0] 25)):=(Below.refl _ _).alloc (Nat.le_refl _) _
      have hgb:w.heap.size+1<W0.heap.size:=hzz
      replace hbw:=hbw.trans (hba.mono hbw.size)
      replace hb0:=(hba.block _ (Array.getElem?_eq_some_iff.1 hb0).1).trans hb0
      replace hb1:=(hba.block _ (Array.getElem?_eq_some_iff.1 hb1).1).trans hb1
      replace hzz:=Nat.le_trans hzz hba.size
      generalize hgbz:W0.heap.size=gb at *
      generalize hWz:W0.alloc (.cells #[.bool false,.slice none 0 0,.int .i64 0] 25)=Z0 at *
      refine rl_and hb0 (fun hS hC=>?_)
      refine rl_all [6] (by kernel_rfl) (by simp) hC (rl_one _ ?_)
      refine rc_call 6 _ 152 _ _ _ _ #[.int .i64 Wd,.int .u64 (k:Int)] (some 42) rfl (by kernel_rfl) (by kernel_rfl) rfl (by kernel_rfl) Tryz.func152 (by kernel_rfl) (by kernel_rfl) (by kernel_rfl) (by have h:=exact_cb Wd k HK.out Z0;rwa [HR.out] at h) ?_
      rintro r' W1 ⟨neg,ad,n,cap,x,ok,rfl,hb,hmk⟩
      have hz2:=hzz
      have hgz:gb<Z0.heap.size∨W1.heap.size≤gb:=.inl (Array.getElem?_eq_some_iff.1 hbx).1
      have hml:∀ k,k<W1.heap.size→W1.heap[k]? = W1.heap[k]?:=fun _ _=>rfl
      have hsl:W1.heap.size≤W1.heap.size:=Nat.le_refl _
      replace hbw:=hbw.trans (hb.mono hbw.size)
      replace hb0:=(hb.block _ (Array.getElem?_eq_some_iff.1 hb0).1).trans hb0
      replace hb1:=(hb.block _ (Array.getElem?_eq_some_iff.1 hb1).1).trans hb1
      replace hzz:=Nat.le_trans hzz hb.size
      replace hbx:=(hb.block _ (Array.getElem?_eq_some_iff.1 hbx).1).trans hbx
      refine ⟨_,rfl,?_⟩
      refine rl_and hb0 (fun hS hC=>?_)
      refine rl_pure 7 _ (.tuple #[.agg #[.bool neg,.slice ad n cap,.int .i64 x],.bool ok]) (some 35) rfl (by kernel_rfl) (by kernel_rfl) (by kernel_rfl) (by kernel_rfl) (fun _ _ _ h=>h) (fun _ _=>Iff.rfl) (by kernel_rfl) (fun w=>by kernel_rfl) hC hS (fun hC hS=>?_)
      refine rl_pure 8 _ (.agg #[.bool neg,.slice ad n cap,.int .i64 x]) (some 43) rfl (by kernel_rfl) (by kernel_rfl) (by kernel_rfl) (by kernel_rfl) (fun _ _ _ h=>h) (fun _ _=>Iff.rfl) (by kernel_rfl) (fun w=>by kernel_rfl) hC hS (fun hC hS=>?_)
      refine rl_pure 9 _ (.bool ok) (some 44) rfl (by kernel_rfl) (by kernel_rfl) (by kernel_rfl) (by kernel_rfl) (fun _ _ _ h=>h) (fun _ _=>Iff.rfl) (by kernel_rfl) (fun w=>by kernel_rfl) hC hS (fun hC hS=>?_)
      refine rl_all [11] (by kernel_rfl) (by simp) hC (rl_one _ ?_)
      refine rp_storeM 11 _ 25 (.tmp 3) (.tmp 43) gb 0 #[.bool neg,.slice ad n cap,.int .i64 x] rfl (by kernel_rfl) (by kernel_rfl) rfl (by kernel_rfl) (by kernel_rfl) (by kernel_rfl) (by intro u hu;simp at hu;rcases hu with rfl | rfl | rfl <;> rfl) (box3_thereC hbx) ?_
      refine rl_and ((set3_outC (by omega)).trans hS) (fun hS hC=>?_)
      refine rl_pure 12 _ (.bool ok) (some 4) rfl (by kernel_rfl) (by kernel_rfl) (by kernel_rfl) (by kernel_rfl) (fun _ _ _ h=>h) (fun _ _=>Iff.rfl) (by kernel_rfl) (fun w=>by kernel_rfl) hC hS (fun hC hS=>?_)
      refine rl_done (by kernel_rfl) ?_ _
      have HX:=Lib.hid (cutN_mk hz2 hmk hml hsl hgz hgb hbw hb1 hbx)
      clear hbw hb0 hb1 hzz hmk hml hsl hgz hgb hbx hS hC
      refine HJ.out _ _ ?_
      clear HJ
      simp only [Act.put,List.setIfInBounds_toArray,List.set_cons_zero,List.set_cons_succ]
      (repeat apply Exists.intro)
      exact ⟨HX.out,rfl⟩
  case rest =>
    obtain ⟨gb,neg,ad,n,cap,x,ok,rfl,rfl,hgb,hbw,hb1,hbx,hmk⟩:=hcut
    have HBW:=Lib.hid hbw
    cases hRR:R with
    | none =>
      rw [hRR] at hmk
      obtain rfl:ok=false:=hmk
      have HE:=Lib.hid (HNO.out hRR)
      clear hbw hb1 hbx hRR
      go_wp2_with fail
      exact ⟨rfl,ValN.no HE.out HBW.out⟩
    | some p =>
      rw [hRR] at hmk
      obtain ⟨rfl,rfl,hn,rfl,hcap,hind⟩:=hmk
      have HE:=Lib.hid (HYES.out p hRR)
      have hfin:=num_fin hbw (Array.getElem?_eq_some_iff.1 hb1).1 hn hcap (HBD.out p hRR) hind (.int .i64 3) (.bool false) (.bool p.1) (.slice ad n cap) (.int .i64 p.2.2) (.string ⟨#[]⟩) (.slice none 0 0) (.slice none 0 0)
      have HFIN:=Lib.hid hfin
      have HN:=Lib.hid hn
      have x0:wc.cell? ⟨gb,0,none⟩=some (.bool p.1):=cellOf hbx 0 rfl
      have x1:wc.cell? ⟨gb,1,none⟩=some (.slice ad n cap):=cellOf hbx 1 rfl
      have x2:wc.cell? ⟨gb,2,none⟩=some (.int .i64 p.2.2):=cellOf hbx 2 rfl
      have y0:wc.cell? ⟨w.heap.size+1,0,none⟩=some (.int .i64 0):=cellOf hb1 0 rfl
      have z0:=freeOf hb1 0
      have y1:wc.cell? ⟨w.heap.size+1,1,none⟩=some (.bool false):=cellOf hb1 1 rfl
      have z1:=freeOf hb1 1
      have y2:wc.cell? ⟨w.heap.size+1,2,none⟩=some (.bool false):=cellOf hb1 2 rfl
      have z2:=freeOf hb1 2
      have y3:wc.cell? ⟨w.heap.size+1,3,none⟩=some (.slice none 0 0):=cellOf hb1 3 rfl
      have z3:=freeOf hb1 3
      have y4:wc.cell? ⟨w.heap.size+1,4,none⟩=some (.int .i64 0):=cellOf hb1 4 rfl
      have z4:=freeOf hb1 4
      have y5:wc.cell? ⟨w.heap.size+1,5,none⟩=some (.string ⟨#[]⟩):=cellOf hb1 5 rfl
      have z5:=freeOf hb1 5
      have y6:wc.cell? ⟨w.heap.size+1,6,none⟩=some (.slice none 0 0):=cellOf hb1 6 rfl
      have z6:=freeOf hb1 6
      have y7:wc.cell? ⟨w.heap.size+1,7,none⟩=some (.slice none 0 0):=cellOf hb1 7 rfl
      have z7:=freeOf hb1 7
      have n1:¬ gb=w.heap.size+1:=by omega
      have n2:¬ w.heap.size+1=gb:=by omega
      clear hbw hb1 hbx hind hRR hfin hn hcap
      go_wp2_with fail
      refine bodyPost_ret (v:=.agg #[.int .i64 3,.bool false,.bool p.1,.slice ad n cap,.int .i64 p.2.2,.string ⟨#[]⟩,.slice none 0 0,.slice none 0 0]) (by simp [results,Tryz.results110,go_sem,y0,y1,y2,y3,y4,y5,y6,y7,n1,n2]) rfl ?_
      exact ValN.yes (numT p.1 ad n cap p.2.2 (limbs p.2.1)) HE.out rfl (by rw [numT_bareC,HN.out];rfl) HFIN.out.1 HFIN.out.2
end Go.Proofs.YtnacbakcalcgaaaGreatDoor
