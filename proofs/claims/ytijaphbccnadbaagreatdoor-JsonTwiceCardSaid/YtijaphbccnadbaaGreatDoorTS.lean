/- Texts of the claim. -/
import Derived.Test.YtijaphbccnadbaaGreatDoorTR
import Derived.Test.YtijaphbccnadbaaGreatDoorTP
set_option linter.unusedVariables false
set_option linter.unusedSimpArgs false
set_option maxHeartbeats 8000000
set_option maxRecDepth 100000
namespace Go.Proofs.YtijaphbccnadbaaGreatDoor
open Go.RowKit Go.Shelf
theorem made_none (d:Nat) (a:Option Addr) (c:Nat) (w:World):Calls Tryz.prog 72 #[.slice a 0 c,.int .i64 (d:Int)] w (MadeP d (.slice a 0 c) w):=by
  obtain ⟨wA,hwA⟩:∃ W,w.alloc (.cells #[.int .i64 0,.bool false,.bool false,.slice none 0 0,.int .i64 0,.string ⟨#[]⟩,.slice none 0 0,.slice none 0 0] 28)=W:=⟨_,rfl⟩
  have hbA:Below w.heap.size w wA:=by rw [← hwA];exact (Below.refl _ _).alloc (Nat.le_refl _) _
  have HB4:=Lib.hid (show BoxT wA w.heap.size (leafC 0 false ⟨#[]⟩) by rw [← hwA];exact heap_alloc_new w _)
  have HBA:=Lib.hid hbA
  have hvar:=HB4.out.var
  unfold Var at hvar
  obtain ⟨⟨g0,g1,g2,g3,g4,g5,g6,g7⟩,f0,f1,f2,f3,f4,f5,f6,f7⟩:=hvar
  simp only [leafC] at g0 g1 g2 g3 g4 g5 g6 g7
  have hbx:=(put0_box HB4.out (c:=(leafC 1 false ⟨#[]⟩))).cells
  unfold put0 leafC at hbx
  simp only at hbx
  obtain ⟨e0,e1,e2,e3,e4,e5,e6,e7⟩:=hbx
  have HF:=Lib.hid (made_leaf (d:=d) (v0:=.slice a 0 c) (u0:=.slice none 0 0) 1 false ⟨#[]⟩ HBA.out (fun W _=>intsV_nil W) (by decide) (by decide) rfl)
  unfold put0 leafC Cel.val at HF
  simp only at HF
  clear hbA
  go_enter Tryz.func72,Tryz.ntmps72
  go_wp2_with fail
  exact bodyPost_ret (v:=.tuple #[.agg #[.int .i64 1,.bool false,.bool false,.slice none 0 0,.int .i64 0,.string ⟨#[]⟩,.slice none 0 0,.slice none 0 0],.slice none 0 0]) (by simp [results,Tryz.results72,go_sem,e0,e1,e2,e3,e4,e5,e6,e7]) rfl HF.out
theorem made_all:∀ d:Nat,d≤10→∀ (v:Value) (w:World),IntsV w v→Calls Tryz.prog 72 #[v,.int .i64 (d:Int)] w (MadeP d v w):=by
  intro d
  induction d with
  | zero =>
    intro hd v w hI
    obtain ⟨a,n,c,xs,rfl,h2,h3,h4,h5,h6⟩:=id hI
    cases n with
    | zero=>exact made_none 0 a c w
    | succ n =>
      obtain ⟨bl,ol,rfl,_⟩:=h2.shape (by rw [List.length_map];omega)
      exact madeV_any 0 hd (fun d' h=>by omega) (n+1) c bl ol w hI (by omega)
  | succ d ih =>
    intro hd v w hI
    obtain ⟨a,n,c,xs,rfl,h2,h3,h4,h5,h6⟩:=id hI
    cases n with
    | zero=>exact made_none (d+1) a c w
    | succ n =>
      obtain ⟨bl,ol,rfl,_⟩:=h2.shape (by rw [List.length_map];omega)
      exact madeV_any (d+1) hd (fun d' h=>by obtain rfl:d'=d:=(by omega);exact ih (by omega)) (n+1) c bl ol w hI (by omega)
def MadeI (d:Nat) (w:World) (e:Ending) (w':World):Prop:=∃ t,e=.returned t.c.val∧Ind (fun k=>k<w.heap.size+1) w' (fun W=>Rep W t)∧Fit d t∧Below w.heap.size w w'
theorem Made_ind (d:Nat) (hd:d≤10) (v:Value) (w:World) (hI:IntsV w v):Calls Tryz.prog 44 #[v,.int .i64 (d:Int)] w (MadeI d w):=by
  obtain ⟨wA,hwA⟩:∃ W,w.alloc (.cells #[.int .i64 0,.bool false,.bool false,.slice none 0 0,.int .i64 0,.string ⟨#[]⟩,.slice none 0 0,.slice none 0 0] 28)=W:=⟨_,rfl⟩
  have hbA:Below w.heap.size w wA:=by rw [← hwA];exact (Below.refl _ _).alloc (Nat.le_refl _) _
  have HSA:=Lib.hid (show wA.heap.size=w.heap.size+1 by rw [← hwA];simp)
  have HB4:=Lib.hid (show BoxT wA w.heap.size (leafC 0 false ⟨#[]⟩) by rw [← hwA];exact heap_alloc_new w _)
  have HBA:=Lib.hid hbA
  have KM:=Lib.hid (made_all d hd v wA (hI.on hbA))
  have HWA:=Lib.hid hwA
  clear hbA hI hwA
  go_enter Tryz.func44,Tryz.ntmps44
  go_wp2_with fail
  rw [HWA.out]
  refine KM.out.mono ?_
  rintro r w1 ⟨t,v',rfl,hi,hf,_,hb⟩
  have h4:=HB4.out.on (hb.block _ HB4.out.lt)
  have hvar:=h4.var
  unfold Var at hvar
  obtain ⟨⟨g0,g1,g2,g3,g4,g5,g6,g7⟩,f0,f1,f2,f3,f4,f5,f6,f7⟩:=hvar
  simp only [leafC] at g0 g1 g2 g3 g4 g5 g6 g7
  have h4l:=h4.lt
  have HE:=Lib.hid (fun (o:Obj)=>((put0_box h4 (c:=t.c)).on (((Below.refl (put0 w1 w.heap.size t.c).heap.size _).alloc (Nat.le_refl _) o).block _ (Nat.lt_of_lt_of_le h4l (put0_but _ _ _).size))).cells)
  have HF:=Lib.hid (fun (o:Obj)=>(show MadeI d w (.returned t.c.val) ((put0 w1 w.heap.size t.c).alloc o) from by
    have hp:=put0_but w1 w.heap.size t.c
    have ha:=(Below.refl (put0 w1 w.heap.size t.c).heap.size (put0 w1 w.heap.size t.c)).alloc (Nat.le_refl _) o
    have hb0:Below w.heap.size w w1:=HBA.out.trans (hb.mono HBA.out.size)
    refine ⟨t,rfl,?_,hf,(hb0.trans (hp.below (Nat.le_refl _) hb0.size)).trans (ha.mono (Nat.le_trans hb0.size hp.size))⟩
    exact ((hi.to hp.size (fun k hk hx=>hp.block k hk (fun e=>hx (by have:=HSA.out;omega))) (fun k _ h=>by have:=HSA.out;omega) (fun _ h=>h):Ind (fun k=>k<w.heap.size+1) _ (fun W=>Rep W t)).below ha)))
  obtain ⟨c,hc⟩:∃ c,t.c=c:=⟨_,rfl⟩
  rw [hc] at HE HF ⊢
  clear hi hf hb h4 hc
  obtain ⟨zk,zb,zneg,zma,zmn,zmc,ze,zs,zka,zkn,zkc,zva,zvn,zvc⟩:=c
  have hE:=HE.out (.cells #[.int .i64 zk,.bool zb,.bool zneg,.slice zma zmn zmc,.int .i64 ze,.string zs,.slice zka zkn zkc,.slice zva zvn zvc] 28)
  have HF:=Lib.hid (HF.out (.cells #[.int .i64 zk,.bool zb,.bool zneg,.slice zma zmn zmc,.int .i64 ze,.string zs,.slice zka zkn zkc,.slice zva zvn zvc] 28))
  unfold put0 Cel.val at HF
  unfold put0 at hE
  simp only at hE HF
  obtain ⟨e0,e1,e2,e3,e4,e5,e6,e7⟩:=hE
  clear HE
  unfold Cel.val
  go_wp2_with fail
  exact bodyPost_ret (v:=.agg #[.int .i64 zk,.bool zb,.bool zneg,.slice zma zmn zmc,.int .i64 ze,.string zs,.slice zka zkn zkc,.slice zva zvn zvc]) (by simp [results,Tryz.results44,go_sem,e0,e1,e2,e3,e4,e5,e6,e7]) rfl HF.out
theorem sound_small {t:MT} (h:soundB t=true):t.c.kn≤300∧t.c.vn≤300:=by
  unfold soundB at h
  by_cases c1:t.c.k=1
  · rw [if_pos c1] at h
    have:=blank_facts h
    exact ⟨by omega,by omega⟩
  rw [if_neg c1] at h
  by_cases c2:t.c.k=2
  · rw [if_pos c2] at h
    have:=blank_facts h
    simp only at this
    exact ⟨by omega,by omega⟩
  rw [if_neg c2] at h
  by_cases c3:t.c.k=3
  · rw [if_pos c3,Bool.and_eq_true] at h
    have:=blank_facts h.2
    simp only at this
    exact ⟨by omega,by omega⟩
  rw [if_neg c3] at h
  by_cases c4:t.c.k=4
  · rw [if_pos c4,Bool.and_eq_true,Bool.and_eq_true] at h
    have:=blank_facts h.2.2
    simp only at this
    exact ⟨by omega,by omega⟩
  rw [if_neg c4] at h
  by_cases c5:t.c.k=5
  · rw [if_pos c5,Bool.and_eq_true] at h
    have:=blank_facts h.2
    simp only at this
    exact ⟨by omega,by omega⟩
  rw [if_neg c5] at h
  by_cases c7:t.c.k=7
  · rw [if_pos c7,Bool.and_eq_true,Bool.and_eq_true,Bool.and_eq_true] at h
    have h1:=of_decide_eq_true h.1
    have h2:=of_decide_eq_true h.2.2.1
    exact ⟨by omega,by omega⟩
  rw [if_neg c7] at h
  by_cases c6:t.c.k=6
  · rw [if_pos c6,Bool.and_eq_true] at h
    have h2:=of_decide_eq_true h.1
    have:=blank_facts h.2
    simp only at this
    exact ⟨by omega,by omega⟩
  rw [if_neg c6] at h
  cases h
theorem fit_sml {d:Nat} {t:MT} (h:Fit d t) (hc:Coh t):Sml t:=by
  have key:∀ d (t:MT),Fit d t→∀ s,t.sub s→fitB s=true:=by
    intro d
    induction d with
    | zero =>
      intro t h s hs
      rcases MT.sub_cases hs with rfl | ⟨u,hu,_⟩
      · exact h.1
      · rw [h.2] at hu;cases hu
    | succ d ih =>
      intro t h s hs
      rcases MT.sub_cases hs with rfl | ⟨u,hu,hs⟩
      · exact h.1
      · exact ih u (h.2.2 u hu) s hs
  intro s hs
  obtain ⟨h1,_,h2,h3⟩:=hc s hs
  have hb:=key d t h s hs
  have hso:=fitB_sound hb
  have hm:=(fitB_small hb).1
  have hks:=sound_small hso
  exact ⟨by omega,by omega,by omega⟩
def PlainP (d:Nat) (w:World) (e:Ending) (w':World):Prop:=∃ u:MT,e=.returned u.c.val∧Rep w' u∧(checkB u=true∧NoB u∧(encJ u).length≤11060∧Fit d u.bare)∧Below w.heap.size w w'
theorem plainV_any (d:Nat) (hd:d≤4) (v:Value) (w:World) (hI:IntsV w v):Calls Tryz.prog 19 #[v,.int .i64 (d:Int)] w (PlainP d w):=by
  obtain ⟨wA,hwA⟩:∃ W,w.alloc (.cells #[.int .i64 0,.bool false,.bool false,.slice none 0 0,.int .i64 0,.string ⟨#[]⟩,.slice none 0 0,.slice none 0 0] 28)=W:=⟨_,rfl⟩
  have hbA:Below w.heap.size w wA:=by rw [← hwA];exact (Below.refl _ _).alloc (Nat.le_refl _) _
  have HSA:=Lib.hid (show wA.heap.size=w.heap.size+1 by rw [← hwA];simp)
  have HB4:=Lib.hid (show BoxT wA w.heap.size (leafC 0 false ⟨#[]⟩) by rw [← hwA];exact heap_alloc_new w _)
  have HBA:=Lib.hid hbA
  have KM:=Lib.hid (Made_ind d (by omega) v wA (hI.on hbA))
  have HWA:=Lib.hid hwA
  clear hbA hI hwA
  go_enter Tryz.func19,Tryz.ntmps19
  go_wp2_with fail
  rw [HWA.out]
  go_wp2_with fail
  refine KM.out.mono ?_
  rintro r w1 ⟨t,rfl,hi,hf,hb⟩
  have hlt1:=hb.size
  have hco:=Coh.of hi.here
  have KC:=Lib.hid (clean_any (fun k=>k<wA.heap.size+1∨w1.heap.size≤k) t w1 (fun k h=>.inr h) (fit_sml hf hco) (hi.to (Nat.le_refl _) (fun _ _ _=>rfl) (fun k hk hy=>hy.resolve_right (by omega)) (fun _ h=>h)))
  have HF:=Lib.hid hf;have HB1:=Lib.hid hb
  clear hi hf hb hco hlt1
  obtain ⟨c,hc⟩:∃ c,t.c=c:=⟨_,rfl⟩
  rw [hc] at KC ⊢
  obtain ⟨zk,zb,zneg,zma,zmn,zmc,ze,zs,zka,zkn,zkc,zva,zvn,zvc⟩:=c
  unfold Cel.val at KC ⊢
  go_wp2_with fail
  refine KC.out.mono ?_
  rintro r w2 ⟨u,rfl,hi2,hub,hb2⟩
  have hs1:=HB1.out.size;have hs2:=hb2.size
  have h4:=HB4.out.on ((HB1.out.trans (hb2.mono HB1.out.size)).block _ HB4.out.lt)
  have hvar:=h4.var
  unfold Var at hvar
  obtain ⟨⟨g0,g1,g2,g3,g4,g5,g6,g7⟩,f0,f1,f2,f3,f4,f5,f6,f7⟩:=hvar
  simp only [leafC] at g0 g1 g2 g3 g4 g5 g6 g7
  have hbox:=(put0_box h4 (c:=u.c)).cells
  have HFIN:=Lib.hid (show PlainP d w (.returned u.c.val) (put0 w2 w.heap.size u.c) from by
    have hp:=put0_but w2 w.heap.size u.c
    have hR:Rep (put0 w2 w.heap.size u.c) u:=hi2 _ hp.size (fun k hk hx=>hp.block k hk (fun e=>hx ⟨.inl (by have:=HSA.out;omega),by have:=HSA.out;omega⟩))
    exact ⟨u,rfl,hR,plain_facts HF.out hd hub (Coh.of hR),(HBA.out.trans ((HB1.out.trans (hb2.mono hs1)).mono HBA.out.size)).trans (hp.below (Nat.le_refl _) (by have:=HSA.out;omega))⟩)
  clear hi2 hub hb2 h4 hs1 hs2
  generalize u.c=c at *
  obtain ⟨k,b,neg,ma,mn,mc,e,s,ka,kn,kc,va,vn,vc⟩:=c
  unfold put0 at HFIN hbox
  unfold Cel.val at *
  simp only at HFIN hbox
  obtain ⟨e0,e1,e2,e3,e4,e5,e6,e7⟩:=hbox
  go_wp2
  exact bodyPost_ret (v:=.agg #[.int .i64 k,.bool b,.bool neg,.slice ma mn mc,.int .i64 e,.string s,.slice ka kn kc,.slice va vn vc]) (by simp [results,Tryz.results19,go_sem,e0,e1,e2,e3,e4,e5,e6,e7]) rfl HFIN.out
end Go.Proofs.YtijaphbccnadbaaGreatDoor
