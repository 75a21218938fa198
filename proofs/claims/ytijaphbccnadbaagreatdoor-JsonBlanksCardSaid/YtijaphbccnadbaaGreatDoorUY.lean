/- erratumlaw08.JsonBlanks: for every input it answers true, and what came in stays: the row, and its tied card. Conditions: what the row's own cells say (the tables of Go's library that it lists start as the program's text lays them). -/
import Derived.Test.YtijaphbccnadbaaGreatDoorUX
import Derived.Test.YtijaphbccnadbaaGreatDoorUS
import Derived.Test.YtijaphbccnadbaaGreatDoorUW
import Derived.Test.YtijaphbccnadbaaGreatDoorUm
import Derived.Test.YtijaphbccnadbaaGreatDoorTie
import Derived.ProofKit
import Derived.SizedLaws
import Derived.OpenShut
import Derived.LaidMore
import Derived.Lay
import Derived.SevenTiedAt
import Derived.Stop.Joined
import Derived.Lib.LaidU8T
import Derived.Test.YtijaphbccnadbaaGreatDoorUQ
import Derived.Test.YtijaphbccnadbaaGreatDoorUw
import Derived.Lib.LaidTab
import Derived.Test.YtijaphbccnadbaaGreatDoorCards
set_option linter.unusedVariables false
set_option linter.unusedSimpArgs false
set_option maxHeartbeats 16000000
set_option maxRecDepth 100000
namespace Go.Proofs.YtijaphbccnadbaaGreatDoor
open Go.RowKit Go.Shelf
theorem made_none (d:Nat) (a:Option Addr) (c:Nat) (w:World):Calls Tryz.prog 72 #[.slice a 0 c,.int .i64 (d:Int)] w (MadeP d (.slice a 0 c) w):=by
  obtain ⟨wA,hwA⟩:∃ W,w.alloc (.cells #[.int .i64 0,.bool false,.bool false,.slice none 0 0,.int .i64 0,.string ⟨#[]⟩,.slice none 0 0,.slice none 0 0] 28)=W:=⟨_,rfl⟩
  have hbA:Below w.heap.size w wA:=by rw [← hwA];exact (Below.refl _ _).alloc (Nat.le_refl _) _
  have HB4:=Lib.hid (show BoxT wA w.heap.size (leafC 0 false ⟨#[]⟩) by rw [← hwA];exact heap_alloc_new w _)
  have HBA:=Lib.hid hbA
  have hvar:=HB4.out.var
  unfold Var at hvar
  obtain ⟨⟨g0,g1,g2,g3,g4,g5,g6,g7⟩,f0,f1,f2,f3,f4,f5,f6,f7⟩:=hvar
  simp only [leafC] at g0 g1 g2 g3 g4 g5 g6 g7
  have hbx:=(put0_box HB4.out (c:=(leafC 1 false ⟨#[]⟩))).cells
  unfold put0 leafC at hbx
  simp only at hbx
  obtain ⟨e0,e1,e2,e3,e4,e5,e6,e7⟩:=hbx
  have HF:=Lib.hid (made_leaf (d:=d) (v0:=.slice a 0 c) (u0:=.slice none 0 0) 1 false ⟨#[]⟩ HBA.out (fun W _=>intsV_nil W) (by decide) (by decide) rfl)
  unfold put0 leafC Cel.val at HF
  simp only at HF
  clear hbA
  go_enter Tryz.func72,Tryz.ntmps72
  go_wp2_with fail
  exact bodyPost_ret (v:=.tuple #[.agg #[.int .i64 1,.bool false,.bool false,.slice none 0 0,.int .i64 0,.string ⟨#[]⟩,.slice none 0 0,.slice none 0 0],.slice none 0 0]) (by simp [results,Tryz.results72,go_sem,e0,e1,e2,e3,e4,e5,e6,e7]) rfl HF.out
theorem made_all:∀ d:Nat,d≤10→∀ (v:Value) (w:World),IntsV w v→Calls Tryz.prog 72 #[v,.int .i64 (d:Int)] w (MadeP d v w):=by
  intro d
  induction d with
  | zero =>
    intro hd v w hI
    obtain ⟨a,n,c,xs,rfl,h2,h3,h4,h5,h6⟩:=id hI
    cases n with
    | zero=>exact made_none 0 a c w
    | succ n =>
      obtain ⟨bl,ol,rfl,_⟩:=h2.shape (by rw [List.length_map];omega)
      exact madeV_any 0 hd (fun d' h=>by omega) (n+1) c bl ol w hI (by omega)
  | succ d ih =>
    intro hd v w hI
    obtain ⟨a,n,c,xs,rfl,h2,h3,h4,h5,h6⟩:=id hI
    cases n with
    | zero=>exact made_none (d+1) a c w
    | succ n =>
      obtain ⟨bl,ol,rfl,_⟩:=h2.shape (by rw [List.length_map];omega)
      exact madeV_any (d+1) hd (fun d' h=>by obtain rfl:d'=d:=(by omega);exact ih (by omega)) (n+1) c bl ol w hI (by omega)
def MadeI (d:Nat) (w:World) (e:Ending) (w':World):Prop:=∃ t,e=.returned t.c.val∧Ind (fun k=>k<w.heap.size+1) w' (fun W=>Rep W t)∧Fit d t∧Below w.heap.size w w'
theorem Made_ind (d:Nat) (hd:d≤10) (v:Value) (w:World) (hI:IntsV w v):Calls Tryz.prog 44 #[v,.int .i64 (d:Int)] w (MadeI d w):=by
  obtain ⟨wA,hwA⟩:∃ W,w.alloc (.cells #[.int .i64 0,.bool false,.bool false,.slice none 0 0,.int .i64 0,.string ⟨#[]⟩,.slice none 0 0,.slice none 0 0] 28)=W:=⟨_,rfl⟩
  have hbA:Below w.heap.size w wA:=by rw [← hwA];exact (Below.refl _ _).alloc (Nat.le_refl _) _
  have HSA:=Lib.hid (show wA.heap.size=w.heap.size+1 by rw [← hwA];simp)
  have HB4:=Lib.hid (show BoxT wA w.heap.size (leafC 0 false ⟨#[]⟩) by rw [← hwA];exact heap_alloc_new w _)
  have HBA:=Lib.hid hbA
  have KM:=Lib.hid (made_all d hd v wA (hI.on hbA))
  have HWA:=Lib.hid hwA
  clear hbA hI hwA
  go_enter Tryz.func44,Tryz.ntmps44
  go_wp2_with fail
  rw [HWA.out]
  refine KM.out.mono ?_
  rintro r w1 ⟨t,v',rfl,hi,hf,_,hb⟩
  have h4:=HB4.out.on (hb.block _ HB4.out.lt)
  have hvar:=h4.var
  unfold Var at hvar
  obtain ⟨⟨g0,g1,g2,g3,g4,g5,g6,g7⟩,f0,f1,f2,f3,f4,f5,f6,f7⟩:=hvar
  simp only [leafC] at g0 g1 g2 g3 g4 g5 g6 g7
  have h4l:=h4.lt
  have HE:=Lib.hid (fun (o:Obj)=>((put0_box h4 (c:=t.c)).on (((Below.refl (put0 w1 w.heap.size t.c).heap.size _).alloc (Nat.le_refl _) o).block _ (Nat.lt_of_lt_of_le h4l (put0_but _ _ _).size))).cells)
  have HF:=Lib.hid (fun (o:Obj)=>(show MadeI d w (.returned t.c.val) ((put0 w1 w.heap.size t.c).alloc o) from by
    have hp:=put0_but w1 w.heap.size t.c
    have ha:=(Below.refl (put0 w1 w.heap.size t.c).heap.size (put0 w1 w.heap.size t.c)).alloc (Nat.le_refl _) o
    have hb0:Below w.heap.size w w1:=HBA.out.trans (hb.mono HBA.out.size)
    refine ⟨t,rfl,?_,hf,(hb0.trans (hp.below (Nat.le_refl _) hb0.size)).trans (ha.mono (Nat.le_trans hb0.size hp.size))⟩
    exact ((hi.to hp.size (fun k hk hx=>hp.block k hk (fun e=>hx (by have:=HSA.out;omega))) (fun k _ h=>by have:=HSA.out;omega) (fun _ h=>h):Ind (fun k=>k<w.heap.size+1) _ (fun W=>Rep W t)).below ha)))
  obtain ⟨c,hc⟩:∃ c,t.c=c:=⟨_,rfl⟩
  rw [hc] at HE HF ⊢
  clear hi hf hb h4 hc
  obtain ⟨zk,zb,zneg,zma,zmn,zmc,ze,zs,zka,zkn,zkc,zva,zvn,zvc⟩:=c
  have hE:=HE.out (.cells #[.int .i64 zk,.bool zb,.bool zneg,.slice zma zmn zmc,.int .i64 ze,.string zs,.slice zka zkn zkc,.slice zva zvn zvc] 28)
  have HF:=Lib.hid (HF.out (.cells #[.int .i64 zk,.bool zb,.bool zneg,.slice zma zmn zmc,.int .i64 ze,.string zs,.slice zka zkn zkc,.slice zva zvn zvc] 28))
  unfold put0 Cel.val at HF
  unfold put0 at hE
  simp only at hE HF
  obtain ⟨e0,e1,e2,e3,e4,e5,e6,e7⟩:=hE
  clear HE
  unfold Cel.val
  go_wp2_with fail
  exact bodyPost_ret (v:=.agg #[.int .i64 zk,.bool zb,.bool zneg,.slice zma zmn zmc,.int .i64 ze,.string zs,.slice zka zkn zkc,.slice zva zvn zvc]) (by simp [results,Tryz.results44,go_sem,e0,e1,e2,e3,e4,e5,e6,e7]) rfl HF.out
theorem sound_small {t:MT} (h:soundB t=true):t.c.kn≤300∧t.c.vn≤300:=by
  unfold soundB at h
  by_cases c1:t.c.k=1
  · rw [if_pos c1] at h
    have:=blank_facts h
    exact ⟨by omega,by omega⟩
  rw [if_neg c1] at h
  by_cases c2:t.c.k=2
  · rw [if_pos c2] at h
    have:=blank_facts h
    simp only at this
    exact ⟨by omega,by omega⟩
  rw [if_neg c2] at h
  by_cases c3:t.c.k=3
  · rw [if_pos c3,Bool.and_eq_true] at h
    have:=blank_facts h.2
    simp only at this
    exact ⟨by omega,by omega⟩
  rw [if_neg c3] at h
  by_cases c4:t.c.k=4
  · rw [if_pos c4,Bool.and_eq_true,Bool.and_eq_true] at h
    have:=blank_facts h.2.2
    simp only at this
    exact ⟨by omega,by omega⟩
  rw [if_neg c4] at h
  by_cases c5:t.c.k=5
  · rw [if_pos c5,Bool.and_eq_true] at h
    have:=blank_facts h.2
    simp only at this
    exact ⟨by omega,by omega⟩
  rw [if_neg c5] at h
  by_cases c7:t.c.k=7
  · rw [if_pos c7,Bool.and_eq_true,Bool.and_eq_true,Bool.and_eq_true] at h
    have h1:=of_decide_eq_true h.1
    have h2:=of_decide_eq_true h.2.2.1
    exact ⟨by omega,by omega⟩
  rw [if_neg c7] at h
  by_cases c6:t.c.k=6
  · rw [if_pos c6,Bool.and_eq_true] at h
    have h2:=of_decide_eq_true h.1
    have:=blank_facts h.2
    simp only at this
    exact ⟨by omega,by omega⟩
  rw [if_neg c6] at h
  cases h
theorem fit_sml {d:Nat} {t:MT} (h:Fit d t) (hc:Coh t):Sml t:=by
  have key:∀ d (t:MT),Fit d t→∀ s,t.sub s→fitB s=true:=by
    intro d
    induction d with
    | zero =>
      intro t h s hs
      rcases MT.sub_cases hs with rfl | ⟨u,hu,_⟩
      · exact h.1
      · rw [h.2] at hu;cases hu
    | succ d ih =>
      intro t h s hs
      rcases MT.sub_cases hs with rfl | ⟨u,hu,hs⟩
      · exact h.1
      · exact ih u (h.2.2 u hu) s hs
  intro s hs
  obtain ⟨h1,_,h2,h3⟩:=hc s hs
  have hb:=key d t h s hs
  have hso:=fitB_sound hb
  have hm:=(fitB_small hb).1
  have hks:=sound_small hso
  exact ⟨by omega,by omega,by omega⟩
def PlainP (d:Nat) (w:World) (e:Ending) (w':World):Prop:=∃ u:MT,e=.returned u.c.val∧Rep w' u∧(checkB u=true∧NoB u∧(encJ u).length≤11060∧Fit d u.bare)∧Below w.heap.size w w'
theorem plainV_any (d:Nat) (hd:d≤4) (v:Value) (w:World) (hI:IntsV w v):Calls Tryz.prog 19 #[v,.int .i64 (d:Int)] w (PlainP d w):=by
  obtain ⟨wA,hwA⟩:∃ W,w.alloc (.cells #[.int .i64 0,.bool false,.bool false,.slice none 0 0,.int .i64 0,.string ⟨#[]⟩,.slice none 0 0,.slice none 0 0] 28)=W:=⟨_,rfl⟩
  have hbA:Below w.heap.size w wA:=by rw [← hwA];exact (Below.refl _ _).alloc (Nat.le_refl _) _
  have HSA:=Lib.hid (show wA.heap.size=w.heap.size+1 by rw [← hwA];simp)
  have HB4:=Lib.hid (show BoxT wA w.heap.size (leafC 0 false ⟨#[]⟩) by rw [← hwA];exact heap_alloc_new w _)
  have HBA:=Lib.hid hbA
  have KM:=Lib.hid (Made_ind d (by omega) v wA (hI.on hbA))
  have HWA:=Lib.hid hwA
  clear hbA hI hwA
  go_enter Tryz.func19,Tryz.ntmps19
  go_wp2_with fail
  rw [HWA.out]
  go_wp2_with fail
  refine KM.out.mono ?_
  rintro r w1 ⟨t,rfl,hi,hf,hb⟩
  have hlt1:=hb.size
  have hco:=Coh.of hi.here
  have KC:=Lib.hid (clean_any (fun k=>k<wA.heap.size+1∨w1.heap.size≤k) t w1 (fun k h=>.inr h) (fit_sml hf hco) (hi.to (Nat.le_refl _) (fun _ _ _=>rfl) (fun k hk hy=>hy.resolve_right (by omega)) (fun _ h=>h)))
  have HF:=Lib.hid hf;have HB1:=Lib.hid hb
  clear hi hf hb hco hlt1
  obtain ⟨c,hc⟩:∃ c,t.c=c:=⟨_,rfl⟩
  rw [hc] at KC ⊢
  obtain ⟨zk,zb,zneg,zma,zmn,zmc,ze,zs,zka,zkn,zkc,zva,zvn,zvc⟩:=c
  unfold Cel.val at KC ⊢
  go_wp2_with fail
  refine KC.out.mono ?_
  rintro r w2 ⟨u,rfl,hi2,hub,hb2⟩
  have hs1:=HB1.out.size;have hs2:=hb2.size
  have h4:=HB4.out.on ((HB1.out.trans (hb2.mono HB1.out.size)).block _ HB4.out.lt)
  have hvar:=h4.var
  unfold Var at hvar
  obtain ⟨⟨g0,g1,g2,g3,g4,g5,g6,g7⟩,f0,f1,f2,f3,f4,f5,f6,f7⟩:=hvar
  simp only [leafC] at g0 g1 g2 g3 g4 g5 g6 g7
  have hbox:=(put0_box h4 (c:=u.c)).cells
  have HFIN:=Lib.hid (show PlainP d w (.returned u.c.val) (put0 w2 w.heap.size u.c) from by
    have hp:=put0_but w2 w.heap.size u.c
    have hR:Rep (put0 w2 w.heap.size u.c) u:=hi2 _ hp.size (fun k hk hx=>hp.block k hk (fun e=>hx ⟨.inl (by have:=HSA.out;omega),by have:=HSA.out;omega⟩))
    exact ⟨u,rfl,hR,plain_facts HF.out hd hub (Coh.of hR),(HBA.out.trans ((HB1.out.trans (hb2.mono hs1)).mono HBA.out.size)).trans (hp.below (Nat.le_refl _) (by have:=HSA.out;omega))⟩)
  clear hi2 hub hb2 h4 hs1 hs2
  generalize u.c=c at *
  obtain ⟨k,b,neg,ma,mn,mc,e,s,ka,kn,kc,va,vn,vc⟩:=c
  unfold put0 at HFIN hbox
  unfold Cel.val at *
  simp only at HFIN hbox
  obtain ⟨e0,e1,e2,e3,e4,e5,e6,e7⟩:=hbox
  go_wp2
  exact bodyPost_ret (v:=.agg #[.int .i64 k,.bool b,.bool neg,.slice ma mn mc,.int .i64 e,.string s,.slice ka kn kc,.slice va vn vc]) (by simp [results,Tryz.results19,go_sem,e0,e1,e2,e3,e4,e5,e6,e7]) rfl HFIN.out
end Go.Proofs.YtijaphbccnadbaaGreatDoor
namespace Go.Proofs.YtijaphbccnadbaaGreatDoor
open Go.Shelf Go.RowKit Go.Lib
theorem jsonBlanks_walk (ad:Option Addr) (n cap:Nat) (xs:List Int) (k0:Int) (w:World) (hn:xs.length=n) (hcap:n≤cap) (hx:∀ x∈xs,-9223372036854775808≤x∧x≤9223372036854775807) (hr:RdV w ad (xs.map iz)) (hk0:-9223372036854775808≤k0∧k0≤9223372036854775807) (hU:UT w) (hT:TB w) :
    Calls Tryz.prog 5 #[.slice ad n cap,.int .i64 k0] w (BoolBelow true w):=by
  by_cases h60:n≤60
  · exact jsonBlanks_main ad n cap k0 w (by omega) hk0 hU hT (Lib.hid (plainV_any 4 (by decide) (.slice ad n cap) w (⟨ad,n,cap,xs,rfl,hr,hn,hcap,by omega,hx⟩:IntsV w (.slice ad n cap))))
  · have h60z:(60:Int)<(n:Int):=by omega
    have AW2:=Lib.hid (awakeJ_any w hU hT)
    clear hn hcap hx hr hk0 hU hT
    go_enter Tryz.func5,Tryz.ntmps5
    go_wp2_with fail
    refine AW2.out.mono ?_
    rintro r w9 ⟨rfl,hb9⟩
    have HB9:=Lib.hid hb9
    clear hb9
    go_wp2_with fail
    go_ret
    exact BoolBelow.mk rfl HB9.out
end Go.Proofs.YtijaphbccnadbaaGreatDoor
namespace Go.Proofs.YtijaphbccnadbaaGreatDoor
open Go.ChangeShapes Go.WideShapes Go.ChangeAt Go.RowKit Go.Shelf
theorem own:ownKnob Tryz.prog.godebug=none:=by kernel_rfl
theorem laidOut:laidOutB Tryz.prog=true:=by kernel_rfl
theorem i64_bd {n:Int} (h:(Lit.int .i64 n).wf=true):-9223372036854775808≤n∧n≤9223372036854775807:=by
  simpa [Lit.wf,IntKind.min,IntKind.max,IntKind.signed,IntKind.bits] using h
theorem hargs_keep {H:Type} {enc:TypeId × Value→H} {t:TypeId} {W W':World} {v:Value} {d:DataW H} {ps:List MemPlace} (hr:Tryz.prog.readableRec t=true) (hrow:t<Tryz.prog.types.size)
    (h:DataW.Trod enc Tryz.prog W 0 (fun _=>true) true t v d ps) (hb:Below W.heap.size W W') (hlt:∀ x∈ps,x.block<W.heap.size) :
    DataW.Trod enc Tryz.prog W' 0 (fun b=>decide (b<W.heap.size)) true t v d ps:=Below.trod laidOut hr hrow h hb hlt
def ren8:Go.Shelf.Ren:=⟨fun n=>n,fun | 5=>5 | 119=>200 | 138=>202 | 139=>203 | n=>n,fun | 3=>0 | 4=>1 | n=>n⟩
theorem types8:U8Types Tryz.prog ren8:={ t5:=Tryz.underlying5,t119:=Tryz.underlying200,t138:=Tryz.underlying202,t139:=Tryz.underlying203 }
theorem extra8:U8Extra Tryz.prog ren8:={ n3:=by kernel_rfl,n4:=by kernel_rfl,y3:=by kernel_rfl,y4:=by kernel_rfl,c5:=by kernel_rfl,c119:=by kernel_rfl,c138:=by kernel_rfl }
theorem first_data:Rows.laid_unicode_utf8_first=Lib.firstData:=by kernel_rfl
theorem accept_data:(Rows.laid_unicode_utf8_acceptRanges:DataW Unit)=Lib.acceptData:=by kernel_rfl
theorem ut_of_laid {l:List (String × DataW Unit)} {W:World} (h:laidMet Tryz.prog l W) (h1:("unicode/utf8.first",Rows.laid_unicode_utf8_first)∈l) (h2:("unicode/utf8.acceptRanges",Rows.laid_unicode_utf8_acceptRanges)∈l):UT W:=by
  have r1:=Lib.laidMet.reads h h1
  have r2:=Lib.laidMet.reads h h2
  rw [first_data] at r1
  rw [accept_data] at r2
  exact utf8Tabs_of_readsT types8 extra8 r1 r2
theorem cells_i64:Tryz.prog.cellsOf 3=1:=by kernel_rfl
/-- An argument that is a slice of numbers. -/
theorem ints_arg {H:Type} {enc:TypeId × Value→H} {W:World} {base:Nat} {v:Value} {d:DataW H} {p:List MemPlace}
    (hok:Value.okWide Tryz.prog W .any base 40 v) (h:DataW.Trod enc Tryz.prog W 0 (fun _=>true) true 40 v d p) :
    ∃ (ad:Option Addr) (len cap:Nat) (xs:List Int),v=.slice ad len cap∧xs.length=len∧len≤cap∧(∀ r∈xs,-9223372036854775808≤r∧r≤9223372036854775807)∧RdV W ad (xs.map iz):=by
  obtain ⟨a0,len,cap,rfl⟩:=okWide_slice Tryz.underlying40 hok
  obtain ⟨fuel,hf⟩:=h
  rcases open_ints Tryz.underlying40 Tryz.underlying3 cells_i64 hf with ⟨hcs,hx⟩ | ⟨a,len',cap',zs,hcs,_,hl,hm,hz,hx,hcell,hwz⟩
  · simp [Value.cells] at hcs
    obtain ⟨rfl,rfl,rfl⟩:=hcs
    exact ⟨none,0,0,[],rfl,rfl,Nat.le_refl _,by simp,RdV.nil _ _⟩
  · simp [Value.cells] at hcs
    obtain ⟨rfl,rfl,rfl⟩:=hcs
    simp only [if_true] at hz
    refine ⟨some a,len,cap,zs.take len,rfl,by simp;omega,hl,fun r hr=>i64_bd (hwz r (List.mem_of_mem_take hr)),?_⟩
    intro i hi
    have hi':i<len:=by simp at hi;omega
    have hil:i<zs.length:=by omega
    have hc:=hcell i hil
    have h0:=hcell 0 (by omega)
    obtain ⟨b,off,spot⟩:=a
    have hspot:spot=none:=by simpa [Addr.add] using World.cell?_spot h0
    subst hspot
    have e:(Addr.add ⟨b,off,none⟩ i)=⟨b,off+i,none⟩:=by unfold Addr.add;split <;> simp_all
    rw [e] at hc
    refine ⟨b,off,rfl,?_,?_⟩
    · rcases Nat.lt_or_ge b W.heap.size with h1 | h1
      · exact h1
      · simp [World.cell?,Array.getElem?_eq_none h1] at hc
    · rw [hc]
      simp [iz,hi',hil]
end Go.Proofs.YtijaphbccnadbaaGreatDoor
namespace Go.Proofs.YtijaphbccnadbaaGreatDoor
open Go.ChangeShapes Go.WideShapes Go.ChangeAt Go.RowKit
theorem laidMet_tail {P:Program} {x:String × DataW Unit} {l:List (String × DataW Unit)} {w:World} (h:laidMet P (x::l) w):laidMet P l w:=by
  obtain ⟨ps,⟨g',t',cs,fuel,p,q,hg',ht',hvar,hd,h6,h7⟩,hn,h3⟩:=h
  subst h7
  exact ⟨q,h6,(List.nodup_append.1 hn).2.1,fun b off hq=>h3 b off (List.mem_append_right _ hq)⟩
theorem g_tab:Tryz.prog.globalNamed "internal/strconv.uint64pow10" = some 3:=by kernel_rfl
theorem g_type:(Tryz.prog.globals[3]?).map (·.type)=some 222:=by kernel_rfl
theorem tab_data:(Rows.laid_internal_strconv_uint64pow10:DataW Unit)=Lib.tabData .u64 Lib.pow10Tab:=by kernel_rfl
theorem tb_of_laid {a b:String × DataW Unit} {l:List (String × DataW Unit)} {W:World} (h:laidMet Tryz.prog (a::b::("internal/strconv.uint64pow10",Rows.laid_internal_strconv_uint64pow10)::l) W):TB W:=by
  have h2:=laidMet_tail (laidMet_tail h)
  rw [tab_data] at h2
  exact Lib.tabIs_of_head g_tab g_type Tryz.underlying222 Tryz.underlying131 (by kernel_rfl) (by kernel_rfl) h2
end Go.Proofs.YtijaphbccnadbaaGreatDoor
namespace Go.Proofs.YtijaphbccnadbaaGreatDoor.jsonBlanks
open Go.ChangeShapes Go.WideShapes Go.ChangeAt Go.RowKit
set_option linter.unusedVariables false
set_option maxRecDepth 100000 in
theorem lifted (os:Os) (started:os.Started) (H:Type) (enc:TypeId × Value→H) :
    ReturnsInHanded {} Tryz.checked os 5 .any (fun w args=>(Rows.jsonBlanksSpec.pre enc Tryz.prog Tryz.f5 Rows.jsonBlanksRow.domain false w args∧laidMetH Tryz.prog Rows.jsonBlanksRow.laid w)∧sizedMet enc Tryz.prog Tryz.f5 (OpenSpec.ofChange Rows.jsonBlanksSpec) false w args)
      (Rows.jsonBlanksSpec.post enc Tryz.prog Tryz.f5 false true false false):=by
  refine returnsInHanded_of_change_and (C:=Tryz.checked) (X:=fun w _=>laidMetH Tryz.prog Rows.jsonBlanksRow.laid w) (fun _ _ _ hh h=>h.of_heap hh) own started (by kernel_rfl) Tryz.func5
    (ChangeSpec.witness_shaped (enc:=enc) (C:=Tryz.checked) (os:=os) (X:=fun w _=>laidMetH Tryz.prog Rows.jsonBlanksRow.laid w) false (World.laidAll Tryz.prog os Rows.jsonBlanksRow.laid) #[.slice none 0 0,.int .i64 0] 8 (World.laidAll_os _ _ _)
      (World.shaped_of_ZipB (by kernel_rfl) (by kernel_rfl)) (by kernel_rfl) (by kernel_rfl) (by kernel_rfl)
      (by rw [MakeChecks.laidMetH_plain _ _ _ (by kernel_rfl)];exact laidMet_laidAll _ (by kernel_rfl) (by kernel_rfl))) ?_
  intro W base args ds gs before hval0 hW hc hsz0 hL _
  have hval:∀ (j:Nat) t v,Tryz.f5.params[j]? = some t→args[j]? = some v→Value.okWide Tryz.prog W .any base t v:=hval0
  have hW':=hW
  obtain ⟨p,q,hA0,hV,rfl,_,_⟩:=hW
  have hA:DataW.TrodAll enc Tryz.prog W 0 (fun _=>true) true Tryz.f5.params.toList args.toList ds p:=hA0
  rw [Tryz.params5] at hA hval
  obtain ⟨v0,vs0,d0,ds0,p0,q0,hargsE,rfl,rfl,h0,r0⟩:=trodAll_cons hA
  obtain ⟨v1,vs1,d1,ds1,p1,q1,rfl,rfl,rfl,h1,r1⟩:=trodAll_cons r0
  obtain ⟨rfl,rfl,rfl⟩:=trodAll_nil r1
  obtain rfl:args=#[v0,v1]:=by cases args;simp_all
  obtain ⟨rfl,rfl⟩:=trodVars_none hV
  clear hA0 hval0
  have hL2:=hL
  rw [MakeChecks.laidMetH_plain _ _ _ (by kernel_rfl)] at hL2
  have htb:UT W:=ut_of_laid hL2 (by simp [Rows.jsonBlanksRow]) (by simp [Rows.jsonBlanksRow])
  have htb2:TB W:=tb_of_laid hL2
  have hlt0:∀ x∈p0,x.block<W.heap.size:=fun x hx=>by have:=hW'.lt x (by simp [hx]);simpa using this
  have hk0:=h0
  obtain ⟨ad0,len0,cap0,xs0,rfl,hl0,hcp0,ho0,hr0⟩:=ints_arg (hval 0 40 v0 rfl rfl) h0
  obtain ⟨i1,rfl,rfl,rfl,w1⟩:=open_int Tryz.underlying3 (hval 1 3 v1 rfl rfl) h1
  refine (jsonBlanks_walk ad0 len0 cap0 xs0 i1 W hl0 hcp0 ho0 hr0 (i64_bd w1) htb htb2).mono fun e W' ⟨he,hb⟩=>?_
  subst he
  have e1:Rows.jsonBlanksSpec.fn H ([d0,.lit (.int .i64 i1)]++[]) = { results:=[.lit (.bool true)],args:=[d0,.lit (.int .i64 i1)] }:=by simp [Rows.jsonBlanksSpec]
  refine ⟨_,rfl,_,_,_,[],(p0++([]++[])),[],hW',?_,?_,?_,hb.frame fun p=>p∈(p0++([]++[]))++[]∧(p∈([]:List MemPlace)∨p∈(p0++([]++[]))∨p∈([]:List MemPlace)),fun h=>by cases h⟩
  · rw [e1];exact trodAll_mk1 (shut_bool Tryz.underlying4 true)
  · rw [e1];exact (trodAll_cons_mk (hargs_keep (by kernel_rfl) (of_decide_eq_true (by kernel_rfl)) hk0 hb hlt0) (trodAll_cons_mk (shut_int Tryz.underlying3 w1) trodAll_mk0))
  · rw [e1];rfl
theorem over:Rows.jsonBlanksRow.holds Tryz.pinned (OpenSpec.ofChange Rows.jsonBlanksSpec) :=
  OpenClaim.holds_of_wide 5 Tryz.f5 rfl rfl rfl rfl rfl rfl rfl ⟨rfl,rfl,rfl,rfl,rfl⟩ rfl rfl rfl rfl rfl (by kernel_rfl) Tryz.func5 (by kernel_rfl)
    (of_decide_eq_true (by kernel_rfl)) (by unfold Func.isWrapper;first | (rw [if_pos (by decide +kernel)];kernel_rfl) | (rw [if_neg (by decide +kernel)];exact ⟨rfl,rfl⟩))
    (fun os started H enc _=>lifted os started H enc)
theorem proved:Rows.JsonBlanksCardSaid :=
  Claim7.holds_tied_plain_at .later [] [.data,.data,.data,.data,.pinned] true Rows.jsonBlanksCard.stood.harness Rows.jsonBlanksCard.stood.looks over (fun _ h=>by cases h) (by kernel_rfl) (fun _ h=>by cases h) jsonBlanks_row_tie rfl ⟨rfl,rfl⟩ (by kernel_rfl) rfl
    (fun f fn hf hfn=>by
      obtain rfl:f=5:=Option.some.inj ((show Tryz.prog.funcNamed Rows.jsonBlanksRow.func=some 5 by kernel_rfl).symm.trans hf) |>.symm
      obtain rfl:fn=Tryz.f5:=(Option.some.inj (Tryz.func5.symm.trans hfn)).symm
      exact ⟨by kernel_rfl,fun j t ht=>by
        rw [Tryz.params5] at ht
        have hm:t∈([40,3]:List TypeId):=by simpa using Array.mem_of_getElem? ht
        have hall:(([40,3]:List TypeId).all fun u=>!Tryz.prog.wantsStandIn u)=true:=by kernel_rfl
        exact (show Tryz.prog.wantsStandIn t=false by simpa using List.all_eq_true.1 hall t hm)⟩)
    (by kernel_rfl)
#print axioms proved
end Go.Proofs.YtijaphbccnadbaaGreatDoor.jsonBlanks
