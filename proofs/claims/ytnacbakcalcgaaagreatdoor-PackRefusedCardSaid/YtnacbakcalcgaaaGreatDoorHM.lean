/- Texts of the claim. -/
import Derived.Test.YtnacbakcalcgaaaGreatDoorHL
import Derived.Test.YtnacbakcalcgaaaGreatDoorTie
import Derived.LaidMore
import Derived.Lay
import Derived.Lib.LaidU8T
import Derived.Lib.SmallJoins
set_option linter.unusedVariables false
set_option linter.unusedSimpArgs false
set_option maxHeartbeats 8000000
set_option maxRecDepth 100000
namespace Go.Proofs.YtnacbakcalcgaaaGreatDoor
open Go.RowKit Go.Shelf
theorem made_none (d:Nat) (a:Option Addr) (c:Nat) (w:World):Calls Tryz.prog 45 #[.slice a 0 c,.int .i64 (d:Int)] w (MadeP d (.slice a 0 c) w):=by
  obtain ⟨wA,hwA⟩:∃ W,w.alloc (.cells #[.int .i64 0,.bool false,.bool false,.slice none 0 0,.int .i64 0,.string ⟨#[]⟩,.slice none 0 0,.slice none 0 0] 29)=W:=⟨_,rfl⟩
  have hbA:Below w.heap.size w wA:=by rw [← hwA];exact (Below.refl _ _).alloc (Nat.le_refl _) _
  have HB4:=Lib.hid (show BoxT wA w.heap.size (leafC 0 false ⟨#[]⟩) by rw [← hwA];exact heap_alloc_new w _)
  have HBA:=Lib.hid hbA
  have hvar:=HB4.out.var
  unfold Var at hvar
  obtain ⟨⟨g0,g1,g2,g3,g4,g5,g6,g7⟩,f0,f1,f2,f3,f4,f5,f6,f7⟩:=hvar
  simp only [leafC] at g0 g1 g2 g3 g4 g5 g6 g7
  have hbx:=(put0_box HB4.out (c:=(leafC 1 false ⟨#[]⟩))).cells
  unfold put0 leafC at hbx
  simp only at hbx
  obtain ⟨e0,e1,e2,e3,e4,e5,e6,e7⟩:=hbx
  have HF:=Lib.hid (made_leaf (d:=d) (v0:=.slice a 0 c) (u0:=.slice none 0 0) 1 false ⟨#[]⟩ HBA.out (fun W _=>intsV_nil W) (by decide) (by decide) rfl)
  unfold put0 leafC Cel.val at HF
  simp only at HF
  clear hbA
  go_enter Tryz.func45,Tryz.ntmps45
  go_wp2_with fail
  exact bodyPost_ret (v:=.tuple #[.agg #[.int .i64 1,.bool false,.bool false,.slice none 0 0,.int .i64 0,.string ⟨#[]⟩,.slice none 0 0,.slice none 0 0],.slice none 0 0]) (by simp [results,Tryz.results45,go_sem,e0,e1,e2,e3,e4,e5,e6,e7]) rfl HF.out
theorem made_all:∀ d:Nat,d≤10→∀ (v:Value) (w:World),IntsV w v→Calls Tryz.prog 45 #[v,.int .i64 (d:Int)] w (MadeP d v w):=by
  intro d
  induction d with
  | zero =>
    intro hd v w hI
    obtain ⟨a,n,c,xs,rfl,h2,h3,h4,h5,h6⟩:=id hI
    cases n with
    | zero=>exact made_none 0 a c w
    | succ n =>
      obtain ⟨bl,ol,rfl,_⟩:=h2.shape (by rw [List.length_map];omega)
      exact madeV_any 0 hd (fun d' h=>by omega) (n+1) c bl ol w hI (by omega)
  | succ d ih =>
    intro hd v w hI
    obtain ⟨a,n,c,xs,rfl,h2,h3,h4,h5,h6⟩:=id hI
    cases n with
    | zero=>exact made_none (d+1) a c w
    | succ n =>
      obtain ⟨bl,ol,rfl,_⟩:=h2.shape (by rw [List.length_map];omega)
      exact madeV_any (d+1) hd (fun d' h=>by obtain rfl:d'=d:=(by omega);exact ih (by omega)) (n+1) c bl ol w hI (by omega)
def MadeT (d:Nat) (w:World) (e:Ending) (w':World):Prop:=∃ t,e=.returned t.c.val∧Rep w' t∧Fit d t∧Below w.heap.size w w'
theorem Made_any (d:Nat) (hd:d≤10) (v:Value) (w:World) (hI:IntsV w v):Calls Tryz.prog 20 #[v,.int .i64 (d:Int)] w (MadeT d w):=by
  obtain ⟨wA,hwA⟩:∃ W,w.alloc (.cells #[.int .i64 0,.bool false,.bool false,.slice none 0 0,.int .i64 0,.string ⟨#[]⟩,.slice none 0 0,.slice none 0 0] 29)=W:=⟨_,rfl⟩
  have hbA:Below w.heap.size w wA:=by rw [← hwA];exact (Below.refl _ _).alloc (Nat.le_refl _) _
  have HSA:=Lib.hid (show wA.heap.size=w.heap.size+1 by rw [← hwA];simp)
  have HB4:=Lib.hid (show BoxT wA w.heap.size (leafC 0 false ⟨#[]⟩) by rw [← hwA];exact heap_alloc_new w _)
  have HBA:=Lib.hid hbA
  have KM:=Lib.hid (made_all d hd v wA (hI.on hbA))
  have HWA:=Lib.hid hwA
  clear hbA hI hwA
  go_enter Tryz.func20,Tryz.ntmps20
  go_wp2_with fail
  rw [HWA.out]
  refine KM.out.mono ?_
  rintro r w1 ⟨t,v',rfl,hi,hf,_,hb⟩
  have h4:=HB4.out.on (hb.block _ HB4.out.lt)
  have hvar:=h4.var
  unfold Var at hvar
  obtain ⟨⟨g0,g1,g2,g3,g4,g5,g6,g7⟩,f0,f1,f2,f3,f4,f5,f6,f7⟩:=hvar
  simp only [leafC] at g0 g1 g2 g3 g4 g5 g6 g7
  have h4l:=h4.lt
  have HE:=Lib.hid (fun (o:Obj)=>((put0_box h4 (c:=t.c)).on (((Below.refl (put0 w1 w.heap.size t.c).heap.size _).alloc (Nat.le_refl _) o).block _ (Nat.lt_of_lt_of_le h4l (put0_but _ _ _).size))).cells)
  have HF:=Lib.hid (fun (o:Obj)=>(show MadeT d w (.returned t.c.val) ((put0 w1 w.heap.size t.c).alloc o) from by
    have hp:=put0_but w1 w.heap.size t.c
    have ha:=(Below.refl (put0 w1 w.heap.size t.c).heap.size (put0 w1 w.heap.size t.c)).alloc (Nat.le_refl _) o
    have hb0:Below w.heap.size w w1:=HBA.out.trans (hb.mono HBA.out.size)
    refine ⟨t,rfl,?_,hf,(hb0.trans (hp.below (Nat.le_refl _) hb0.size)).trans (ha.mono (Nat.le_trans hb0.size hp.size))⟩
    exact ((hi.to hp.size (fun k hk hx=>hp.block k hk (fun e=>hx (by have:=HSA.out;omega))) (fun _ _ h=>h) (fun _ h=>h):Ind (fun k=>k<wA.heap.size) _ (fun W=>Rep W t)).below ha).here))
  obtain ⟨c,hc⟩:∃ c,t.c=c:=⟨_,rfl⟩
  rw [hc] at HE HF ⊢
  clear hi hf hb h4 hc
  obtain ⟨zk,zb,zneg,zma,zmn,zmc,ze,zs,zka,zkn,zkc,zva,zvn,zvc⟩:=c
  have hE:=HE.out (.cells #[.int .i64 zk,.bool zb,.bool zneg,.slice zma zmn zmc,.int .i64 ze,.string zs,.slice zka zkn zkc,.slice zva zvn zvc] 29)
  have HF:=Lib.hid (HF.out (.cells #[.int .i64 zk,.bool zb,.bool zneg,.slice zma zmn zmc,.int .i64 ze,.string zs,.slice zka zkn zkc,.slice zva zvn zvc] 29))
  unfold put0 Cel.val at HF
  unfold put0 at hE
  simp only at hE HF
  obtain ⟨e0,e1,e2,e3,e4,e5,e6,e7⟩:=hE
  clear HE
  unfold Cel.val
  go_wp2_with fail
  exact bodyPost_ret (v:=.agg #[.int .i64 zk,.bool zb,.bool zneg,.slice zma zmn zmc,.int .i64 ze,.string zs,.slice zka zkn zkc,.slice zva zvn zvc]) (by simp [results,Tryz.results20,go_sem,e0,e1,e2,e3,e4,e5,e6,e7]) rfl HF.out
end Go.Proofs.YtnacbakcalcgaaaGreatDoor
namespace Go.Proofs.YtnacbakcalcgaaaGreatDoor
open Go.RowKit Go.Lib Go.Sort
theorem packRefused_walk (ad:Option Addr) (n cap:Nat) (xs:List Int) (how:Int) (w:World) (hn:xs.length=n) (hcap:n≤cap) (hx:∀ x∈xs,-9223372036854775808≤x∧x≤9223372036854775807) (hr:RdV w ad (xs.map iz)) (hh:-9223372036854775808≤how∧how≤9223372036854775807) (hU:UT w) (hT:DB w) :
    Calls Tryz.prog 11 #[.slice ad n cap,.int .i64 how] w (BoolBelow true w):=by
  by_cases h40:n≤40
  · have K:Calls Tryz.prog 20 #[.slice ad n cap,.int .i64 3] w (MdP w):=by
      have K:=Made_any 3 (by decide) (.slice ad n cap) w ⟨ad,n,cap,xs,rfl,hr,hn,hcap,by omega,hx⟩
      refine K.mono ?_
      rintro e w' ⟨t,he,hR,hf,hb⟩
      exact made_MdP he hR hf hb
    obtain ⟨u,hu⟩:∃ u:Nat,how % 9=(u:Int):=⟨(how % 9).toNat,by have:=Int.emod_nonneg how (show (9:Int) ≠ 0 by decide);omega⟩
    have hub:u<9:=by have:=Int.emod_lt_of_pos how (show (0:Int)<9 by decide);omega
    by_cases h5:u<5
    · exact packRefused_maina ad n cap how u hu hub h5 w hh hU hT h40 K
    · exact packRefused_mainb ad n cap how u hu hub (by omega) w hh hU hT h40 K
  · exact packRefused_long ad n cap how w hU hT (by omega)
end Go.Proofs.YtnacbakcalcgaaaGreatDoor
namespace Go.Proofs.YtnacbakcalcgaaaGreatDoor
open Go.ChangeShapes Go.WideShapes Go.ChangeAt Go.RowKit Go.Shelf
theorem own:ownKnob Tryz.prog.godebug=none:=by kernel_rfl
theorem laidOut:laidOutB Tryz.prog=true:=by kernel_rfl
theorem i64_bd {n:Int} (h:(Lit.int .i64 n).wf=true):-9223372036854775808≤n∧n≤9223372036854775807:=by
  simpa [Lit.wf,IntKind.min,IntKind.max,IntKind.signed,IntKind.bits] using h
theorem hargs_keep {H:Type} {enc:TypeId × Value→H} {t:TypeId} {W W':World} {v:Value} {d:DataW H} {ps:List MemPlace} (hr:Tryz.prog.readableRec t=true) (hrow:t<Tryz.prog.types.size)
    (h:DataW.Trod enc Tryz.prog W 0 (fun _=>true) true t v d ps) (hb:Below W.heap.size W W') (hlt:∀ x∈ps,x.block<W.heap.size) :
    DataW.Trod enc Tryz.prog W' 0 (fun b=>decide (b<W.heap.size)) true t v d ps:=Below.trod laidOut hr hrow h hb hlt
def ren8:Go.Shelf.Ren:=⟨fun n=>n,fun | 5=>5 | 119=>222 | 138=>224 | 139=>225 | n=>n,fun | 3=>1 | 4=>2 | n=>n⟩
theorem types8:U8Types Tryz.prog ren8:={ t5:=Tryz.underlying5,t119:=Tryz.underlying222,t138:=Tryz.underlying224,t139:=Tryz.underlying225 }
theorem extra8:U8Extra Tryz.prog ren8:={ n3:=by kernel_rfl,n4:=by kernel_rfl,y3:=by kernel_rfl,y4:=by kernel_rfl,c5:=by kernel_rfl,c119:=by kernel_rfl,c138:=by kernel_rfl }
theorem first_data:Rows.laid_unicode_utf8_first=Lib.firstData:=by kernel_rfl
theorem accept_data:(Rows.laid_unicode_utf8_acceptRanges:DataW Unit)=Lib.acceptData:=by kernel_rfl
theorem ut_of_laid {l:List (String × DataW Unit)} {W:World} (h:laidMet Tryz.prog l W) (h1:("unicode/utf8.first",Rows.laid_unicode_utf8_first)∈l) (h2:("unicode/utf8.acceptRanges",Rows.laid_unicode_utf8_acceptRanges)∈l):UT W:=by
  have r1:=Lib.laidMet.reads h h1
  have r2:=Lib.laidMet.reads h h2
  rw [first_data] at r1
  rw [accept_data] at r2
  exact utf8Tabs_of_readsT types8 extra8 r1 r2
end Go.Proofs.YtnacbakcalcgaaaGreatDoor
namespace Go.Proofs.YtnacbakcalcgaaaGreatDoor
open Go.ChangeShapes Go.WideShapes Go.ChangeAt Go.RowKit
def bruTab:List Int:=List.map (fun n:Nat=>(n:Int)) Lib.deBruijn32tab
theorem g_bru:Tryz.prog.globalNamed "math/bits.deBruijn32tab" = some 0:=by kernel_rfl
theorem g_bruT:(Tryz.prog.globals[0]?).map (·.type)=some 218:=by kernel_rfl
theorem bru_data:(Rows.laid_math_bits_deBruijn32tab:DataW Unit)=Lib.tabData .u8 bruTab:=by kernel_rfl
theorem db_of_laid {l:List (String × DataW Unit)} {W:World} (h:laidMet Tryz.prog (("math/bits.deBruijn32tab",Rows.laid_math_bits_deBruijn32tab)::l) W):DB W:=by
  rw [bru_data] at h
  have ht:=Lib.tabIs_of_head g_bru g_bruT Tryz.underlying218 Tryz.underlying5 (by kernel_rfl) (by kernel_rfl) h
  intro j hj
  unfold Lib.TabIs World.var? at ht
  rw [g_bru] at ht
  simp only [Option.bind_some] at ht
  split at ht
  · rename_i cs t0 f0 hb
    simp only [Option.some.injEq] at ht
    subst ht
    simp only [World.cell?,hb]
    have hl:Lib.deBruijn32tab.length=32:=by decide
    simp [bruTab,List.getD,show j<Lib.deBruijn32tab.length by omega]
  · cases ht
end Go.Proofs.YtnacbakcalcgaaaGreatDoor
namespace Go.Proofs.YtnacbakcalcgaaaGreatDoor
open Go.ChangeShapes Go.WideShapes Go.ChangeAt Go.RowKit Go.Shelf
theorem cells_i64:Tryz.prog.cellsOf 3=1:=by kernel_rfl
/-- An argument that is a slice of numbers. -/
theorem ints_arg {H:Type} {enc:TypeId × Value→H} {W:World} {base:Nat} {v:Value} {d:DataW H} {p:List MemPlace}
    (hok:Value.okWide Tryz.prog W .any base 40 v) (h:DataW.Trod enc Tryz.prog W 0 (fun _=>true) true 40 v d p) :
    ∃ (ad:Option Addr) (len cap:Nat) (xs:List Int),v=.slice ad len cap∧xs.length=len∧len≤cap∧(∀ r∈xs,-9223372036854775808≤r∧r≤9223372036854775807)∧RdV W ad (xs.map iz):=by
  obtain ⟨a0,len,cap,rfl⟩:=okWide_slice Tryz.underlying40 hok
  obtain ⟨fuel,hf⟩:=h
  rcases open_ints Tryz.underlying40 Tryz.underlying3 cells_i64 hf with ⟨hcs,hx⟩ | ⟨a,len',cap',zs,hcs,_,hl,hm,hz,hx,hcell,hwz⟩
  · simp [Value.cells] at hcs
    obtain ⟨rfl,rfl,rfl⟩:=hcs
    exact ⟨none,0,0,[],rfl,rfl,Nat.le_refl _,by simp,RdV.nil _ _⟩
  · simp [Value.cells] at hcs
    obtain ⟨rfl,rfl,rfl⟩:=hcs
    simp only [if_true] at hz
    refine ⟨some a,len,cap,zs.take len,rfl,by simp;omega,hl,fun r hr=>i64_bd (hwz r (List.mem_of_mem_take hr)),?_⟩
    intro i hi
    have hi':i<len:=by simp at hi;omega
    have hil:i<zs.length:=by omega
    have hc:=hcell i hil
    have h0:=hcell 0 (by omega)
    obtain ⟨b,off,spot⟩:=a
    have hspot:spot=none:=by simpa [Addr.add] using World.cell?_spot h0
    subst hspot
    have e:(Addr.add ⟨b,off,none⟩ i)=⟨b,off+i,none⟩:=by unfold Addr.add;split <;> simp_all
    rw [e] at hc
    refine ⟨b,off,rfl,?_,?_⟩
    · rcases Nat.lt_or_ge b W.heap.size with h1 | h1
      · exact h1
      · simp [World.cell?,Array.getElem?_eq_none h1] at hc
    · rw [hc]
      simp [iz,hi',hil]
end Go.Proofs.YtnacbakcalcgaaaGreatDoor
