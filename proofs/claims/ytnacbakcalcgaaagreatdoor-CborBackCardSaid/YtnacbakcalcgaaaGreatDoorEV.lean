/- erratumlaw10.CborBack: for every input it answers true, and what came in stays: the row, and its tied card. Conditions: what the row's own cells say (the tables of Go's library that it lists start as the program's text lays them). -/
import Derived.Test.YtnacbakcalcgaaaGreatDoorER
import Derived.Test.YtnacbakcalcgaaaGreatDoorTie
import Derived.ProofKit
import Derived.SizedLaws
import Derived.OpenShut
import Derived.LaidMore
import Derived.Lay
import Derived.SevenTiedAt
import Derived.Stop.Joined
import Derived.Lib.LaidU8T
import Derived.Test.YtnacbakcalcgaaaGreatDoorEI
import Derived.Lib.LaidTab
import Derived.Lib.SmallJoins
import Derived.Test.YtnacbakcalcgaaaGreatDoorEz
import Derived.ChangeSlices
import Derived.Test.YtnacbakcalcgaaaGreatDoorEr
import Derived.SliceStrings
import Derived.Test.YtnacbakcalcgaaaGreatDoorEU
import Derived.Test.YtnacbakcalcgaaaGreatDoorCards
set_option linter.unusedVariables false
set_option linter.unusedSimpArgs false
set_option maxHeartbeats 200000
set_option maxRecDepth 100000
namespace Go.Proofs.YtnacbakcalcgaaaGreatDoor
open Go.ChangeShapes Go.WideShapes Go.ChangeAt Go.RowKit Go.Shelf
theorem own:ownKnob Tryz.prog.godebug=none:=by kernel_rfl
theorem laidOut:laidOutB Tryz.prog=true:=by kernel_rfl
theorem i64_bd {n:Int} (h:(Lit.int .i64 n).wf=true):-9223372036854775808≤n∧n≤9223372036854775807:=by
  simpa [Lit.wf,IntKind.min,IntKind.max,IntKind.signed,IntKind.bits] using h
theorem hargs_keep {H:Type} {enc:TypeId × Value→H} {t:TypeId} {W W':World} {v:Value} {d:DataW H} {ps:List MemPlace} (hr:Tryz.prog.readableRec t=true) (hrow:t<Tryz.prog.types.size)
    (h:DataW.Trod enc Tryz.prog W 0 (fun _=>true) true t v d ps) (hb:Below W.heap.size W W') (hlt:∀ x∈ps,x.block<W.heap.size) :
    DataW.Trod enc Tryz.prog W' 0 (fun b=>decide (b<W.heap.size)) true t v d ps:=Below.trod laidOut hr hrow h hb hlt
def ren8:Go.Shelf.Ren:=⟨fun n=>n,fun | 5=>5 | 119=>222 | 138=>224 | 139=>225 | n=>n,fun | 3=>1 | 4=>2 | n=>n⟩
theorem types8:U8Types Tryz.prog ren8:={ t5:=Tryz.underlying5,t119:=Tryz.underlying222,t138:=Tryz.underlying224,t139:=Tryz.underlying225 }
theorem extra8:U8Extra Tryz.prog ren8:={ n3:=by kernel_rfl,n4:=by kernel_rfl,y3:=by kernel_rfl,y4:=by kernel_rfl,c5:=by kernel_rfl,c119:=by kernel_rfl,c138:=by kernel_rfl }
theorem first_data:Rows.laid_unicode_utf8_first=Lib.firstData:=by kernel_rfl
theorem accept_data:(Rows.laid_unicode_utf8_acceptRanges:DataW Unit)=Lib.acceptData:=by kernel_rfl
theorem ut_of_laid {l:List (String × DataW Unit)} {W:World} (h:laidMet Tryz.prog l W) (h1:("unicode/utf8.first",Rows.laid_unicode_utf8_first)∈l) (h2:("unicode/utf8.acceptRanges",Rows.laid_unicode_utf8_acceptRanges)∈l):UT W:=by
  have r1:=Lib.laidMet.reads h h1
  have r2:=Lib.laidMet.reads h h2
  rw [first_data] at r1
  rw [accept_data] at r2
  exact utf8Tabs_of_readsT types8 extra8 r1 r2
end Go.Proofs.YtnacbakcalcgaaaGreatDoor
namespace Go.Proofs.YtnacbakcalcgaaaGreatDoor
open Go.ChangeShapes Go.WideShapes Go.ChangeAt Go.RowKit
def bruTab:List Int:=List.map (fun n:Nat=>(n:Int)) Lib.deBruijn32tab
theorem g_bru:Tryz.prog.globalNamed "math/bits.deBruijn32tab" = some 0:=by kernel_rfl
theorem g_bruT:(Tryz.prog.globals[0]?).map (·.type)=some 218:=by kernel_rfl
theorem bru_data:(Rows.laid_math_bits_deBruijn32tab:DataW Unit)=Lib.tabData .u8 bruTab:=by kernel_rfl
theorem db_of_laid {l:List (String × DataW Unit)} {W:World} (h:laidMet Tryz.prog (("math/bits.deBruijn32tab",Rows.laid_math_bits_deBruijn32tab)::l) W):DB W:=by
  rw [bru_data] at h
  have ht:=Lib.tabIs_of_head g_bru g_bruT Tryz.underlying218 Tryz.underlying5 (by kernel_rfl) (by kernel_rfl) h
  intro j hj
  unfold Lib.TabIs World.var? at ht
  rw [g_bru] at ht
  simp only [Option.bind_some] at ht
  split at ht
  · rename_i cs t0 f0 hb
    simp only [Option.some.injEq] at ht
    subst ht
    simp only [World.cell?,hb]
    have hl:Lib.deBruijn32tab.length=32:=by decide
    simp [bruTab,List.getD,show j<Lib.deBruijn32tab.length by omega]
  · cases ht
theorem wf_u8C {n:Int} (h:(Lit.int .u8 n).wf=true):0≤n∧n≤255:=by
  simpa [Lit.wf,IntKind.min,IntKind.max,IntKind.signed,IntKind.bits] using h
theorem cells_u8C:Tryz.prog.cellsOf 5=1:=by kernel_rfl
/-- An argument that is a slice of bytes. -/
theorem bytes_argC {H:Type} {enc:TypeId × Value→H} {W:World} {base:Nat} {v:Value} {d:DataW H} {p:List MemPlace}
    (hok:Value.okWide Tryz.prog W .any base 22 v) (h:DataW.Trod enc Tryz.prog W 0 (fun _=>true) true 22 v d p) :
    ∃ (ad:Option Addr) (len cap:Nat) (xs:List Nat),v=.slice ad len cap∧xs.length=len∧len≤cap∧Okb xs∧RdV W ad (bc xs)∧(ad=none→cap=0):=by
  obtain ⟨a0,len,cap,rfl⟩:=okWide_slice Tryz.underlying22 hok
  obtain ⟨fuel,hf⟩:=h
  rcases open_ints Tryz.underlying22 Tryz.underlying5 cells_u8C hf with ⟨hcs,hx⟩ | ⟨a,len',cap',zs,hcs,_,hl,hm,hz,hx,hcell,hwz⟩
  · simp [Value.cells] at hcs
    obtain ⟨rfl,rfl,rfl⟩:=hcs
    exact ⟨none,0,0,[],rfl,rfl,Nat.le_refl _,(fun _ h=>by cases h),RdV.nil _ _,fun _=>rfl⟩
  · simp [Value.cells] at hcs
    obtain ⟨rfl,rfl,rfl⟩:=hcs
    simp only [if_true] at hz
    refine ⟨some a,len,cap,(zs.take len).map Int.toNat,rfl,by simp;omega,hl,fun r hr=>?_,?_,fun h=>by cases h⟩
    · obtain ⟨z,hz,rfl⟩:=List.mem_map.1 hr
      have:=wf_u8C (hwz z (List.mem_of_mem_take hz))
      omega
    intro i hi
    have hi':i<len:=by simp [bc] at hi;omega
    have hil:i<zs.length:=by omega
    have hc:=hcell i hil
    have h0:=hcell 0 (by omega)
    obtain ⟨b,off,spot⟩:=a
    have hspot:spot=none:=by simpa [Addr.add] using World.cell?_spot h0
    subst hspot
    have e:(Addr.add ⟨b,off,none⟩ i)=⟨b,off+i,none⟩:=by unfold Addr.add;split <;> simp_all
    rw [e] at hc
    refine ⟨b,off,rfl,?_,?_⟩
    · rcases Nat.lt_or_ge b W.heap.size with h1 | h1
      · exact h1
      · simp [World.cell?,Array.getElem?_eq_none h1] at hc
    · have hw:=wf_u8C (hwz zs[i] (List.getElem_mem _))
      rw [hc]
      simp [bc,hi',hil]
      omega
end Go.Proofs.YtnacbakcalcgaaaGreatDoor
namespace Go.Proofs.YtnacbakcalcgaaaGreatDoor
open Go.ChangeShapes Go.WideShapes Go.ChangeAt Go.RowKit Go.Shelf
theorem cells_u32':Tryz.prog.cellsOf 51=1:=by kernel_rfl
theorem cells_string':Tryz.prog.cellsOf 9=1:=by kernel_rfl
theorem cells_tree:Tryz.prog.cellsOf 29=8:=by kernel_rfl
theorem bytes_u32:Tryz.prog.bytesOf 51=4:=by kernel_rfl
theorem bytes_string:Tryz.prog.bytesOf 9=16:=by kernel_rfl
theorem bytes_tree:Tryz.prog.bytesOf 29=120:=by kernel_rfl
theorem wf_u32' {n:Int} (h:(Lit.int .u32 n).wf=true):0≤n∧n≤4294967295:=by
  simpa [Lit.wf,IntKind.min,IntKind.max,IntKind.signed,IntKind.bits] using h
theorem reach_eq:reachBytes=140737488351232:=rfl
section
variable {H : Type} {enc : TypeId × Value → H} {W : World}
theorem limbs_in {v:Value} {fuel:Nat} {y:DataW H × List MemPlace}
    (hf:DataW.trod enc Tryz.prog W 0 (fun _=>true) true fuel 23 [v]=some y) (hz:∀ n∈y.1.weights Tryz.prog 23,n≤reachBytes) :
    ∃ ad len cap xs,v=.slice ad len cap∧xs.length=len∧len≤cap∧Okl xs∧Rd W ad xs∧len≤1000000000000000:=by
  rcases open_ints Tryz.underlying23 Tryz.underlying51 cells_u32' hf with ⟨hcs,hx⟩ | ⟨a,len',cap',zs,hcs,_,hl,hm,hzl,hx,hcell,hwz⟩
  · simp only [List.cons.injEq,and_true] at hcs
    exact ⟨none,0,0,[],hcs,rfl,Nat.le_refl _,Okl.nil,Rd.nil _ _,Nat.zero_le _⟩
  · simp only [List.cons.injEq,and_true] at hcs
    subst hcs
    simp only [if_true] at hzl
    refine ⟨some a,len',cap',(zs.take len').map Int.toNat,rfl,by simp;omega,hl,?_,?_,?_⟩
    · intro x hx
      obtain ⟨z,hz1,rfl⟩:=List.mem_map.1 hx
      have:=wf_u32' (hwz z (List.mem_of_mem_take hz1))
      rw [B32_eq];omega
    · intro i hi
      have hi':i<len':=by simp at hi;omega
      have hil:i<zs.length:=by omega
      have hc:=hcell i hil
      have h0:=hcell 0 (by omega)
      obtain ⟨b,off,spot⟩:=a
      have hspot:spot=none:=by simpa [Addr.add] using World.cell?_spot h0
      subst hspot
      have e:(Addr.add ⟨b,off,none⟩ i)=⟨b,off+i,none⟩:=by unfold Addr.add;split <;> simp_all
      rw [e] at hc
      refine ⟨b,off,rfl,?_,?_⟩
      · rcases Nat.lt_or_ge b W.heap.size with h1 | h1
        · exact h1
        · simp [World.cell?,Array.getElem?_eq_none h1] at hc
      · rw [hc]
        have hw:=wf_u32' (hwz (zs.getD i 0) (by simp [List.getD,hil]))
        have e2:((zs.take len').map Int.toNat).getD i 0=(zs.getD i 0).toNat:=by
          simp [List.getD,hi',hil]
        rw [e2]
        congr 2;omega
    · rcases DataW.trod_slice Tryz.underlying23 hf with ⟨h0,_⟩ | ⟨a2,len2,cap2,elems,rest,n2,_,h0,hy,_,_,_,h1,_⟩
      · cases h0
      · cases h0
        rw [hy] at hz
        have:=hz ((elems.length+rest.length)*Tryz.prog.bytesOf 51) (by simp [DataW.weights,Tryz.underlying23])
        rw [bytes_u32,reach_eq] at this
        omega
theorem texts_in {v:Value} {fuel:Nat} {y:DataW H × List MemPlace}
    (hf:DataW.trod enc Tryz.prog W 0 (fun _=>true) true fuel 26 [v]=some y) (hz:∀ n∈y.1.weights Tryz.prog 26,n≤reachBytes) :
    ∃ ad len cap l,v=.slice ad len cap∧l.length=len∧len≤cap∧len≤1000000000000000∧(∀ s∈l,s.size≤maxLen)∧RdV W ad (sv l):=by
  rcases open_strings Tryz.underlying26 Tryz.underlying9 cells_string' hf with ⟨hcs,hx⟩ | ⟨a,len',cap',ss,hcs,_,hl,hm,hzl,hx,hcell,hsz⟩
  · simp only [List.cons.injEq,and_true] at hcs
    exact ⟨none,0,0,[],hcs,rfl,Nat.le_refl _,Nat.zero_le _,(fun s hs=>by cases hs),RdV.nil _ _⟩
  · simp only [List.cons.injEq,and_true] at hcs
    subst hcs
    simp only [if_true] at hzl
    refine ⟨some a,len',cap',ss.take len',rfl,by simp;omega,hl,?_,fun s hs=>hsz s (List.mem_of_mem_take hs),?_⟩
    · rcases DataW.trod_slice Tryz.underlying26 hf with ⟨h0,_⟩ | ⟨a2,len2,cap2,elems,rest,n2,_,h0,hy,_,_,_,h1,_⟩
      · cases h0
      · cases h0
        rw [hy] at hz
        have:=hz ((elems.length+rest.length)*Tryz.prog.bytesOf 9) (by simp [DataW.weights,Tryz.underlying26])
        rw [bytes_string,reach_eq] at this
        omega
    · intro i hi
      have hi':i<len':=by simp [sv] at hi;omega
      have hil:i<ss.length:=by omega
      have hc:=hcell i hil
      have h0:=hcell 0 (by omega)
      obtain ⟨b,off,spot⟩:=a
      have hspot:spot=none:=by simpa [Addr.add] using World.cell?_spot h0
      subst hspot
      have e:(Addr.add ⟨b,off,none⟩ i)=⟨b,off+i,none⟩:=by unfold Addr.add;split <;> simp_all
      rw [e] at hc
      refine ⟨b,off,rfl,?_,?_⟩
      · rcases Nat.lt_or_ge b W.heap.size with h1 | h1
        · exact h1
        · simp [World.cell?,Array.getElem?_eq_none h1] at hc
      · rw [hc,sv_get _ _ (by simp;omega)]
        simp [List.getD,hi',hil]
theorem list_of {α:Type} {P:Nat→α→Prop}:∀ n,(∀ i,i<n→∃ x,P i x)→∃ l:List α,l.length=n∧∀ i (h:i<l.length),P i l[i]:=by
  intro n
  induction n with
  | zero=>intro _;exact ⟨[],rfl,fun i h=>by simp at h⟩
  | succ n ih =>
    intro h
    obtain ⟨l,h1,h2⟩:=ih (fun i hi=>h i (by omega))
    obtain ⟨x,hx⟩:=h n (by omega)
    refine ⟨l++[x],by simp [h1],fun i hi=>?_⟩
    by_cases hn:i<l.length
    · rw [List.getElem_append_left hn];exact h2 i hn
    · have:i=l.length:=by simp at hi;omega
      subst this
      simp;rw [h1];exact hx
theorem weights_all_mem {P:Program} {e:TypeId} {d:DataW H} {n:Nat} (hn:n∈d.weights P e):∀ {l:List (DataW H)},d∈l→n∈DataW.weightsAll P e l
  | [],h=>by cases h
  | x::l,h=>by
    rw [DataW.weightsAll,List.mem_append]
    rcases List.mem_cons.1 h with rfl | h
    · exact .inl hn
    · exact .inr (weights_all_mem hn h)
theorem tree_in:∀ (fuel:Nat) (cs:List Value) (y:DataW H × List MemPlace),DataW.trod enc Tryz.prog W 0 (fun _=>true) true fuel 29 cs=some y→(∀ n∈y.1.weights Tryz.prog 29,n≤reachBytes) →
    ∃ t:MT,cs=t.c.cells∧Rep W t:=by
  intro fuel
  induction fuel using Nat.strongRecOn with
  | ind fuel ih =>
    intro cs y hy hz
    obtain ⟨xs,n,rfl,rfl,hcl,hxl,hfs⟩:=DataW.trod_struct Tryz.underlying29 hy
    rw [cells_tree] at hcl
    simp only [List.size_toArray,List.length_cons,List.length_nil] at hxl
    obtain ⟨c0,c1,c2,c3,c4,c5,c6,c7,rfl⟩:∃ c0 c1 c2 c3 c4 c5 c6 c7,cs=[c0,c1,c2,c3,c4,c5,c6,c7]:=by
      match cs,hcl with
      | [c0,c1,c2,c3,c4,c5,c6,c7],_=>exact ⟨c0,c1,c2,c3,c4,c5,c6,c7,rfl⟩
    obtain ⟨x0,x1,x2,x3,x4,x5,rfl⟩:∃ x0 x1 x2 x3 x4 x5,xs=[x0,x1,x2,x3,x4,x5]:=by
      match xs,hxl with
      | [x0,x1,x2,x3,x4,x5],_=>exact ⟨x0,x1,x2,x3,x4,x5,rfl⟩
    have h0:=hfs 0 _ rfl
    have h1:=hfs 1 _ rfl
    have h2:=hfs 2 _ rfl
    have h3:=hfs 3 _ rfl
    have h4:=hfs 4 _ rfl
    have h5:=hfs 5 _ rfl
    have hw:∀ k,k∈DataW.weightsEach Tryz.prog [3,4,25,9,26,27] [x0.1,x1.1,x2.1,x3.1,x4.1,x5.1]→k≤reachBytes:=fun k hk=>hz k (by
      simp only [DataW.weights,Tryz.underlying29];exact hk)
    have hw2:∀ k∈x2.1.weights Tryz.prog 25,k≤reachBytes:=fun k hk=>hw k (by simp [DataW.weightsEach,hk])
    have hw4:∀ k∈x4.1.weights Tryz.prog 26,k≤reachBytes:=fun k hk=>hw k (by simp [DataW.weightsEach,hk])
    have hw5:∀ k∈x5.1.weights Tryz.prog 27,k≤reachBytes:=fun k hk=>hw k (by simp [DataW.weightsEach,hk])
    clear hz hw hfs hy
    replace h0:DataW.trod enc Tryz.prog W 0 (fun _=>true) true n 3 [c0]=some x0:=h0
    replace h1:DataW.trod enc Tryz.prog W 0 (fun _=>true) true n 4 [c1]=some x1:=h1
    replace h2:DataW.trod enc Tryz.prog W 0 (fun _=>true) true n 25 [c2,c3,c4]=some x2:=h2
    replace h3:DataW.trod enc Tryz.prog W 0 (fun _=>true) true n 9 [c5]=some x3:=h3
    replace h4:DataW.trod enc Tryz.prog W 0 (fun _=>true) true n 26 [c6]=some x4:=h4
    replace h5:DataW.trod enc Tryz.prog W 0 (fun _=>true) true n 27 [c7]=some x5:=h5
    obtain ⟨k,hk,_,hkw⟩:=DataW.trod_int Tryz.underlying3 h0
    obtain ⟨b,hb,_⟩:=DataW.trod_bool Tryz.underlying4 h1
    obtain ⟨s,hs,_,hsz⟩:=DataW.trod_string Tryz.underlying9 h3
    obtain ⟨ka,kn,kc,ks,hK,hk1,hk2,hk3,hk4,hk5⟩:=texts_in h4 hw4
    obtain ⟨zs,n2,rfl,rfl,_,hzl,hgs⟩:=DataW.trod_struct Tryz.underlying25 h2
    simp only [List.size_toArray,List.length_cons,List.length_nil] at hzl
    obtain ⟨z0,z1,z2,rfl⟩:∃ x0 x1 x2,zs=[x0,x1,x2]:=by
      match zs,hzl with
      | [x0,x1,x2],_=>exact ⟨x0,x1,x2,rfl⟩
    have g0:=hgs 0 _ rfl
    have g1:=hgs 1 _ rfl
    have g2:=hgs 2 _ rfl
    have hwn:∀ k∈z1.1.weights Tryz.prog 23,k≤reachBytes:=fun k hk=>hw2 k (by
      simp only [DataW.weights,Tryz.underlying25]
      show k∈DataW.weightsEach Tryz.prog [4,23,3] [z0.1,z1.1,z2.1]
      simp [DataW.weightsEach,hk])
    replace g0:DataW.trod enc Tryz.prog W 0 (fun _=>true) true n2 4 [c2]=some z0:=g0
    replace g1:DataW.trod enc Tryz.prog W 0 (fun _=>true) true n2 23 [c3]=some z1:=g1
    replace g2:DataW.trod enc Tryz.prog W 0 (fun _=>true) true n2 3 [c4]=some z2:=g2
    obtain ⟨neg,hneg,_⟩:=DataW.trod_bool Tryz.underlying4 g0
    obtain ⟨ma,mn,mc,ms,hM,hm1,hm2,hm3,hm4,hm5⟩:=limbs_in g1 hwn
    obtain ⟨e,he,_,hew⟩:=DataW.trod_int Tryz.underlying3 g2
    simp only [List.cons.injEq,and_true] at hk hb hs hneg he
    subst hk hb hs hneg he hK hM
    have hkb:=i64_bd hkw
    have heb:=i64_bd hew
    obtain ⟨va,vn,vc,vs,hV,hv1,hv2,hv3,hv4,hv5⟩:∃ va vn vc,∃ vs:List MT,c7=.slice va vn vc∧vs.length=vn∧vn≤vc∧vn≤1000000000000000∧RdV W va (flat (vs.map MT.c))∧∀ t∈vs,Rep W t:=by
      rcases DataW.trod_slice Tryz.underlying27 h5 with ⟨hcs,_⟩ | ⟨a,len,cap,elems,rest,n3,hn3,hcs,hy,_,hlc,_,hel,hat,_⟩
      · simp only [List.cons.injEq,and_true] at hcs
        exact ⟨none,0,0,[],hcs,rfl,Nat.le_refl _,Nat.zero_le _,RdV.nil _ _,nofun⟩
      · simp only [List.cons.injEq,and_true] at hcs
        rw [hy] at hw5
        have hwe:∀ d∈elems,∀ k∈d.1.weights Tryz.prog 29,k≤reachBytes:=fun d hd k hk=>hw5 k (by
          simp only [DataW.weights,Tryz.underlying27]
          rw [List.mem_cons,List.mem_append]
          exact .inr (.inl (weights_all_mem hk (List.mem_map_of_mem hd))))
        have hlen:=hw5 ((elems.length+rest.length)*Tryz.prog.bytesOf 29) (by simp [DataW.weights,Tryz.underlying27])
        rw [bytes_tree,reach_eq] at hlen
        have each:∀ i,i<len→∃ t:MT,W.cells? 0 (a.add (i*8)) 8=some t.c.cells∧Rep W t:=by
          intro i hi
          have h6:=hat i hi
          rw [cells_tree] at h6
          obtain ⟨y6,hy6⟩:∃ y6,elems[i]? = some y6:=⟨elems[i],by simp [hel,hi]⟩
          rw [hy6] at h6
          obtain ⟨cs6,h7,h8⟩:=Option.bind_eq_some_iff.1 h6
          obtain ⟨t,rfl,ht⟩:=ih n3 (by omega) cs6 y6 h8 (hwe y6 (List.mem_of_getElem? hy6))
          exact ⟨t,h7,ht⟩
        obtain ⟨l,hl1,hl2⟩:=list_of len each
        refine ⟨some a,len,cap,l,hcs,hl1,hlc,by omega,?_,?_⟩
        · intro q hq
          rw [flat_len,List.length_map,hl1] at hq
          have hi:q / 8<len:=by omega
          obtain ⟨h9,_⟩:=hl2 (q / 8) (by omega)
          obtain ⟨_,_,h10⟩:=World.cells?_some h9
          have h11:=h10 (q % 8) (Nat.mod_lt _ (by decide))
          obtain ⟨bk,off,spot⟩:=a
          have h12:(l[q / 8]'(by omega)).c.cells[q % 8]? = (flat (l.map MT.c))[q]?:=by
            have:=flat_get (l.map MT.c) (q / 8) (q % 8) (by simp;omega) (Nat.mod_lt _ (by decide))
            rw [show q / 8*8+q % 8=q by omega] at this
            rw [this];simp
          rw [h12] at h11
          have h13:∃ v,(flat (l.map MT.c))[q]? = some v:=⟨(flat (l.map MT.c))[q]'(by rw [flat_len,List.length_map,hl1];exact hq),by simp⟩
          obtain ⟨v13,h13⟩:=h13
          rw [h13] at h11 ⊢
          have hspot:spot=none:=by
            obtain ⟨_,_,k1⟩:=World.cells?_some (hl2 0 (by omega)).1
            have k2:=k1 0 (by decide)
            exact World.cell?_spot (a:=⟨bk,off,spot⟩) k2
          subst hspot
          have e1:(Addr.add (Addr.add ⟨bk,off,none⟩ (q / 8*8)) (q % 8))=⟨bk,off+q,none⟩:=by
            have a1:(Addr.add ⟨bk,off,none⟩ (q / 8*8))=⟨bk,off+q / 8*8,none⟩:=by unfold Addr.add;split <;> simp_all
            have a2:(Addr.add ⟨bk,off+q / 8*8,none⟩ (q % 8))=⟨bk,off+q / 8*8+q % 8,none⟩:=by unfold Addr.add;split <;> simp_all
            rw [a1,a2];congr 1;omega
          rw [e1] at h11
          refine ⟨bk,off,rfl,?_,h11⟩
          rcases Nat.lt_or_ge bk W.heap.size with h1 | h1
          · exact h1
          · simp [World.cell?,Array.getElem?_eq_none h1] at h11
        · intro t ht
          obtain ⟨i,hi,rfl⟩:=List.mem_iff_getElem.1 ht
          exact (hl2 i hi).2
    subst hV
    refine ⟨.mk ⟨k,b,neg,ma,mn,mc,e,s,ka,kn,kc,va,vn,vc⟩ ms ks vs,rfl,Rep.mk ⟨hm1,hm2,hm3,hm4,hk1,hk2,hk5,hv1,hv2,hv4,⟨hm5,hk3,hv3⟩,hsz,hk4,heb,hkb⟩ hv5⟩
/-- An argument that is a tree. -/
theorem tree_arg {base:Nat} {v:Value} {d:DataW H} {p:List MemPlace} (hok:Value.okWide Tryz.prog W .any base 29 v) (h:DataW.Trod enc Tryz.prog W 0 (fun _=>true) true 29 v d p)
    (hz:∀ n∈d.weights Tryz.prog 29,n≤reachBytes):∃ t:MT,v=t.c.val∧Rep W t:=by
  obtain ⟨cs,rfl,_⟩:=okWide_struct Tryz.underlying29 hok
  obtain ⟨fuel,hf⟩:=h
  obtain ⟨t,ht,hr⟩:=tree_in fuel _ _ hf hz
  refine ⟨t,?_,hr⟩
  have:cs.toList=t.c.cells:=ht
  rw [show cs=t.c.cells.toArray by rw [← this]]
  rfl
end
end Go.Proofs.YtnacbakcalcgaaaGreatDoor
namespace Go.Proofs.YtnacbakcalcgaaaGreatDoor.cborBack
open Go.ChangeShapes Go.WideShapes Go.ChangeAt Go.RowKit
set_option linter.unusedVariables false
set_option maxRecDepth 100000 in
theorem lifted (os:Os) (started:os.Started) (H:Type) (enc:TypeId × Value→H) :
    ReturnsInHanded {} Tryz.checked os 3 .any (fun w args=>(Rows.cborBackSpec.pre enc Tryz.prog Tryz.f3 Rows.cborBackRow.domain false w args∧laidMetH Tryz.prog Rows.cborBackRow.laid w)∧sizedMet enc Tryz.prog Tryz.f3 (OpenSpec.ofChange Rows.cborBackSpec) false w args)
      (Rows.cborBackSpec.post enc Tryz.prog Tryz.f3 false true false false):=by
  refine returnsInHanded_of_change_and (C:=Tryz.checked) (X:=fun w _=>laidMetH Tryz.prog Rows.cborBackRow.laid w) (fun _ _ _ hh h=>h.of_heap hh) own started (by kernel_rfl) Tryz.func3
    (ChangeSpec.witness_shaped (enc:=enc) (C:=Tryz.checked) (os:=os) (X:=fun w _=>laidMetH Tryz.prog Rows.cborBackRow.laid w) false (World.laidAll Tryz.prog os Rows.cborBackRow.laid) #[.slice none 0 0,.agg #[.int .i64 0,.bool false,.bool false,.slice none 0 0,.int .i64 0,.string ByteArray.empty,.slice none 0 0,.slice none 0 0]] 8 (World.laidAll_os _ _ _)
      (World.shaped_of_ZipB (by kernel_rfl) (by kernel_rfl)) (by kernel_rfl) (by kernel_rfl) (by kernel_rfl)
      (by rw [MakeChecks.laidMetH_plain _ _ _ (by kernel_rfl)];exact laidMet_laidAll _ (by kernel_rfl) (by kernel_rfl))) ?_
  intro W base args ds gs before hval0 hW hc hsz0 hL _
  have hval:∀ (j:Nat) t v,Tryz.f3.params[j]? = some t→args[j]? = some v→Value.okWide Tryz.prog W .any base t v:=hval0
  have hW':=hW
  obtain ⟨p,q,hA0,hV,rfl,_,_⟩:=hW
  have hA:DataW.TrodAll enc Tryz.prog W 0 (fun _=>true) true Tryz.f3.params.toList args.toList ds p:=hA0
  rw [Tryz.params3] at hA hval
  obtain ⟨v0,vs0,d0,ds0,p0,q0,hargsE,rfl,rfl,h0,r0⟩:=trodAll_cons hA
  obtain ⟨v1,vs1,d1,ds1,p1,q1,rfl,rfl,rfl,h1,r1⟩:=trodAll_cons r0
  obtain ⟨rfl,rfl,rfl⟩:=trodAll_nil r1
  obtain rfl:args=#[v0,v1]:=by cases args;simp_all
  obtain ⟨rfl,rfl⟩:=trodVars_none hV
  clear hA0 hval0
  have hL2:=hL
  rw [MakeChecks.laidMetH_plain _ _ _ (by kernel_rfl)] at hL2
  have htb:UT W:=ut_of_laid hL2 (by simp [Rows.cborBackRow]) (by simp [Rows.cborBackRow])
  have htb2:DB W:=db_of_laid hL2
  have hlt0:∀ x∈p0,x.block<W.heap.size:=fun x hx=>by have:=hW'.lt x (by simp [hx]);simpa using this
  have hk0:=h0
  obtain ⟨ad0,len0,cap0,xs0,rfl,hl0,hcp0,ho0,hr0,hz0⟩:=bytes_argC (hval 0 22 v0 rfl rfl) h0
  have hlt1:∀ x∈p1,x.block<W.heap.size:=fun x hx=>by have:=hW'.lt x (by simp [hx]);simpa using this
  have hk1:=h1
  have hw1:∀ n∈d1.weights Tryz.prog 29,n≤reachBytes:=fun n hn=>by
    have:=List.all_eq_true.1 hsz0 n (DataW.weights_mem_each (j:=1) (by rw [Tryz.params3];rfl) rfl n hn)
    simpa using this
  obtain ⟨t1,rfl,hr1⟩:=tree_arg (hval 1 29 v1 rfl rfl) h1 hw1
  refine (cborBack_walk ad0 len0 cap0 xs0 t1 W hl0 hcp0 ho0 hr0 hz0 hr1 htb htb2).mono fun e W' ⟨he,hb⟩=>?_
  subst he
  have e1:Rows.cborBackSpec.fn H ([d0,d1]++[]) = { results:=[.lit (.bool true)],args:=[d0,d1] }:=by simp [Rows.cborBackSpec]
  refine ⟨_,rfl,_,_,_,[],(p0++(p1++[])),[],hW',?_,?_,?_,hb.frame fun p=>p∈(p0++(p1++[]))++[]∧(p∈([]:List MemPlace)∨p∈(p0++(p1++[]))∨p∈([]:List MemPlace)),fun h=>by cases h⟩
  · rw [e1];exact trodAll_mk1 (shut_bool Tryz.underlying4 true)
  · rw [e1];exact (trodAll_cons_mk (hargs_keep (by kernel_rfl) (of_decide_eq_true (by kernel_rfl)) hk0 hb hlt0) (trodAll_cons_mk (hargs_keep (by kernel_rfl) (of_decide_eq_true (by kernel_rfl)) hk1 hb hlt1) trodAll_mk0))
  · rw [e1];rfl
theorem over:Rows.cborBackRow.holds Tryz.pinned (OpenSpec.ofChange Rows.cborBackSpec) :=
  OpenClaim.holds_of_wide 3 Tryz.f3 rfl rfl rfl rfl rfl rfl rfl ⟨rfl,rfl,rfl,rfl,rfl⟩ rfl rfl rfl rfl rfl (by kernel_rfl) Tryz.func3 (by kernel_rfl)
    (of_decide_eq_true (by kernel_rfl)) (by unfold Func.isWrapper;first | (rw [if_pos (by decide +kernel)];kernel_rfl) | (rw [if_neg (by decide +kernel)];exact ⟨rfl,rfl⟩))
    (fun os started H enc _=>lifted os started H enc)
theorem proved:Rows.CborBackCardSaid :=
  Claim7.holds_tied_plain_at .later [] [.data,.data,.pinned] true Rows.cborBackCard.stood.harness Rows.cborBackCard.stood.looks over (fun _ h=>by cases h) (by kernel_rfl) (fun _ h=>by cases h) cborBack_row_tie rfl ⟨rfl,rfl⟩ (by kernel_rfl) rfl
    (fun f fn hf hfn=>by
      obtain rfl:f=3:=Option.some.inj ((show Tryz.prog.funcNamed Rows.cborBackRow.func=some 3 by kernel_rfl).symm.trans hf) |>.symm
      obtain rfl:fn=Tryz.f3:=(Option.some.inj (Tryz.func3.symm.trans hfn)).symm
      exact ⟨by kernel_rfl,fun j t ht=>by
        rw [Tryz.params3] at ht
        have hm:t∈([22,29]:List TypeId):=by simpa using Array.mem_of_getElem? ht
        have hall:(([22,29]:List TypeId).all fun u=>!Tryz.prog.wantsStandIn u)=true:=by kernel_rfl
        exact (show Tryz.prog.wantsStandIn t=false by simpa using List.all_eq_true.1 hall t hm)⟩)
    (by kernel_rfl)
#print axioms proved
end Go.Proofs.YtnacbakcalcgaaaGreatDoor.cborBack
