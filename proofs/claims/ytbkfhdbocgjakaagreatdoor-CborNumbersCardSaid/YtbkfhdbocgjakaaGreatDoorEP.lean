/- erratumlaw10.CborNumbers: for every input it answers true, and what came in stays: the row, and its tied card. Conditions: what the row's own cells say (the tables of Go's library that it lists start as the program's text lays them). -/
import Derived.Test.YtbkfhdbocgjakaaGreatDoorEl
import Derived.Lib.Small
import Derived.OwnWalk
import Derived.Laws.AppendOwn
import Derived.Laws.MakeOwn
import Derived.Test.YtbkfhdbocgjakaaGreatDoorTie
import Derived.ProofKit
import Derived.SizedLaws
import Derived.OpenShut
import Derived.LaidMore
import Derived.Lay
import Derived.SevenTiedAt
import Derived.Stop.Joined
import Derived.Lib.LaidU8T
import Derived.Test.YtbkfhdbocgjakaaGreatDoorEI
import Derived.Lib.LaidTab
import Derived.Lib.SmallJoins
import Derived.Test.YtbkfhdbocgjakaaGreatDoorEO
import Derived.Test.YtbkfhdbocgjakaaGreatDoorCards
set_option linter.unusedVariables false
set_option linter.unusedSimpArgs false
set_option maxHeartbeats 200000
set_option maxRecDepth 100000
namespace Go.Proofs.YtbkfhdbocgjakaaGreatDoor
open Go.RowKit Go.Shelf
def rv (l:List Int):List Value:=l.map (Value.int .i32)
def RR (s:ByteArray) (B IT:Nat) (w:World) (k:Nat) (v:Value) (wr:World):Prop :=
  ∃ pos acc,s.size - pos≤k∧acc++runesL (tailL s pos)=runesL s.data.toList∧acc.length≤pos∧pos≤s.size∧wr.ownsRow B 21 1 v acc.length (rv acc)∧wr.heap[IT]? = some (.stringIter s pos)∧Below B w wr
theorem iter_grown {w w':World} {B:Nat} {e:TypeId} {v:Value} {n:Nat} {xs:List Value} {IT:Nat} {s:ByteArray} {p:Nat} (hi:w.heap[IT]? = some (.stringIter s p)) (h:w.ownsRow B e 1 v n xs) (hg:w.grownBy w' v.ownBlock):w'.heap[IT]? = some (.stringIter s p):=by
  rw [hg.block IT (Array.getElem?_eq_some_iff.1 hi).1];exact hi
  intro e
  rcases h.2 with ⟨rfl,_⟩ | ⟨g,cap,cur,rfl,hB,hg,rest⟩
  · simp [Value.ownBlock] at e
  · simp [Value.ownBlock] at e;subst e;rw [hg] at hi;cases hi
theorem iter_alloc {w:World} {IT:Nat} {s:ByteArray} {p:Nat} (hi:w.heap[IT]? = some (.stringIter s p)) (o:Obj):(w.alloc o).heap[IT]? = some (.stringIter s p):=by
  rw [Lib.alloc_old w o IT (Array.getElem?_eq_some_iff.1 hi).1];exact hi
theorem RR.step {s:ByteArray} {B IT:Nat} {w wr w':World} {k pos:Nat} {acc:List Int} {v v':Value} {o:Obj} (hp:pos<s.size) (hk:s.size - pos≤k+1) (ha:acc++runesL (tailL s pos)=runesL s.data.toList) (hl:acc.length≤pos)
    (ho:wr.ownsRow B 21 1 v acc.length (rv acc)) (hi:wr.heap[IT]? = some (.stringIter s (pos+(runeL (tailL s pos)).2))) (hb:Below B w wr) (hB:B≤wr.heap.size)
    (h1:w'.ownsRow B 21 1 v' (acc.length+1) (rv acc++[.int .i32 (runeL (tailL s pos)).1])) (h2:(wr.alloc o).grownBy w' v.ownBlock):RR s B IT w k v' w':=by
  have hw:=runeL_width (tailL s pos) (tailL_ne hp)
  rw [tailL_length] at hw
  refine ⟨pos+(runeL (tailL s pos)).2,acc++[(runeL (tailL s pos)).1],by omega,?_,by simp;omega,by omega,?_,?_,?_⟩
  · rw [← ha,runesL_cons (tailL_ne hp),tailL_drop];simp
  · simpa [rv] using h1
  · exact iter_grown (iter_alloc hi o) (ho.alloc o) h2
  · exact (hb.alloc hB o).grown h2 (by simp;omega) (fun g hg=>(ho.lt g hg).1)
def Rk (k:IntKind) (w:World) (ad:Option Addr) (xs:List Int):Prop :=
  ∀ i,i<xs.length→∃ b o,ad=some ⟨b,o,none⟩∧b<w.heap.size∧w.cell? ⟨b,o+i,none⟩=some (.int k (xs.getD i 0))
theorem Rk.at {k:IntKind} {w:World} {b o:Nat} {xs:List Int} (h:Rk k w (some ⟨b,o,none⟩) xs) (i:Nat) (hi:i<xs.length) :
    w.cell? ⟨b,o+i,none⟩=some (.int k (xs.getD i 0)):=by
  obtain ⟨b',o',e,_,hc⟩:=h i hi
  cases e;exact hc
theorem Rk.nil (k:IntKind) (w:World) (ad:Option Addr):Rk k w ad []:=by intro i h;simp at h
theorem Rk.below {k:IntKind} {w w':World} {ad:Option Addr} {xs:List Int} (h:Rk k w ad xs) (hb:Below w.heap.size w w'):Rk k w' ad xs:=by
  intro i hi
  obtain ⟨b,o,e,hlt,hc⟩:=h i hi
  exact ⟨b,o,e,Nat.lt_of_lt_of_le hlt hb.size,by rw [hb.cell (p:=⟨b,o+i,none⟩) hlt];exact hc⟩
end Go.Proofs.YtbkfhdbocgjakaaGreatDoor
namespace Go.Proofs.YtbkfhdbocgjakaaGreatDoor
open Go.ChangeShapes Go.WideShapes Go.ChangeAt Go.RowKit Go.Shelf
theorem own:ownKnob Tryz.prog.godebug=none:=by kernel_rfl
theorem i64_bd {n:Int} (h:(Lit.int .i64 n).wf=true):-9223372036854775808≤n∧n≤9223372036854775807:=by
  simpa [Lit.wf,IntKind.min,IntKind.max,IntKind.signed,IntKind.bits] using h
def ren8:Go.Shelf.Ren:=⟨fun n=>n,fun | 5=>5 | 119=>199 | 138=>201 | 139=>202 | n=>n,fun | 3=>1 | 4=>2 | n=>n⟩
theorem types8:U8Types Tryz.prog ren8:={ t5:=Tryz.underlying5,t119:=Tryz.underlying199,t138:=Tryz.underlying201,t139:=Tryz.underlying202 }
theorem extra8:U8Extra Tryz.prog ren8:={ n3:=by kernel_rfl,n4:=by kernel_rfl,y3:=by kernel_rfl,y4:=by kernel_rfl,c5:=by kernel_rfl,c119:=by kernel_rfl,c138:=by kernel_rfl }
theorem first_data:Rows.laid_unicode_utf8_first=Lib.firstData:=by kernel_rfl
theorem accept_data:(Rows.laid_unicode_utf8_acceptRanges:DataW Unit)=Lib.acceptData:=by kernel_rfl
theorem ut_of_laid {l:List (String × DataW Unit)} {W:World} (h:laidMet Tryz.prog l W) (h1:("unicode/utf8.first",Rows.laid_unicode_utf8_first)∈l) (h2:("unicode/utf8.acceptRanges",Rows.laid_unicode_utf8_acceptRanges)∈l):UT W:=by
  have r1:=Lib.laidMet.reads h h1
  have r2:=Lib.laidMet.reads h h2
  rw [first_data] at r1
  rw [accept_data] at r2
  exact utf8Tabs_of_readsT types8 extra8 r1 r2
end Go.Proofs.YtbkfhdbocgjakaaGreatDoor
namespace Go.Proofs.YtbkfhdbocgjakaaGreatDoor
open Go.ChangeShapes Go.WideShapes Go.ChangeAt Go.RowKit
def bruTab:List Int:=List.map (fun n:Nat=>(n:Int)) Lib.deBruijn32tab
theorem g_bru:Tryz.prog.globalNamed "math/bits.deBruijn32tab" = some 0:=by kernel_rfl
theorem g_bruT:(Tryz.prog.globals[0]?).map (·.type)=some 195:=by kernel_rfl
theorem bru_data:(Rows.laid_math_bits_deBruijn32tab:DataW Unit)=Lib.tabData .u8 bruTab:=by kernel_rfl
theorem db_of_laid {l:List (String × DataW Unit)} {W:World} (h:laidMet Tryz.prog (("math/bits.deBruijn32tab",Rows.laid_math_bits_deBruijn32tab)::l) W):DB W:=by
  rw [bru_data] at h
  have ht:=Lib.tabIs_of_head g_bru g_bruT Tryz.underlying195 Tryz.underlying5 (by kernel_rfl) (by kernel_rfl) h
  intro j hj
  unfold Lib.TabIs World.var? at ht
  rw [g_bru] at ht
  simp only [Option.bind_some] at ht
  split at ht
  · rename_i cs t0 f0 hb
    simp only [Option.some.injEq] at ht
    subst ht
    simp only [World.cell?,hb]
    have hl:Lib.deBruijn32tab.length=32:=by decide
    simp [bruTab,List.getD,show j<Lib.deBruijn32tab.length by omega]
  · cases ht
end Go.Proofs.YtbkfhdbocgjakaaGreatDoor
namespace Go.Proofs.YtbkfhdbocgjakaaGreatDoor.cborNumbers
open Go.ChangeShapes Go.WideShapes Go.ChangeAt Go.RowKit
set_option linter.unusedVariables false
set_option maxRecDepth 100000 in
theorem lifted (os:Os) (started:os.Started) (H:Type) (enc:TypeId × Value→H) :
    ReturnsInHanded {} Tryz.checked os 4 .any (fun w args=>(Rows.cborNumbersSpec.pre enc Tryz.prog Tryz.f4 Rows.cborNumbersRow.domain false w args∧laidMetH Tryz.prog Rows.cborNumbersRow.laid w)∧sizedMet enc Tryz.prog Tryz.f4 (OpenSpec.ofChange Rows.cborNumbersSpec) false w args)
      (Rows.cborNumbersSpec.post enc Tryz.prog Tryz.f4 false true false false):=by
  refine returnsInHanded_of_change_and (C:=Tryz.checked) (X:=fun w _=>laidMetH Tryz.prog Rows.cborNumbersRow.laid w) (fun _ _ _ hh h=>h.of_heap hh) own started (by kernel_rfl) Tryz.func4
    (ChangeSpec.witness_shaped (enc:=enc) (C:=Tryz.checked) (os:=os) (X:=fun w _=>laidMetH Tryz.prog Rows.cborNumbersRow.laid w) false (World.laidAll Tryz.prog os Rows.cborNumbersRow.laid) #[.int .i64 0,.bool false,.int .i64 0] 8 (World.laidAll_os _ _ _)
      (World.shaped_of_ZipB (by kernel_rfl) (by kernel_rfl)) (by kernel_rfl) (by kernel_rfl) (by kernel_rfl)
      (by rw [MakeChecks.laidMetH_plain _ _ _ (by kernel_rfl)];exact laidMet_laidAll _ (by kernel_rfl) (by kernel_rfl))) ?_
  intro W base args ds gs before hval0 hW hc hsz0 hL _
  have hval:∀ (j:Nat) t v,Tryz.f4.params[j]? = some t→args[j]? = some v→Value.okWide Tryz.prog W .any base t v:=hval0
  have hW':=hW
  obtain ⟨p,q,hA0,hV,rfl,_,_⟩:=hW
  have hA:DataW.TrodAll enc Tryz.prog W 0 (fun _=>true) true Tryz.f4.params.toList args.toList ds p:=hA0
  rw [Tryz.params4] at hA hval
  obtain ⟨v0,vs0,d0,ds0,p0,q0,hargsE,rfl,rfl,h0,r0⟩:=trodAll_cons hA
  obtain ⟨v1,vs1,d1,ds1,p1,q1,rfl,rfl,rfl,h1,r1⟩:=trodAll_cons r0
  obtain ⟨v2,vs2,d2,ds2,p2,q2,rfl,rfl,rfl,h2,r2⟩:=trodAll_cons r1
  obtain ⟨rfl,rfl,rfl⟩:=trodAll_nil r2
  obtain rfl:args=#[v0,v1,v2]:=by cases args;simp_all
  obtain ⟨rfl,rfl⟩:=trodVars_none hV
  clear hA0 hval0
  have hL2:=hL
  rw [MakeChecks.laidMetH_plain _ _ _ (by kernel_rfl)] at hL2
  have htb:UT W:=ut_of_laid hL2 (by simp [Rows.cborNumbersRow]) (by simp [Rows.cborNumbersRow])
  have htb2:DB W:=db_of_laid hL2
  obtain ⟨i0,rfl,rfl,rfl,w0⟩:=open_int Tryz.underlying3 (hval 0 3 v0 rfl rfl) h0
  obtain ⟨b1,rfl,rfl,rfl⟩:=open_bool Tryz.underlying4 (hval 1 4 v1 rfl rfl) h1
  obtain ⟨i2,rfl,rfl,rfl,w2⟩:=open_int Tryz.underlying3 (hval 2 3 v2 rfl rfl) h2
  refine (cborNumbers_walk i0 b1 i2 W (i64_bd w0) (i64_bd w2) htb htb2).mono fun e W' ⟨he,hb⟩=>?_
  subst he
  have e1:Rows.cborNumbersSpec.fn H ([.lit (.int .i64 i0),.lit (.bool b1),.lit (.int .i64 i2)]++[]) = { results:=[.lit (.bool true)],args:=[.lit (.int .i64 i0),.lit (.bool b1),.lit (.int .i64 i2)] }:=by simp [Rows.cborNumbersSpec]
  refine ⟨_,rfl,_,_,_,[],([]++([]++([]++[]))),[],hW',?_,?_,?_,hb.frame fun p=>p∈([]++([]++([]++[])))++[]∧(p∈([]:List MemPlace)∨p∈([]++([]++([]++[])))∨p∈([]:List MemPlace)),fun h=>by cases h⟩
  · rw [e1];exact trodAll_mk1 (shut_bool Tryz.underlying4 true)
  · rw [e1];exact (trodAll_cons_mk (shut_int Tryz.underlying3 w0) (trodAll_cons_mk (shut_bool Tryz.underlying4 b1) (trodAll_cons_mk (shut_int Tryz.underlying3 w2) trodAll_mk0)))
  · rw [e1];rfl
theorem over:Rows.cborNumbersRow.holds Tryz.pinned (OpenSpec.ofChange Rows.cborNumbersSpec) :=
  OpenClaim.holds_of_wide 4 Tryz.f4 rfl rfl rfl rfl rfl rfl rfl ⟨rfl,rfl,rfl,rfl,rfl⟩ rfl rfl rfl rfl rfl (by kernel_rfl) Tryz.func4 (by kernel_rfl)
    (of_decide_eq_true (by kernel_rfl)) (by unfold Func.isWrapper;first | (rw [if_pos (by decide +kernel)];kernel_rfl) | (rw [if_neg (by decide +kernel)];exact ⟨rfl,rfl⟩))
    (fun os started H enc _=>lifted os started H enc)
theorem proved:Rows.CborNumbersCardSaid :=
  Claim7.holds_tied_plain_at .later [] [.data,.data,.pinned] true Rows.cborNumbersCard.stood.harness Rows.cborNumbersCard.stood.looks over (fun _ h=>by cases h) (by kernel_rfl) (fun _ h=>by cases h) cborNumbers_row_tie rfl ⟨rfl,rfl⟩ (by kernel_rfl) rfl
    (fun f fn hf hfn=>by
      obtain rfl:f=4:=Option.some.inj ((show Tryz.prog.funcNamed Rows.cborNumbersRow.func=some 4 by kernel_rfl).symm.trans hf) |>.symm
      obtain rfl:fn=Tryz.f4:=(Option.some.inj (Tryz.func4.symm.trans hfn)).symm
      exact ⟨by kernel_rfl,fun j t ht=>by
        rw [Tryz.params4] at ht
        have hm:t∈([3,4,3]:List TypeId):=by simpa using Array.mem_of_getElem? ht
        have hall:(([3,4,3]:List TypeId).all fun u=>!Tryz.prog.wantsStandIn u)=true:=by kernel_rfl
        exact (show Tryz.prog.wantsStandIn t=false by simpa using List.all_eq_true.1 hall t hm)⟩)
    (by kernel_rfl)
#print axioms proved
end Go.Proofs.YtbkfhdbocgjakaaGreatDoor.cborNumbers
