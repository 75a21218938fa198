/- Texts of the claim. -/
import Derived.Test.YtnacbakcalcgaaaGreatDoorEx
import Derived.Test.YtnacbakcalcgaaaGreatDoorEy
import Derived.Test.YtnacbakcalcgaaaGreatDoorEq
import Derived.Test.YtnacbakcalcgaaaGreatDoorEu
import Derived.Test.YtnacbakcalcgaaaGreatDoorEw
import Derived.RegionTactic
import Derived.Deep.RegionHeld3
set_option linter.unusedVariables false
set_option linter.unusedSimpArgs false
set_option maxHeartbeats 2000000
set_option maxRecDepth 100000
namespace Go.Proofs.YtnacbakcalcgaaaGreatDoor
open Go.RowKit
def pickB (l:List ByteArray) (S:List Nat):List ByteArray:=S.map fun p=>l.getD p ByteArray.empty
def pickBK (l:List ByteArray) (S:List Nat) (k:Nat):List ByteArray:=pickB l (S.take k)++List.replicate (S.length - k) ByteArray.empty
theorem pickBK_len (l:List ByteArray) (S:List Nat) {k:Nat} (h:k≤S.length):(pickBK l S k).length=S.length:=by simp [pickBK,pickB];omega
theorem pickBK_zero (l:List ByteArray) (S:List Nat):pickBK l S 0=List.replicate S.length ByteArray.empty:=by simp [pickBK,pickB]
theorem pickBK_all (l:List ByteArray) (S:List Nat):pickBK l S S.length=pickB l S:=by simp [pickBK]
theorem pickBK_set (l:List ByteArray) (S:List Nat) {k:Nat} (h:k<S.length):(pickBK l S k).set k (l.getD (S.getD k 0) ByteArray.empty)=pickBK l S (k+1):=by
  unfold pickBK pickB
  rw [List.set_append_right _ _ (by simp;omega),List.length_map,List.length_take,Nat.min_eq_left (by omega),Nat.sub_self,List.take_succ_eq_append_getElem h,List.map_append,List.append_assoc]
  congr 1
  obtain ⟨m,hm⟩:∃ m,S.length - k=m+1:=⟨S.length - k - 1,by omega⟩
  rw [hm,List.replicate_succ,List.set_cons_zero,show S.length - (k+1)=m by omega]
  simp [List.getD,h]
theorem sv_set (l:List ByteArray) (i:Nat) (s:ByteArray):(sv l).set i (.string s)=sv (l.set i s):=by
  unfold sv;rw [List.map_set]
theorem sv_rep (n:Nat):sv (List.replicate n ByteArray.empty)=List.replicate n (.string ByteArray.empty):=by simp [sv]
theorem pickS_any (ad:Option Addr) (n cap:Nat) (l:List ByteArray) (ad':Option Addr) (n' cap':Nat) (S:List Nat) (w:World) (hl:l.length=n) (hcap:n≤cap) (hm:n≤1000000) (hr:RdV w ad (sv l))
    (hS:S.length=n') (hcap':n'≤cap') (hm':n'≤1000000) (hr':RdV w ad' (S.map iv)) (hb:∀ p∈S,p<n) :
    Calls Tryz.prog 185 #[.slice ad n cap,.slice ad' n' cap'] w (PickPost 9 (sv (pickB l S)) n' w):=by
  have HL:=Lib.hid hl;have HR:=Lib.hid hr;have HS:=Lib.hid hS;have HR':=Lib.hid hr';have HB:=Lib.hid hb
  clear hl hr hS hr' hb
  have hst:=made_blk w (.string ByteArray.empty) n' 9
  rw [← sv_rep,← HS.out,← pickBK_zero l S] at hst
  have HST:=Lib.hid hst;clear hst
  rw [HS.out] at HST
  have HBL:=Lib.hid ((Below.refl w.heap.size w).alloc (Nat.le_refl _) (.cells (madeCells #[Value.string ByteArray.empty] n') 9))
  have hmk:=fun W=>run_make_row' (P:=Tryz.prog) 26 9 (.string ByteArray.empty) 16 Tryz.underlying26 info_string rfl .i64 .i64 n' (by omega) (by omega) W
  go_enter Tryz.func185,Tryz.ntmps185
  go_wp2
  clear hmk
  go_loopw [13] (fun i wr=>∃ k:Nat,k≤n'∧i=.int .i64 (k:Int)∧BlkV wr w.heap.size 9 (sv (pickBK l S k))∧Below w.heap.size w wr) (fun i _=>n' - (intOf i).toNat)
  case atStart=>exact ⟨0,Nat.zero_le _,rfl,HST.out,HBL.out⟩
  case round =>
    obtain ⟨k,hk,rfl,hT,hbl⟩:=hrel
    have HT:=Lib.hid hT;have HBW:=Lib.hid hbl
    clear hT hbl
    by_cases hlt:k<n'
    · have h1:(k:Int)<(n':Int):=by omega
      have h2:(0:Int)≤(k:Int):=by omega
      obtain ⟨b',o',rfl,_,hc⟩:=(HR'.out.on HBW.out) k (by rw [List.length_map,HS.out];exact hlt)
      rw [iv_get _ _ (by rw [HS.out];exact hlt)] at hc
      have hp:=HB.out (S.getD k 0) (by simp [List.getD,HS.out,hlt])
      obtain ⟨b,o,rfl,_,hd⟩:=(HR.out.on HBW.out) (S.getD k 0) (by rw [sv_len,HL.out];exact hp)
      rw [sv_get _ _ (by rw [HL.out];exact hp)] at hd
      obtain ⟨z,hold⟩:∃ z,wr.cell? ⟨w.heap.size,k,none⟩=some z:=⟨_,(HT.out.cell k).trans (sv_get _ _ (by rw [pickBK_len _ _ (by rw [HS.out];exact hk),HS.out];exact hlt))⟩
      have hf:=HT.out.free k
      have hnew:=HT.out.set k (.string (l.getD (S.getD k 0) ByteArray.empty))
      rw [sv_set,pickBK_set _ _ (by rw [HS.out];exact hlt)] at hnew
      have HNEW:=Lib.hid hnew;clear hnew
      have HB3:=Lib.hid (HBW.out.setCell (p:=⟨w.heap.size,k,none⟩) (Nat.le_refl _) (.string (l.getD (S.getD k 0) ByteArray.empty)))
      generalize l.getD (S.getD k 0) ByteArray.empty=c at *
      generalize S.getD k 0=p at *
      have hp1:(p:Int)<(n:Int):=by omega
      have hp2:(0:Int)≤(p:Int):=by omega
      go_wp2_with fail
      go_roundw
      case rel=>exact ⟨k+1,by omega,by go_num,HNEW.out,HB3.out⟩
      case measure=>simp [intOf];omega
    · obtain rfl:k=n':=by omega
      have h1:¬ (k:Int)<(k:Int):=by omega
      have hT:=HT.out
      rw [← HS.out,pickBK_all] at hT
      have HT2:=Lib.hid hT;clear hT
      go_wp2
      go_ret
      exact ⟨_,rfl,Nat.le_refl _,HT2.out,HBW.out⟩
def objC (g1 g2 n:Nat):Cel:=⟨7,false,false,none,0,0,0,ByteArray.empty,some ⟨g1,0,none⟩,n,n,some ⟨g2,0,none⟩,n,n⟩
def ObjYes (l:List ByteArray) (cs:List Cel) (m:Nat) (w:World) (r:Ending) (w':World):Prop :=
  ∃ g1 g2,r=.returned (.tuple #[(objC g1 g2 m).val,.int .i64 0,.bool true])∧w.heap.size≤g1∧w.heap.size≤g2∧BlkV w' g1 9 (sv (pickB l (srt Op.bytesLess (keyB l) 0 m)))∧BlkV w' g2 29 (flat (pickC cs (srt Op.bytesLess (keyB l) 0 m)))∧Below w.heap.size w w'
def ObjNo (lo:Nat) (w:World) (r:Ending) (w':World):Prop :=
  r=.returned (.tuple #[zeroC.val,.int .i64 (lo:Int),.bool false])∧Below w.heap.size w w'
def ObjPost (l:List ByteArray) (cs:List Cel) (m:Nat) (w:World) (r:Ending) (w':World):Prop :=
  ∃ lo f,Twc (keyB l) m lo f∧(f=false→ObjYes l cs m w r w')∧(f=true→ObjNo lo w r w')
theorem object_core (ad:Option Addr) (n cap m:Nat) (l:List ByteArray) (ad':Option Addr) (n' cap':Nat) (cs:List Cel) (w:World) (hcap:n≤cap) (hm:n≤1000000) (hl:l.length=m) (hr:RdV w ad (sv l))
    (hS:cs.length=n') (hcap':n'≤cap') (hm':n'≤1000000) (hr':RdV w ad' (flat cs)) (hmin:n≤n'∧m=n∨n'<n∧m=n') :
    Calls Tryz.prog 151 #[.slice ad n cap,.slice ad' n' cap'] w (ObjPost l cs m w):=by
  have hmn:m≤n:=by omega
  have hmn':m≤n':=by omega
  have KS:=Lib.hid (fun W (h:Below w.heap.size w W)=>sort_any ad m cap l W hl (by omega) (by omega) (hr.on h))
  have KA:=Lib.hid (fun W (h:Below w.heap.size w W) g (hk:BlkV W g 3 ((srt Op.bytesLess (keyB l) 0 m).map iv)) =>
    again_any ad m cap l (some ⟨g,0,none⟩) m m (srt Op.bytesLess (keyB l) 0 m) W hl (srt_len _ _ _ _) (by omega) (by omega) (hr.on h) hk.all (fun i hi=>srt_lt _ _ _ i hi) (by omega) (Nat.le_refl _))
  have hbS:∀ p∈srt Op.bytesLess (keyB l) 0 m,p<m:=fun p hp=>by have:=srt_mem.1 hp;omega
  have KP:=Lib.hid (fun W (h:Below w.heap.size w W) g (hk:BlkV W g 3 ((srt Op.bytesLess (keyB l) 0 m).map iv)) =>
    pickS_any ad m cap l (some ⟨g,0,none⟩) m m (srt Op.bytesLess (keyB l) 0 m) W hl (by omega) (by omega) (hr.on h) (srt_len _ _ _ _) (Nat.le_refl _) (by omega) hk.all hbS)
  have KT:=Lib.hid (fun W (h:Below w.heap.size w W) g (hk:BlkV W g 3 ((srt Op.bytesLess (keyB l) 0 m).map iv)) =>
    pickT_any ad' n' cap' cs (some ⟨g,0,none⟩) m m (srt Op.bytesLess (keyB l) 0 m) W hS hcap' hm' (hr'.on h) (srt_len _ _ _ _) (Nat.le_refl _) (by omega) hk.all (fun p hp=>by have:=hbS p hp;omega))
  clear hr hr' hS hl hbS
  have B1:=Lib.hid ((Below.refl w.heap.size w).alloc (Nat.le_refl _) (.cells #[.int .i64 0,.bool false,.bool false,.slice none 0 0,.int .i64 0,.string ByteArray.empty,.slice none 0 0,.slice none 0 0] 29))
  rcases hmin with ⟨hle,rfl⟩ | ⟨hle,rfl⟩
  · have hi:(m:Int)≤(n':Int):=by omega
    have mn1:=Int.min_def (m:Int) (n':Int)
    go_enter Tryz.func151,Tryz.ntmps151
    go_wp2_with fail
    have HZ0:=B1.out.size
    have c0:=lit_blk w [.int .i64 0,.bool false,.bool false,.slice none 0 0,.int .i64 0,.string ByteArray.empty,.slice none 0 0,.slice none 0 0] 29 #[.int .i64 0,.bool false,.bool false,.slice none 0 0,.int .i64 0,.string ByteArray.empty,.slice none 0 0,.slice none 0 0] rfl
    have HC0:=Lib.hid c0;clear c0
    refine (KS.out _ B1.out).mono ?_
    rintro r w1 ⟨g,rfl,hg,hk,hw⟩
    have B2:=Lib.hid (below_on B1.out hw)
    have HK:=Lib.hid hk
    have HC1:=Lib.hid (HC0.out.below hw (by simp))
    clear hg hk hw HC0
    go_wp2_with fail
    refine (KA.out _ B2.out g HK.out).mono ?_
    rintro r w2 ⟨lo,f,q,rfl,hL,rfl⟩
    have HT:=Lib.hid (hL.twc sto_bytes)
    have B3:=Lib.hid (below_drewN B2.out q)
    have HC2:=Lib.hid (HC1.out.drewN q)
    have HK2:=Lib.hid (HK.out.drewN q)
    clear hL HK HC1
    generalize World.drewN _ q=w2 at B3 HC2 HK2 ⊢
    cases f
    · go_wp2_with fail
      refine (KP.out _ B3.out g HK2.out).mono ?_
      rintro r w3 ⟨g1,rfl,hg1,hk1,hb1⟩
      have B4:=Lib.hid (below_on B3.out hb1)
      have HG1:=Lib.hid (show w.heap.size<g1 by have:=HC2.out.lt;omega)
      have HC3:=Lib.hid (HC2.out.below hb1 HC2.out.lt)
      have HK3:=Lib.hid (HK2.out.below hb1 HK2.out.lt)
      have HP:=Lib.hid hk1
      clear hg1 hk1 hb1
      go_wp2_with fail
      refine (KT.out _ B4.out g HK3.out).mono ?_
      rintro r w4 ⟨g2,rfl,hg2,hk2,hb2⟩
      have B5:=Lib.hid (below_on B4.out hb2)
      have HG2:=Lib.hid (show w.heap.size<g2 by have:=HC3.out.lt;omega)
      have HC4:=Lib.hid (HC3.out.below hb2 HC3.out.lt)
      have HP2:=Lib.hid (HP.out.below hb2 HP.out.lt)
      have HQ:=Lib.hid hk2
      clear hg2 hk2 hb2
      have y0:=HC4.out.cell 0;have y1:=HC4.out.cell 1;have y2:=HC4.out.cell 2;have y3:=HC4.out.cell 3
      have y4:=HC4.out.cell 4;have y5:=HC4.out.cell 5;have y6:=HC4.out.cell 6;have y7:=HC4.out.cell 7
      have f0:=HC4.out.free 0;have f1:=HC4.out.free 1;have f2:=HC4.out.free 2;have f3:=HC4.out.free 3
      have f4:=HC4.out.free 4;have f5:=HC4.out.free 5;have f6:=HC4.out.free 6;have f7:=HC4.out.free 7
      simp only [List.getElem?_cons_zero,List.getElem?_cons_succ] at y0 y1 y2 y3 y4 y5 y6 y7
      go_wp2_with fail
      refine bodyPost_ret (v:=.tuple #[(objC g1 g2 m).val,.int .i64 0,.bool true]) (by simp [results,Tryz.results151,go_sem,y0,y1,y2,y3,y4,y5,y6,y7,objC,Cel.val];rfl) rfl ?_
      have hbut:=put8_but w4 w.heap.size 0 (objC g1 g2 m)
      exact ⟨lo,false,HT.out,fun _=>⟨g1,g2,rfl,Nat.le_of_lt HG1.out,Nat.le_of_lt HG2.out,hbut.blk HP2.out (by have:=HG1.out;omega),hbut.blk HQ.out (by have:=HG2.out;omega),B5.out.trans (hbut.below (Nat.le_refl _) B5.out.size)⟩,fun h=>by cases h⟩
    · have HC4:=HC2
      have y0:=HC4.out.cell 0;have y1:=HC4.out.cell 1;have y2:=HC4.out.cell 2;have y3:=HC4.out.cell 3
      have y4:=HC4.out.cell 4;have y5:=HC4.out.cell 5;have y6:=HC4.out.cell 6;have y7:=HC4.out.cell 7
      have f0:=HC4.out.free 0;have f1:=HC4.out.free 1;have f2:=HC4.out.free 2;have f3:=HC4.out.free 3
      have f4:=HC4.out.free 4;have f5:=HC4.out.free 5;have f6:=HC4.out.free 6;have f7:=HC4.out.free 7
      simp only [List.getElem?_cons_zero,List.getElem?_cons_succ] at y0 y1 y2 y3 y4 y5 y6 y7
      go_wp2_with fail
      refine bodyPost_ret (v:=.tuple #[zeroC.val,.int .i64 (lo:Int),.bool false]) (by simp [results,Tryz.results151,go_sem,y0,y1,y2,y3,y4,y5,y6,y7,zeroC,Cel.val];rfl) rfl ?_
      have hbut:=put8_but w2 w.heap.size 0 zeroC
      exact ⟨lo,true,HT.out,(fun h=>by cases h),fun _=>⟨rfl,B3.out.trans (hbut.below (Nat.le_refl _) B3.out.size)⟩⟩
  · have hi:¬ (n:Int)≤(m:Int):=by omega
    have mn1:=Int.min_def (n:Int) (m:Int)
    have hi2:(m:Int)≤(n:Int):=by omega
    have hi3:(m:Int)≤(cap:Int):=by omega
    have hi4:(0:Int)≤(m:Int):=by omega
    go_enter Tryz.func151,Tryz.ntmps151
    go_wp2_with fail
    have HZ0:=B1.out.size
    have c0:=lit_blk w [.int .i64 0,.bool false,.bool false,.slice none 0 0,.int .i64 0,.string ByteArray.empty,.slice none 0 0,.slice none 0 0] 29 #[.int .i64 0,.bool false,.bool false,.slice none 0 0,.int .i64 0,.string ByteArray.empty,.slice none 0 0,.slice none 0 0] rfl
    have HC0:=Lib.hid c0;clear c0
    refine (KS.out _ B1.out).mono ?_
    rintro r w1 ⟨g,rfl,hg,hk,hw⟩
    have B2:=Lib.hid (below_on B1.out hw)
    have HK:=Lib.hid hk
    have HC1:=Lib.hid (HC0.out.below hw (by simp))
    clear hg hk hw HC0
    go_wp2_with fail
    refine (KA.out _ B2.out g HK.out).mono ?_
    rintro r w2 ⟨lo,f,q,rfl,hL,rfl⟩
    have HT:=Lib.hid (hL.twc sto_bytes)
    have B3:=Lib.hid (below_drewN B2.out q)
    have HC2:=Lib.hid (HC1.out.drewN q)
    have HK2:=Lib.hid (HK.out.drewN q)
    clear hL HK HC1
    generalize World.drewN _ q=w2 at B3 HC2 HK2 ⊢
    cases f
    · go_wp2_with fail
      refine (KP.out _ B3.out g HK2.out).mono ?_
      rintro r w3 ⟨g1,rfl,hg1,hk1,hb1⟩
      have B4:=Lib.hid (below_on B3.out hb1)
      have HG1:=Lib.hid (show w.heap.size<g1 by have:=HC2.out.lt;omega)
      have HC3:=Lib.hid (HC2.out.below hb1 HC2.out.lt)
      have HK3:=Lib.hid (HK2.out.below hb1 HK2.out.lt)
      have HP:=Lib.hid hk1
      clear hg1 hk1 hb1
      go_wp2_with fail
      refine (KT.out _ B4.out g HK3.out).mono ?_
      rintro r w4 ⟨g2,rfl,hg2,hk2,hb2⟩
      have B5:=Lib.hid (below_on B4.out hb2)
      have HG2:=Lib.hid (show w.heap.size<g2 by have:=HC3.out.lt;omega)
      have HC4:=Lib.hid (HC3.out.below hb2 HC3.out.lt)
      have HP2:=Lib.hid (HP.out.below hb2 HP.out.lt)
      have HQ:=Lib.hid hk2
      clear hg2 hk2 hb2
      have y0:=HC4.out.cell 0;have y1:=HC4.out.cell 1;have y2:=HC4.out.cell 2;have y3:=HC4.out.cell 3
      have y4:=HC4.out.cell 4;have y5:=HC4.out.cell 5;have y6:=HC4.out.cell 6;have y7:=HC4.out.cell 7
      have f0:=HC4.out.free 0;have f1:=HC4.out.free 1;have f2:=HC4.out.free 2;have f3:=HC4.out.free 3
      have f4:=HC4.out.free 4;have f5:=HC4.out.free 5;have f6:=HC4.out.free 6;have f7:=HC4.out.free 7
      simp only [List.getElem?_cons_zero,List.getElem?_cons_succ] at y0 y1 y2 y3 y4 y5 y6 y7
      go_wp2_with fail
      refine bodyPost_ret (v:=.tuple #[(objC g1 g2 m).val,.int .i64 0,.bool true]) (by simp [results,Tryz.results151,go_sem,y0,y1,y2,y3,y4,y5,y6,y7,objC,Cel.val];rfl) rfl ?_
      have hbut:=put8_but w4 w.heap.size 0 (objC g1 g2 m)
      exact ⟨lo,false,HT.out,fun _=>⟨g1,g2,rfl,Nat.le_of_lt HG1.out,Nat.le_of_lt HG2.out,hbut.blk HP2.out (by have:=HG1.out;omega),hbut.blk HQ.out (by have:=HG2.out;omega),B5.out.trans (hbut.below (Nat.le_refl _) B5.out.size)⟩,fun h=>by cases h⟩
    · have HC4:=HC2
      have y0:=HC4.out.cell 0;have y1:=HC4.out.cell 1;have y2:=HC4.out.cell 2;have y3:=HC4.out.cell 3
      have y4:=HC4.out.cell 4;have y5:=HC4.out.cell 5;have y6:=HC4.out.cell 6;have y7:=HC4.out.cell 7
      have f0:=HC4.out.free 0;have f1:=HC4.out.free 1;have f2:=HC4.out.free 2;have f3:=HC4.out.free 3
      have f4:=HC4.out.free 4;have f5:=HC4.out.free 5;have f6:=HC4.out.free 6;have f7:=HC4.out.free 7
      simp only [List.getElem?_cons_zero,List.getElem?_cons_succ] at y0 y1 y2 y3 y4 y5 y6 y7
      go_wp2_with fail
      refine bodyPost_ret (v:=.tuple #[zeroC.val,.int .i64 (lo:Int),.bool false]) (by simp [results,Tryz.results151,go_sem,y0,y1,y2,y3,y4,y5,y6,y7,zeroC,Cel.val];rfl) rfl ?_
      have hbut:=put8_but w2 w.heap.size 0 zeroC
      exact ⟨lo,true,HT.out,(fun h=>by cases h),fun _=>⟨rfl,B3.out.trans (hbut.below (Nat.le_refl _) B3.out.size)⟩⟩
end Go.Proofs.YtnacbakcalcgaaaGreatDoor
namespace Go.Proofs.YtnacbakcalcgaaaGreatDoor
open Go.RowKit Go.Lib Go.Sort
abbrev RC (α:Type):=(α × List Nat × Nat) ⊕ Int
abbrev HdC:=Nat × Nat × Nat
def cbHead (l:List Nat):(HdC × List Nat) ⊕ Int :=
  if (getN l 0).2.2.2.2=0 then .inl (((getN l 0).1,(getN l 0).2.1,(getN l 0).2.2.1),l.drop (getN l 0).2.2.2.1) else .inr 2
def cbEnds:List Nat→(Bool × List Nat) ⊕ Int
  | []=>.inr 2
  | c::r=>if c=255 then .inl (true,r) else .inl (false,c::r)
def validB (l:List Nat):Bool:=validL (l.map fun x=>UInt8.ofNat x)
def cbPiece (m k:Nat) (l:List Nat):(List Nat × List Nat) ⊕ Int :=
  if l.length<k then .inr 2 else if m=3∧validB (l.take k)=false then .inr 2 else .inl (l.take k,l.drop k)
def cbParts (m:Nat):Nat→List Nat→List Nat→(List Nat × List Nat) ⊕ Int
  | 0,_,_=>.inr 2
  | f+1,a,l=>match cbEnds l with
    | .inr x=>.inr x
    | .inl (true,r)=>.inl (a,r)
    | .inl (false,r)=>match cbHead r with
      | .inr x=>.inr x
      | .inl (h,r)=>if h.1 ≠ m∨h.2.1=31 then .inr 2 else match cbPiece h.1 h.2.2 r with
        | .inr x=>.inr x
        | .inl (p,r)=>if 2000<(a++p).length then .inr 4 else cbParts m f (a++p) r
def cbText (h:HdC) (l:List Nat):(List Nat × List Nat) ⊕ Int :=
  if h.2.1=31 then cbParts h.1 (l.length+1) [] l else if 2000<h.2.2 then .inr 4 else cbPiece h.1 h.2.2 l
def cbPart (a b:Nat):List Nat→(HdC × List Nat) ⊕ Int
  | []=>.inr 2
  | c::r=>if (c / 32 ≠ a∧c / 32 ≠ b)∨c % 32=31 then .inr 3 else cbHead (c::r)
abbrev IntC:=Bool × Nat
def cbLong (tag:Nat) (l:List Nat):(IntC × List Nat) ⊕ Int:=match cbPart 2 2 l with
  | .inr x=>.inr x
  | .inl (h,r)=>match cbText h r with
    | .inr x=>.inr x
    | .inl (s,r)=>.inl ((decide (tag=3),natB s),r)
def cbWhole (h:HdC):IntC:=(decide (h.1=1),h.2.2)
def cbTens (h:HdC):Int:=if h.1=1 then -1 - ((min h.2.2 100001:Nat):Int) else ((min h.2.2 100001:Nat):Int)
def cbDigits (l : List Nat) : (IntC × List Nat) ⊕ Int := match l with
  | [] => .inr 2
  | c :: r => if c = 194 ∨ c = 195 then match cbHead (c :: r) with
      | .inr x => .inr x
      | .inl (h, r) => cbLong h.2.2 r
    else match cbPart 0 1 (c :: r) with
      | .inr x => .inr x
      | .inl (h, r) => .inl (cbWhole h, r)
def mkN (neg:Bool) (N:Nat) (e:Int):Option (Bool × Nat × Int) :=
  if N=0 then some (false,0,0)
  else if (limbs (trimM N)).length≤90∧-1200≤e+(trimK N:Int)∧e+(trimK N:Int)≤1200 then some (neg,trimM N,e+(trimK N:Int)) else none
def cbSize (i:IntC):Nat:=if i.1 then i.2+1 else i.2
def bnumC (r:Bool × Nat × Int):MT:=numT r.1 none (limbs r.2.1).length 0 r.2.2 (limbs r.2.1)
def cbNum (i:IntC) (e:Int):MT ⊕ Int:=match mkN i.1 (cbSize i) e with
  | none=>.inr 4
  | some r=>.inl (bnumC r)
def cbDec (l:List Nat):(MT × List Nat) ⊕ Int:=match cbPart 4 4 l with
  | .inr x=>.inr x
  | .inl (h,r)=>if h.2.2 ≠ 2 then .inr 3 else match cbPart 0 1 r with
    | .inr x=>.inr x
    | .inl (t,r)=>match cbDigits r with
      | .inr x=>.inr x
      | .inl (i,r)=>match cbNum i (cbTens t) with
        | .inr x=>.inr x
        | .inl t=>.inl (t,r)
def cbTag (tag:Nat) (l:List Nat):(MT × List Nat) ⊕ Int :=
  if tag=2∨tag=3 then match cbLong tag l with
    | .inr x=>.inr x
    | .inl (i,r)=>match cbNum i 0 with
      | .inr x=>.inr x
      | .inl t=>.inl (t,r)
  else if tag=4 then cbDec l else .inr 3
def exactN (width:Int) (x:Nat):Option (Bool × Nat × Int) :=
  if kindW width x=1∨kindW width x=2 then some (exNegW width x,exMW width x,exEW width x) else none
def cbSimple (h:HdC):MT ⊕ Int :=
  if h.2.1=20 then .inl (leafT 2 false ⟨#[]⟩) else if h.2.1=21 then .inl (leafT 2 true ⟨#[]⟩) else if h.2.1=22 then .inl (leafT 1 false ⟨#[]⟩)
  else if h.2.1=24∧h.2.2≤31 then .inr 2 else if h.2.1<25 then .inr 3
  else match exactN ((16*2 ^ (h.2.1 - 25):Nat):Int) h.2.2 with
    | none=>.inr 3
    | some r=>.inl (bnumC r)
def cbMore (op:Bool) (k taken:Nat) (l:List Nat):(Bool × List Nat) ⊕ Int :=
  if op then match cbEnds l with
    | .inr x=>.inr x
    | .inl (true,r)=>.inl (false,r)
    | .inl (false,r)=>if taken=300 then .inr 4 else .inl (true,r)
  else .inl (decide (taken<k),l)
def cbItems (V:List Nat→Nat→RC MT) (op:Bool) (k:Nat):Nat→List MT→List Nat→Nat→RC (List MT)
  | 0,_,_,_=>.inr 2
  | f+1,us,l,n=>match cbMore op k us.length l with
    | .inr x=>.inr x
    | .inl (false,r)=>.inl (us,r,n)
    | .inl (true,r)=>match V r n with
      | .inr x=>.inr x
      | .inl (t,r,n)=>cbItems V op k f (us++[t]) r n
def barrC (us:List MT):MT:=arrT none us.length 0 us
def bobjC (ks:List ByteArray) (us:List MT):MT:=objT none ks.length 0 none us.length 0 ks us
def cbArr (V:List Nat→Nat→RC MT) (h:HdC) (l:List Nat) (n:Nat):RC MT :=
  if 300<h.2.2 then .inr 4 else match cbItems V (decide (h.2.1=31)) h.2.2 302 [] l n with
    | .inr x=>.inr x
    | .inl (us,r,n)=>.inl (barrC us,r,n)
def cbName:List Nat→(List Nat × List Nat) ⊕ Int
  | []=>.inr 2
  | c::r=>if c / 32 ≠ 3 then .inr 3 else match cbHead (c::r) with
    | .inr x=>.inr x
    | .inl (h,r)=>cbText h r
def cbMembers (V:List Nat→Nat→RC MT) (op:Bool) (k:Nat):Nat→List ByteArray→List MT→List Nat→Nat→RC (List ByteArray × List MT)
  | 0,_,_,_,_=>.inr 2
  | f+1,ks,us,l,n=>match cbMore op k us.length l with
    | .inr x=>.inr x
    | .inl (false,r)=>.inl ((ks,us),r,n)
    | .inl (true,r)=>match cbName r with
      | .inr x=>.inr x
      | .inl (s,r)=>match V r n with
        | .inr x=>.inr x
        | .inl (t,r,n)=>cbMembers V op k f (ks++[strB s]) (us++[t]) r n
def sortC (ks:List ByteArray):List Nat:=srt Op.bytesLess (fun i=>(ks.getD i ByteArray.empty).toList) 0 ks.length
def cbObj (V:List Nat→Nat→RC MT) (h:HdC) (l:List Nat) (n:Nat):RC MT :=
  if 300<h.2.2 then .inr 4 else match cbMembers V (decide (h.2.1=31)) h.2.2 302 [] [] l n with
    | .inr x=>.inr x
    | .inl ((ks,us),r,n)=>if ks.Nodup then .inl (bobjC ((sortC ks).map fun i=>ks.getD i ByteArray.empty) ((sortC ks).map fun i=>us.getD i (leafT 0 false ⟨#[]⟩)),r,n) else .inr 2
def withN (n:Nat) (r:(MT × List Nat) ⊕ Int):RC MT:=match r with
  | .inr x=>.inr x
  | .inl (t,l)=>.inl (t,l,n)
def cbBehind (V:List Nat→Nat→RC MT) (h:HdC) (l:List Nat) (n:Nat):RC MT :=
  if h.1=2 then match cbText h l with
    | .inr x=>.inr x
    | .inl (s,r)=>.inl (leafT 5 false (strB s),r,n)
  else if h.1=3 then match cbText h l with
    | .inr x=>.inr x
    | .inl (s,r)=>.inl (leafT 4 false (strB s),r,n)
  else if h.1=4 then cbArr V h l n
  else if h.1=5 then cbObj V h l n
  else if h.1=7 then match cbSimple h with
    | .inr x=>.inr x
    | .inl t=>.inl (t,l,n)
  else if h.2.1=31 then .inr 2
  else if h.1=6 then withN n (cbTag h.2.2 l)
  else match cbNum (cbWhole h) 0 with
    | .inr x=>.inr x
    | .inl t=>.inl (t,l,n)
def cbValue:Nat→List Nat→Nat→RC MT
  | 0,_,_=>.inr 2
  | f+1,l,n=>match l with
    | []=>.inr 2
    | c::r=>if c=255 then .inr 2 else if n=2000∨f=0 then .inr 4 else match cbHead (c::r) with
      | .inr x=>.inr x
      | .inl (h,r)=>cbBehind (cbValue f) h r (n+1)
def cbDecode (l:List Nat):MT ⊕ Int :=
  if 32768<l.length then .inr 4 else match cbValue 65 l 0 with
    | .inr x=>.inr x
    | .inl (t,r,_)=>if r=[] then .inl t else .inr 2
structure HdOk (l:List Nat) (h:HdC) (r:List Nat):Prop where
  m:h.1<8
  i:h.2.1<32
  n:h.2.2<18446744073709551616
  o:h.2.1=31→h.2.2=0
  lt:r.length<l.length
  b:Okb l→Okb r
theorem natB_lt:∀ (l:List Nat) (a:Nat),Okb l→l.foldl (fun a x=>a*256+x) a<(a+1)*256 ^ l.length
  | [],a,_=>by simp
  | x::l,a,h=>by
    have h1:=natB_lt l (a*256+x) (fun y hy=>h y (List.mem_cons_of_mem _ hy))
    have h2:x<256:=h x (List.mem_cons_self ..)
    rw [List.foldl_cons,List.length_cons,Nat.pow_succ]
    refine Nat.lt_of_lt_of_le h1 ?_
    have:a*256+x+1≤(a+1)*256:=by omega
    refine Nat.le_trans (Nat.mul_le_mul_right _ this) (Nat.le_of_eq ?_)
    rw [Nat.mul_assoc,Nat.mul_comm 256]
theorem natB_bd (l:List Nat) (h:Okb l):natB l<256 ^ l.length:=by
  have:=natB_lt l 0 h
  simpa [natB] using this
theorem okb_take {l:List Nat} (h:Okb l) (k:Nat):Okb (l.take k):=fun x hx=>h x (List.mem_of_mem_take hx)
theorem okb_drop {l:List Nat} (h:Okb l) (k:Nat):Okb (l.drop k):=fun x hx=>h x (List.mem_of_mem_drop hx)
theorem cbHead_ok {l:List Nat} {h:HdC} {r:List Nat} (hb:Okb l) (e:cbHead l=.inl (h,r)):HdOk l h r:=by
  unfold cbHead at e
  split at e
  · rename_i h0
    simp only [Sum.inl.injEq,Prod.mk.injEq] at e
    obtain ⟨rfl,rfl⟩:=e
    cases l with
    | nil=>simp [getN] at h0
    | cons c l =>
      have hc:c<256:=hb c (List.mem_cons_self ..)
      have hg:=getN_in (c::l) 0 c (by simp) rfl
      rw [Int.natCast_zero] at hg
      cases hs:sizeH (c % 32) with
      | none=>rw [hs] at hg;simp only at hg;rw [hg] at h0;simp at h0
      | some s =>
        rw [hs] at hg
        simp only at hg
        split at hg
        · rw [hg] at h0;simp at h0
        · rename_i hlen
          rw [hg]
          have hs8:=sizeH_le hs
          simp only [List.length_cons] at hlen
          refine ⟨by simp only;omega,by simp only;omega,?_,?_,by simp;omega,fun h=>okb_drop h _⟩
          · simp only
            split
            · omega
            · have h1:=natB_bd ((List.drop (0+1) (c::l)).take s) (okb_take (okb_drop hb _) _)
              refine Nat.lt_of_lt_of_le h1 ?_
              refine Nat.le_trans (Nat.pow_le_pow_right (by decide) (show _≤8 from ?_)) (by decide)
              rw [List.length_take];omega
          · simp only
            intro h31
            rw [if_neg (by omega)]
            have:s=0:=by
              unfold sizeH at hs
              rw [if_pos (.inr h31)] at hs
              cases hs;rfl
            subst this
            rfl
  · cases e
def Shp (ad:Option Addr) (cap:Nat):Prop:=(ad=none∧cap=0)∨∃ b o,ad=some ⟨b,o,none⟩
structure RdC (w0:World) (g:Nat) (l:List Nat) (d n:Nat) (w:World):Prop where
  low:w0.heap.size≤g
  env:Below w0.heap.size w0 w
  ok:Okb l
  len:l.length≤1000000
  cell:∃ ad cap,w.heap[g]? = some (.cells #[.slice ad l.length cap,.int .i64 (d:Int),.int .i64 (n:Int)] 67)∧l.length≤cap∧RdV w0 ad (bc l)∧Shp ad cap
theorem RdC.lt {w0:World} {g:Nat} {l:List Nat} {d n:Nat} {w:World} (h:RdC w0 g l d n w):g<w.heap.size:=by
  obtain ⟨ad,cap,h1,_⟩:=h.cell
  exact (Array.getElem?_eq_some_iff.1 h1).1
theorem RdC.c1 {w0:World} {g:Nat} {l:List Nat} {d n:Nat} {w:World} (h:RdC w0 g l d n w):w.cell? ⟨g,1,none⟩=some (.int .i64 (d:Int)):=by
  obtain ⟨ad,cap,h1,_⟩:=h.cell
  simp [World.cell?,h1]
theorem RdC.c2 {w0:World} {g:Nat} {l:List Nat} {d n:Nat} {w:World} (h:RdC w0 g l d n w):w.cell? ⟨g,2,none⟩=some (.int .i64 (n:Int)):=by
  obtain ⟨ad,cap,h1,_⟩:=h.cell
  simp [World.cell?,h1]
theorem RdC.fz {w0:World} {g:Nat} {l:List Nat} {d n:Nat} {w:World} (h:RdC w0 g l d n w) (i:Nat):w.frozen? ⟨g,i,none⟩=false:=by
  obtain ⟨ad,cap,h1,_⟩:=h.cell
  simp [World.frozen?,h1]
theorem RdC.on {w0:World} {g:Nat} {l:List Nat} {d n:Nat} {w w':World} (h:RdC w0 g l d n w) (hb:Below w.heap.size w w'):RdC w0 g l d n w':=by
  obtain ⟨ad,cap,h1,h2,h3⟩:=h.cell
  exact ⟨h.low,h.env.trans (hb.mono h.env.size),h.ok,h.len,ad,cap,(hb.block g h.lt).trans h1,h2,h3⟩
structure StC (w0:World) (g:Nat) (l:List Nat) (d n:Nat) (w w':World):Prop where
  oth:But g w w'
  rd:RdC w0 g l d n w'
theorem StC.trans {w0:World} {g:Nat} {l l':List Nat} {d n d' n':Nat} {w w1 w2:World} (h:StC w0 g l d n w w1) (k:StC w0 g l' d' n' w1 w2):StC w0 g l' d' n' w w2:=⟨h.oth.trans k.oth,k.rd⟩
theorem StC.of_below {w0:World} {g:Nat} {l:List Nat} {d n:Nat} {w w':World} (h:RdC w0 g l d n w) (hb:Below w.heap.size w w'):StC w0 g l d n w w':=⟨.of_below hb,h.on hb⟩
theorem StC.refl {w0:World} {g:Nat} {l:List Nat} {d n:Nat} {w:World} (h:RdC w0 g l d n w):StC w0 g l d n w w:=.of_below h (Below.refl _ _)
theorem StC.more {w0:World} {g:Nat} {l:List Nat} {d n:Nat} {w w1 w2:World} (h:StC w0 g l d n w w1) (hb:Below w1.heap.size w1 w2):StC w0 g l d n w w2:=h.trans (.of_below h.rd hb)
theorem StC.drew {w0:World} {g:Nat} {l:List Nat} {d n:Nat} {a w:World} (h:StC w0 g l d n a w):StC w0 g l d n a w.drew:=h.more (below_drew (Below.refl _ _))
theorem StC.drewN {w0:World} {g:Nat} {l:List Nat} {d n:Nat} {a w:World} (h:StC w0 g l d n a w) (k:Nat):StC w0 g l d n a (w.drewN k):=h.more (below_drewN (Below.refl _ _) k)
theorem StC.alloc {w0:World} {g:Nat} {l:List Nat} {d n:Nat} {a w:World} (h:StC w0 g l d n a w) (o:Obj):StC w0 g l d n a (w.alloc o):=h.more ((Below.refl _ _).alloc (Nat.le_refl _) _)
theorem StC.zero {w0:World} {g:Nat} {l:List Nat} {d n:Nat} {a w:World} (h:StC w0 g l d n a w) {l':List Nat} {ad:Option Addr} {k cap:Nat} (hok:Okb l') (hlen:l'.length≤1000000) (hk:l'.length=k) (hc:k≤cap) (hr:RdV w0 ad (bc l')) (hsh:Shp ad cap) :
    StC w0 g l' d n a (w.setCell ⟨g,0,none⟩ (.slice ad k cap)):=by
  subst hk
  refine ⟨h.oth.setCell _ _,⟨h.rd.low,h.rd.env.setCell h.rd.low _,hok,hlen,ad,cap,?_,hc,hr,hsh⟩⟩
  obtain ⟨ad',cap',h1,_⟩:=h.rd.cell
  simp [World.setCell,Array.getElem?_modify,h1]
theorem StC.depth {w0:World} {g:Nat} {l:List Nat} {d n:Nat} {a w:World} (h:StC w0 g l d n a w) (d':Nat) {v:Value} (hv:v=.int .i64 (d':Int)):StC w0 g l d' n a (w.setCell ⟨g,1,none⟩ v):=by
  subst hv
  obtain ⟨ad,cap,h1,h2,h3⟩:=h.rd.cell
  refine ⟨h.oth.setCell _ _,⟨h.rd.low,h.rd.env.setCell h.rd.low _,h.rd.ok,h.rd.len,ad,cap,?_,h2,h3⟩⟩
  simp [World.setCell,Array.getElem?_modify,h1]
theorem StC.nodes {w0:World} {g:Nat} {l:List Nat} {d n:Nat} {a w:World} (h:StC w0 g l d n a w) (n':Nat) {v:Value} (hv:v=.int .i64 (n':Int)):StC w0 g l d n' a (w.setCell ⟨g,2,none⟩ v):=by
  subst hv
  obtain ⟨ad,cap,h1,h2,h3⟩:=h.rd.cell
  refine ⟨h.oth.setCell _ _,⟨h.rd.low,h.rd.env.setCell h.rd.low _,h.rd.ok,h.rd.len,ad,cap,?_,h2,h3⟩⟩
  simp [World.setCell,Array.getElem?_modify,h1]
theorem StC.fresh {w0:World} {g:Nat} {l:List Nat} {d n:Nat} {w W:World} (h:StC w0 g l d n w W) {b:Nat} (hb:w.heap.size≤b) (hg:b ≠ g) (h0:w0.heap.size≤b) (i:Nat) (v:Value):StC w0 g l d n w (W.setCell ⟨b,i,none⟩ v):=by
  obtain ⟨ad,cap,h1,h2,h3⟩:=h.rd.cell
  refine ⟨⟨h.oth.os,h.oth.tape,h.oth.output,by simpa [World.setCell] using h.oth.size,fun k hk hk2=>(Below.heap_setCell _ _ _ _ (by simp;omega)).trans (h.oth.block k hk hk2)⟩,⟨h.rd.low,h.rd.env.setCell h0 _,h.rd.ok,h.rd.len,ad,cap,?_,h2,h3⟩⟩
  rw [Below.heap_setCell _ _ _ _ (by simpa using fun e=>hg e.symm)]
  exact h1
def ThrowC (w0:World) (x:Int) (g:Nat) (w:World) (e:Ending) (w':World):Prop:=e=.panicked [{ v:=.iface 32 (.int .i64 x),recovered:=false }]∧∃ l d n,StC w0 g l d n w w'
theorem ThrowC.on {w0:World} {x:Int} {g:Nat} {l:List Nat} {d n:Nat} {w w1 w':World} {e:Ending} (h:StC w0 g l d n w w1) (h2:ThrowC w0 x g w1 e w'):ThrowC w0 x g w e w':=by
  obtain ⟨he,l,d,n,hj⟩:=h2
  exact ⟨he,l,d,n,h.trans hj⟩
theorem ThrowC.mk {w0:World} {x:Int} {g:Nat} {l:List Nat} {d n:Nat} {w w':World} (h:StC w0 g l d n w w'):ThrowC w0 x g w (.panicked [{ v:=.iface 32 (.int .i64 x),recovered:=false }]) w':=⟨rfl,_,_,_,h⟩
def TakC {α:Type} (w0:World) (g d n:Nat) (val:α→Value) (r:(α × List Nat) ⊕ Int) (w:World) (e:Ending) (w':World):Prop:=match r with
  | .inl (x,l)=>e=.returned (val x)∧StC w0 g l d n w w'
  | .inr x=>ThrowC w0 x g w e w'
theorem TakC.yes {α:Type} {w0:World} {g d n:Nat} {val:α→Value} {r:(α × List Nat) ⊕ Int} {w:World} {e:Ending} {w':World} {x:α} {l:List Nat} (h:r=.inl (x,l)) (he:e=.returned (val x)) (hs:StC w0 g l d n w w'):TakC w0 g d n val r w e w':=by
  subst h;exact ⟨he,hs⟩
theorem TakC.no {α:Type} {w0:World} {g d n:Nat} {val:α→Value} {r:(α × List Nat) ⊕ Int} {w:World} {e:Ending} {w':World} {x:Int} (h:r=.inr x) (hs:ThrowC w0 x g w e w'):TakC w0 g d n val r w e w':=by
  subst h;exact hs
theorem TakC.on {α:Type} {w0:World} {g d n d0 n0:Nat} {l:List Nat} {val:α→Value} {r:(α × List Nat) ⊕ Int} {w w1:World} {e:Ending} {w':World} (h:StC w0 g l d0 n0 w w1) (h2:TakC w0 g d n val r w1 e w'):TakC w0 g d n val r w e w':=by
  unfold TakC at *
  cases r with
  | inr x=>exact ThrowC.on h h2
  | inl p=>exact ⟨h2.1,h.trans h2.2⟩
theorem rdv_left {w0:World} {ad:Option Addr} {l:List Nat} {cap:Nat} (h:RdV w0 ad (bc l)) (k:Nat) (hk:k≤l.length) (hc:l.length≤cap) :
    (cap=k→RdV w0 ad (bc (l.drop k)))∧(∀ b o,ad=some ⟨b,o,none⟩→RdV w0 (some ⟨b,o+k,none⟩) (bc (l.drop k))):=by
  refine ⟨fun e=>?_,fun b o e=>?_⟩
  · rw [List.drop_of_length_le (by omega)];exact RdV.nil _ _
  · subst e;rw [← bc_drop];exact h.drop k
def cbFirst:List Nat→(Nat × List Nat) ⊕ Int
  | []=>.inr 2
  | c::r=>.inl (c,c::r)
def u8V (c:Nat):Value:=.int .u8 (c:Int)
theorem first_cb {w0:World} {g:Nat} {l:List Nat} {d n:Nat} {w:World} (hr:RdC w0 g l d n w) :
    Calls Tryz.prog 73 #[.pointer (some ⟨g,0,none⟩)] w (TakC w0 g d n u8V (cbFirst l) w):=by
  have H0:=Lib.hid (StC.refl hr)
  obtain ⟨ad,cap,h1,h2,h3,_⟩:=hr.cell
  have c0:w.cell? ⟨g,0,none⟩=some (.slice ad l.length cap):=by simp [World.cell?,h1]
  have hv:=hr.env
  clear hr h1
  cases l with
  | nil =>
    have c0:w.cell? ⟨g,0,none⟩=some (.slice ad 0 cap):=c0
    clear h2 h3 hv
    go_enter Tryz.func73,Tryz.ntmps73
    go_wp2_with fail
    exact ⟨rfl,TakC.no rfl (ThrowC.mk H0.out)⟩
  | cons c r =>
    have c0:w.cell? ⟨g,0,none⟩=some (.slice ad (r.length+1) cap):=c0
    obtain ⟨b,o,rfl,hlt⟩:=h3.shape (by simp [bc])
    have c1:w.cell? ⟨b,o,none⟩=some (.int .u8 (c:Int)):=by
      have:=h3.at 0 (by simp [bc])
      rw [Nat.add_zero] at this
      rw [hv.cell (p:=⟨b,o,none⟩) hlt,this];rfl
    clear h2 h3 hv hlt
    generalize r.length=k at *
    have hk:(((k+1:Nat):Int) == 0)=false:=by rw [beq_eq_false_iff_ne];omega
    go_enter Tryz.func73,Tryz.ntmps73
    go_wp2
    go_ret
    exact ⟨rfl,H0.out⟩
theorem open_cb (m i k:Nat) (w:World):Calls Tryz.prog 111 #[.agg #[.int .i64 (m:Int),.int .i64 (i:Int),.int .u64 (k:Int)]] w fun e w'=>e=.returned (.bool (decide (i=31)))∧Below w.heap.size w w':=by
  have hb:Below w.heap.size w (w.alloc (.cells #[.int .i64 (m:Int),.int .i64 (i:Int),.int .u64 (k:Int)] 111)):=(Below.refl _ _).alloc (Nat.le_refl _) _
  by_cases h:i=31
  · have e1:((i:Int) == 31)=true:=by rw [beq_iff_eq];omega
    have HB:=Lib.hid hb
    have HD:=Lib.hid (show decide (i=31)=true from decide_eq_true h)
    clear h hb
    go_enter Tryz.func111,Tryz.ntmps111
    go_wp2_with fail
    go_ret
    exact ⟨by rw [HD.out];rfl,HB.out⟩
  · have e1:((i:Int) == 31)=false:=by rw [beq_eq_false_iff_ne];omega
    have HB:=Lib.hid hb
    have HD:=Lib.hid (show decide (i=31)=false from decide_eq_false h)
    clear h hb
    go_enter Tryz.func111,Tryz.ntmps111
    go_wp2_with fail
    go_ret
    exact ⟨by rw [HD.out];rfl,HB.out⟩
def RefC (k G:Nat) (w:World) (e:Ending) (w':World):Prop:=Below w.heap.size w w'∧((k≤G∧e=.returned (.tuple #[]))∨(G<k∧e=.panicked [{ v:=.iface 32 (.int .i64 4),recovered:=false }]))
theorem refuse_cb (m i k G:Nat) (w:World):Calls Tryz.prog 147 #[.agg #[.int .i64 (m:Int),.int .i64 (i:Int),.int .u64 (k:Int)],.int .u64 (G:Int)] w (RefC k G w):=by
  have hb:Below w.heap.size w (w.alloc (.cells #[.int .i64 (m:Int),.int .i64 (i:Int),.int .u64 (k:Int)] 111)):=(Below.refl _ _).alloc (Nat.le_refl _) _
  have HB:=Lib.hid hb
  clear hb
  by_cases h:k≤G
  · have e1:¬ G<k:=by omega
    have HD:=Lib.hid h
    clear h
    go_enter Tryz.func147,Tryz.ntmps147
    go_wp2_with fail
    exact bodyPost_ret (v:=.tuple #[]) (by simp [results,Tryz.results147,go_sem]) rfl ⟨HB.out,.inl ⟨HD.out,rfl⟩⟩
  · have e1:G<k:=by omega
    have HD:=Lib.hid (show G<k by omega)
    clear h
    go_enter Tryz.func147,Tryz.ntmps147
    go_wp2_with fail
    exact ⟨rfl,HB.out,.inr ⟨HD.out,rfl⟩⟩
def boolV (b:Bool):Value:=.bool b
theorem ends_cb {w0:World} {g:Nat} {l:List Nat} {d n:Nat} {w:World} (hr:RdC w0 g l d n w) :
    Calls Tryz.prog 182 #[.pointer (some ⟨g,0,none⟩)] w (TakC w0 g d n boolV (cbEnds l) w):=by
  have K:=Lib.hid (first_cb hr)
  have hlen:=hr.len
  have hok:=hr.ok
  clear hr
  cases l with
  | nil =>
    go_enter Tryz.func182,Tryz.ntmps182
    go_wp2_with fail
    refine K.out.mono ?_
    rintro r w1 ⟨rfl,l',d',n',h1⟩
    have H1:=Lib.hid h1
    clear h1
    go_wp2
    exact ⟨rfl,TakC.no rfl (ThrowC.mk H1.out)⟩
  | cons c r =>
    go_enter Tryz.func182,Tryz.ntmps182
    go_wp2_with fail
    refine K.out.mono ?_
    rintro x w1 ⟨rfl,h1⟩
    have H1:=Lib.hid h1
    unfold u8V
    by_cases hc:c=255
    · subst hc
      have HE:Hid (cbEnds (255::r)=.inl (true,r)):=Lib.hid (by simp [cbEnds])
      obtain ⟨ad,cap,q1,q2,q3,_⟩:=h1.rd.cell
      have c0:w1.cell? ⟨g,0,none⟩=some (.slice ad (r.length+1) cap):=by simp [World.cell?,q1]
      have f0:=h1.rd.fz 0
      obtain ⟨b,o,rfl,hlt⟩:=q3.shape (by simp [bc])
      have q4:=rdv_left q3 1 (by simp) q2
      have HL1:=Lib.hid (fun (e:cap=1)=>h1.zero (l':=r) (ad:=some ⟨b,o,none⟩) (k:=r.length) (cap:=cap - 1) (fun x hx=>hok x (List.mem_cons_of_mem _ hx)) (by simp at hlen;omega) rfl (by simp at q2;omega) (by have:=q4.1 e;simpa using this) (.inr ⟨_,_,rfl⟩))
      have HL2:=Lib.hid (h1.zero (l':=r) (ad:=some ⟨b,o+1,none⟩) (k:=r.length) (cap:=cap - 1) (fun x hx=>hok x (List.mem_cons_of_mem _ hx)) (by simp at hlen;omega) rfl (by simp at q2;omega) (by have:=q4.2 b o rfl;simpa using this) (.inr ⟨_,_,rfl⟩))
      have hcap:r.length+1≤cap:=by simpa using q2
      clear q1 q2 q3 q4 h1 K hlen hok hlt
      generalize r.length=k at *
      by_cases hcc:cap=1
      · have HCC:=Lib.hid hcc
        obtain rfl:k=0:=by omega
        subst hcc
        go_wp2_with fail
        go_ret
        exact TakC.yes HE.out rfl (HL1.out trivial)
      · have e1:1<cap:=by omega
        go_wp2_with fail
        go_ret
        exact TakC.yes HE.out rfl HL2.out
    · have HE:Hid (cbEnds (c::r)=.inl (false,c::r)):=Lib.hid (by simp [cbEnds,hc])
      have hne:(((c:Int)) != 255)=true:=by rw [bne_iff_ne];omega
      clear h1 hc
      go_wp2_with fail
      go_ret
      exact TakC.yes HE.out rfl H1.out
def hdV (h:HdC):Value:=.agg #[.int .i64 (h.1:Int),.int .i64 (h.2.1:Int),.int .u64 (h.2.2:Int)]
theorem getN_err (l:List Nat):(getN l 0).2.2.2.2=0∨(getN l 0).2.2.2.2=2:=by
  unfold getN
  split
  · rename_i h;omega
  · split
    · exact .inr rfl
    · split
      · exact .inr rfl
      · split
        · exact .inr rfl
        · exact .inl rfl
theorem getN_next (l:List Nat) (h:(getN l 0).2.2.2.2=0):1≤(getN l 0).2.2.2.1∧(getN l 0).2.2.2.1≤l.length:=by
  unfold getN at h ⊢
  split
  · rename_i h;omega
  · rename_i h1
    rw [if_neg h1] at h
    split
    · rename_i h2;rw [if_pos h2] at h;simp at h
    · rename_i h2
      rw [if_neg h2] at h
      have h3:0<l.length:=by omega
      split
      · rename_i hs;rw [hs] at h;simp at h
      · rename_i s hs
        rw [hs] at h
        simp only at h
        split
        · rename_i h4;rw [if_pos h4] at h;simp at h
        · simp only [Int.toNat_zero] at *
          omega
theorem head_cb {w0:World} {g:Nat} {l:List Nat} {d n:Nat} {w:World} (hr:RdC w0 g l d n w) :
    Calls Tryz.prog 75 #[.pointer (some ⟨g,0,none⟩)] w (TakC w0 g d n hdV (cbHead l) w):=by
  have hb1:Below w.heap.size w (w.alloc (.cells #[.int .i64 0,.int .i64 0,.int .u64 0] 111)):=(Below.refl _ _).alloc (Nat.le_refl _) _
  have hn1:=heap_alloc_new w (.cells #[.int .i64 0,.int .i64 0,.int .u64 0] 111)
  have hr1:=hr.on hb1
  obtain ⟨ad,cap,q1,q2,q3,_⟩:=hr1.cell
  have K:=Lib.hid (get_any ad l.length cap l 0 _ rfl hr.len q2 (fun x hx=>hr.ok x hx) (q3.below hr1.env (fun a e hp=>q3.lt a e hp)) (by decide))
  have c0:(w.alloc (.cells #[.int .i64 0,.int .i64 0,.int .u64 0] 111)).cell? ⟨g,0,none⟩=some (.slice ad l.length cap):=by simp only [World.cell?,q1];rfl
  have H1:=Lib.hid (StC.of_below hr hb1)
  have hg:=hr.lt
  have hlow:=hr.low
  have henv:=hr.env.size
  have HR:=Lib.hid hr
  clear hr q1 hr1
  have hne:¬ g=w.heap.size:=by omega
  have hne2:¬ w.heap.size=g:=by omega
  have HQ2:=Lib.hid q2;have HQ3:=Lib.hid q3
  have HN1:=Lib.hid hn1;have HB1:=Lib.hid hb1
  clear q2 q3 hn1 hb1
  generalize hk:l.length=k at *
  have HK:=Lib.hid hk
  clear hk
  go_enter Tryz.func75,Tryz.ntmps75
  go_wp2_with fail
  refine K.out.mono ?_
  rintro r w1 ⟨rfl,hb2⟩
  have HS:=Lib.hid (H1.out.more hb2)
  have hbx:=(hb2.block w.heap.size (Array.getElem?_eq_some_iff.1 HN1.out).1).trans HN1.out
  have HBX:=Lib.hid hbx
  clear hb2 K c0
  by_cases h0:(getN l 0).2.2.2.2=0
  · have HE:Hid (cbHead l=.inl (((getN l 0).1,(getN l 0).2.1,(getN l 0).2.2.1),l.drop (getN l 0).2.2.2.1)):=Lib.hid (by unfold cbHead;rw [if_pos h0])
    have hnx:=getN_next l h0
    have hok:=cbHead_ok HR.out.ok HE.out
    unfold tup
    rw [h0]
    generalize (getN l 0).1=xm at *
    generalize (getN l 0).2.1=xi at *
    generalize (getN l 0).2.2.1=xn at *
    generalize (getN l 0).2.2.2.1=nx at *
    obtain ⟨ad1,cap1,q1,q2,q3,_⟩:=HS.out.rd.cell
    have c0:w1.cell? ⟨g,0,none⟩=some (.slice ad1 k cap1):=by simp only [World.cell?,q1];rw [← HK.out];rfl
    have f0:=HS.out.rd.fz 0
    obtain ⟨b,o,rfl,hlt⟩:=q3.shape (by rw [bc_len];omega)
    have q4:=rdv_left q3 nx hnx.2 q2
    have hdl:(l.drop nx).length=k - nx:=by rw [List.length_drop,HK.out]
    have hll:=HR.out.len
    rw [HK.out] at hll
    have HL1:=Lib.hid (fun (e:cap1=nx)=>HS.out.zero (l':=l.drop nx) (ad:=some ⟨b,o,none⟩) (k:=k - nx) (cap:=cap1 - nx) (hok.b HR.out.ok) (by rw [hdl];omega) hdl (by have:=HK.out;omega) (q4.1 e) (.inr ⟨_,_,rfl⟩))
    have HL2:=Lib.hid (HS.out.zero (l':=l.drop nx) (ad:=some ⟨b,o+nx,none⟩) (k:=k - nx) (cap:=cap1 - nx) (hok.b HR.out.ok) (by rw [hdl];omega) hdl (by have:=HK.out;omega) (q4.2 b o rfl) (.inr ⟨_,_,rfl⟩))
    have hcap:k≤cap1:=by have:=HK.out;omega
    have hnk:nx≤k:=by have:=HK.out;omega
    have hfin:∀ W v,StC w0 g (l.drop nx) d n w W→StC w0 g (l.drop nx) d n w (((W.setCell ⟨w.heap.size,0,none⟩ v).setCell ⟨w.heap.size,1,none⟩ (.int .i64 (xi:Int))).setCell ⟨w.heap.size,2,none⟩ (.int .u64 (xn:Int))):=fun W v h =>
      ((h.fresh (Nat.le_refl _) hne2 henv _ _).fresh (Nat.le_refl _) hne2 henv _ _).fresh (Nat.le_refl _) hne2 henv _ _
    have HF:=Lib.hid hfin
    have y0:w1.cell? ⟨w.heap.size,0,none⟩=some (.int .i64 0):=by simp [World.cell?,hbx]
    have y1:w1.cell? ⟨w.heap.size,1,none⟩=some (.int .i64 0):=by simp [World.cell?,hbx]
    have y2:w1.cell? ⟨w.heap.size,2,none⟩=some (.int .u64 0):=by simp [World.cell?,hbx]
    have z0:∀ i,w1.frozen? ⟨w.heap.size,i,none⟩=false:=fun i=>by simp [World.frozen?,hbx]
    clear q1 q2 q3 q4 hbx hdl hll hnx h0 hok hlt hfin
    by_cases hcc:cap1=nx
    · have HCC:=Lib.hid hcc
      subst hcc
      obtain rfl:k=cap1:=by omega
      go_wp2_with fail
      refine bodyPost_ret (v:=hdV (xm,xi,xn)) (by simp [results,Tryz.results75,go_sem,y0,y1,y2,hne,hne2,hdV]) rfl ?_
      exact TakC.yes HE.out rfl (HF.out _ _ (by have:=HL1.out trivial;rwa [Nat.sub_self] at this))
    · have e1:nx<cap1:=by omega
      go_wp2_with fail
      refine bodyPost_ret (v:=hdV (xm,xi,xn)) (by simp [results,Tryz.results75,go_sem,y0,y1,y2,hne,hne2,hdV]) rfl ?_
      exact TakC.yes HE.out rfl (HF.out _ _ HL2.out)
  · have h2:(getN l 0).2.2.2.2=2:=by have:=getN_err l;omega
    have HE:Hid (cbHead l=.inr 2):=Lib.hid (by unfold cbHead;rw [if_neg h0])
    unfold tup
    rw [h2]
    clear h0 h2 hbx
    go_wp2_with fail
    exact ⟨rfl,TakC.no HE.out (ThrowC.mk HS.out)⟩
end Go.Proofs.YtnacbakcalcgaaaGreatDoor
