/- Texts of the claim. -/
import Derived.Test.YtijaphbccnadbaaGreatDoorUF
import Derived.Test.YtijaphbccnadbaaGreatDoorUG
set_option linter.unusedVariables false
set_option linter.unusedSimpArgs false
set_option maxHeartbeats 2000000
set_option maxRecDepth 100000
namespace Go.Proofs.YtijaphbccnadbaaGreatDoor
open Go.RowKit
def pickB (l:List ByteArray) (S:List Nat):List ByteArray:=S.map fun p=>l.getD p ByteArray.empty
def pickBK (l:List ByteArray) (S:List Nat) (k:Nat):List ByteArray:=pickB l (S.take k)++List.replicate (S.length - k) ByteArray.empty
theorem pickBK_len (l:List ByteArray) (S:List Nat) {k:Nat} (h:k≤S.length):(pickBK l S k).length=S.length:=by simp [pickBK,pickB];omega
theorem pickBK_zero (l:List ByteArray) (S:List Nat):pickBK l S 0=List.replicate S.length ByteArray.empty:=by simp [pickBK,pickB]
theorem pickBK_all (l:List ByteArray) (S:List Nat):pickBK l S S.length=pickB l S:=by simp [pickBK]
theorem pickBK_set (l:List ByteArray) (S:List Nat) {k:Nat} (h:k<S.length):(pickBK l S k).set k (l.getD (S.getD k 0) ByteArray.empty)=pickBK l S (k+1):=by
  unfold pickBK pickB
  rw [List.set_append_right _ _ (by simp;omega),List.length_map,List.length_take,Nat.min_eq_left (by omega),Nat.sub_self,List.take_succ_eq_append_getElem h,List.map_append,List.append_assoc]
  congr 1
  obtain ⟨m,hm⟩:∃ m,S.length - k=m+1:=⟨S.length - k - 1,by omega⟩
  rw [hm,List.replicate_succ,List.set_cons_zero,show S.length - (k+1)=m by omega]
  simp [List.getD,h]
theorem sv_set (l:List ByteArray) (i:Nat) (s:ByteArray):(sv l).set i (.string s)=sv (l.set i s):=by
  unfold sv;rw [List.map_set]
theorem sv_rep (n:Nat):sv (List.replicate n ByteArray.empty)=List.replicate n (.string ByteArray.empty):=by simp [sv]
theorem pickS_any (ad:Option Addr) (n cap:Nat) (l:List ByteArray) (ad':Option Addr) (n' cap':Nat) (S:List Nat) (w:World) (hl:l.length=n) (hcap:n≤cap) (hm:n≤1000000) (hr:RdV w ad (sv l))
    (hS:S.length=n') (hcap':n'≤cap') (hm':n'≤1000000) (hr':RdV w ad' (S.map iv)) (hb:∀ p∈S,p<n) :
    Calls Tryz.prog 126 #[.slice ad n cap,.slice ad' n' cap'] w (PickPost 9 (sv (pickB l S)) n' w):=by
  have HL:=Lib.hid hl;have HR:=Lib.hid hr;have HS:=Lib.hid hS;have HR':=Lib.hid hr';have HB:=Lib.hid hb
  clear hl hr hS hr' hb
  have hst:=made_blk w (.string ByteArray.empty) n' 9
  rw [← sv_rep,← HS.out,← pickBK_zero l S] at hst
  have HST:=Lib.hid hst;clear hst
  rw [HS.out] at HST
  have HBL:=Lib.hid ((Below.refl w.heap.size w).alloc (Nat.le_refl _) (.cells (madeCells #[Value.string ByteArray.empty] n') 9))
  have hmk:=fun W=>run_make_row' (P:=Tryz.prog) 25 9 (.string ByteArray.empty) 16 Tryz.underlying25 info_string rfl .i64 .i64 n' (by omega) (by omega) W
  go_enter Tryz.func126,Tryz.ntmps126
  go_wp2
  clear hmk
  go_loopw [13] (fun i wr=>∃ k:Nat,k≤n'∧i=.int .i64 (k:Int)∧BlkV wr w.heap.size 9 (sv (pickBK l S k))∧Below w.heap.size w wr) (fun i _=>n' - (intOf i).toNat)
  case atStart=>exact ⟨0,Nat.zero_le _,rfl,HST.out,HBL.out⟩
  case round =>
    obtain ⟨k,hk,rfl,hT,hbl⟩:=hrel
    have HT:=Lib.hid hT;have HBW:=Lib.hid hbl
    clear hT hbl
    by_cases hlt:k<n'
    · have h1:(k:Int)<(n':Int):=by omega
      have h2:(0:Int)≤(k:Int):=by omega
      obtain ⟨b',o',rfl,_,hc⟩:=(HR'.out.on HBW.out) k (by rw [List.length_map,HS.out];exact hlt)
      rw [iv_get _ _ (by rw [HS.out];exact hlt)] at hc
      have hp:=HB.out (S.getD k 0) (by simp [List.getD,HS.out,hlt])
      obtain ⟨b,o,rfl,_,hd⟩:=(HR.out.on HBW.out) (S.getD k 0) (by rw [sv_len,HL.out];exact hp)
      rw [sv_get _ _ (by rw [HL.out];exact hp)] at hd
      obtain ⟨z,hold⟩:∃ z,wr.cell? ⟨w.heap.size,k,none⟩=some z:=⟨_,(HT.out.cell k).trans (sv_get _ _ (by rw [pickBK_len _ _ (by rw [HS.out];exact hk),HS.out];exact hlt))⟩
      have hf:=HT.out.free k
      have hnew:=HT.out.set k (.string (l.getD (S.getD k 0) ByteArray.empty))
      rw [sv_set,pickBK_set _ _ (by rw [HS.out];exact hlt)] at hnew
      have HNEW:=Lib.hid hnew;clear hnew
      have HB3:=Lib.hid (HBW.out.setCell (p:=⟨w.heap.size,k,none⟩) (Nat.le_refl _) (.string (l.getD (S.getD k 0) ByteArray.empty)))
      generalize l.getD (S.getD k 0) ByteArray.empty=c at *
      generalize S.getD k 0=p at *
      have hp1:(p:Int)<(n:Int):=by omega
      have hp2:(0:Int)≤(p:Int):=by omega
      go_wp2_with fail
      go_roundw
      case rel=>exact ⟨k+1,by omega,by go_num,HNEW.out,HB3.out⟩
      case measure=>simp [intOf];omega
    · obtain rfl:k=n':=by omega
      have h1:¬ (k:Int)<(k:Int):=by omega
      have hT:=HT.out
      rw [← HS.out,pickBK_all] at hT
      have HT2:=Lib.hid hT;clear hT
      go_wp2
      go_ret
      exact ⟨_,rfl,Nat.le_refl _,HT2.out,HBW.out⟩
def objC (g1 g2 n:Nat):Cel:=⟨7,false,false,none,0,0,0,ByteArray.empty,some ⟨g1,0,none⟩,n,n,some ⟨g2,0,none⟩,n,n⟩
def ObjYes (l:List ByteArray) (cs:List Cel) (m:Nat) (w:World) (r:Ending) (w':World):Prop :=
  ∃ g1 g2,r=.returned (.tuple #[(objC g1 g2 m).val,.int .i64 0,.bool true])∧w.heap.size≤g1∧w.heap.size≤g2∧BlkV w' g1 9 (sv (pickB l (srt Op.bytesLess (keyB l) 0 m)))∧BlkV w' g2 28 (flat (pickC cs (srt Op.bytesLess (keyB l) 0 m)))∧Below w.heap.size w w'
def ObjNo (lo:Nat) (w:World) (r:Ending) (w':World):Prop :=
  r=.returned (.tuple #[zeroC.val,.int .i64 (lo:Int),.bool false])∧Below w.heap.size w w'
def ObjPost (l:List ByteArray) (cs:List Cel) (m:Nat) (w:World) (r:Ending) (w':World):Prop :=
  ∃ lo f,Twc (keyB l) m lo f∧(f=false→ObjYes l cs m w r w')∧(f=true→ObjNo lo w r w')
theorem object_core (ad:Option Addr) (n cap m:Nat) (l:List ByteArray) (ad':Option Addr) (n' cap':Nat) (cs:List Cel) (w:World) (hcap:n≤cap) (hm:n≤1000000) (hl:l.length=m) (hr:RdV w ad (sv l))
    (hS:cs.length=n') (hcap':n'≤cap') (hm':n'≤1000000) (hr':RdV w ad' (flat cs)) (hmin:n≤n'∧m=n∨n'<n∧m=n') :
    Calls Tryz.prog 80 #[.slice ad n cap,.slice ad' n' cap'] w (ObjPost l cs m w):=by
  have hmn:m≤n:=by omega
  have hmn':m≤n':=by omega
  have KS:=Lib.hid (fun W (h:Below w.heap.size w W)=>sort_any ad m cap l W hl (by omega) (by omega) (hr.on h))
  have KA:=Lib.hid (fun W (h:Below w.heap.size w W) g (hk:BlkV W g 3 ((srt Op.bytesLess (keyB l) 0 m).map iv)) =>
    again_any ad m cap l (some ⟨g,0,none⟩) m m (srt Op.bytesLess (keyB l) 0 m) W hl (srt_len _ _ _ _) (by omega) (by omega) (hr.on h) hk.all (fun i hi=>srt_lt _ _ _ i hi) (by omega) (Nat.le_refl _))
  have hbS:∀ p∈srt Op.bytesLess (keyB l) 0 m,p<m:=fun p hp=>by have:=srt_mem.1 hp;omega
  have KP:=Lib.hid (fun W (h:Below w.heap.size w W) g (hk:BlkV W g 3 ((srt Op.bytesLess (keyB l) 0 m).map iv)) =>
    pickS_any ad m cap l (some ⟨g,0,none⟩) m m (srt Op.bytesLess (keyB l) 0 m) W hl (by omega) (by omega) (hr.on h) (srt_len _ _ _ _) (Nat.le_refl _) (by omega) hk.all hbS)
  have KT:=Lib.hid (fun W (h:Below w.heap.size w W) g (hk:BlkV W g 3 ((srt Op.bytesLess (keyB l) 0 m).map iv)) =>
    pickT_any ad' n' cap' cs (some ⟨g,0,none⟩) m m (srt Op.bytesLess (keyB l) 0 m) W hS hcap' hm' (hr'.on h) (srt_len _ _ _ _) (Nat.le_refl _) (by omega) hk.all (fun p hp=>by have:=hbS p hp;omega))
  clear hr hr' hS hl hbS
  have B1:=Lib.hid ((Below.refl w.heap.size w).alloc (Nat.le_refl _) (.cells #[.int .i64 0,.bool false,.bool false,.slice none 0 0,.int .i64 0,.string ByteArray.empty,.slice none 0 0,.slice none 0 0] 28))
  rcases hmin with ⟨hle,rfl⟩ | ⟨hle,rfl⟩
  · have hi:(m:Int)≤(n':Int):=by omega
    have mn1:=Int.min_def (m:Int) (n':Int)
    go_enter Tryz.func80,Tryz.ntmps80
    go_wp2_with fail
    have HZ0:=B1.out.size
    have c0:=lit_blk w [.int .i64 0,.bool false,.bool false,.slice none 0 0,.int .i64 0,.string ByteArray.empty,.slice none 0 0,.slice none 0 0] 28 #[.int .i64 0,.bool false,.bool false,.slice none 0 0,.int .i64 0,.string ByteArray.empty,.slice none 0 0,.slice none 0 0] rfl
    have HC0:=Lib.hid c0;clear c0
    refine (KS.out _ B1.out).mono ?_
    rintro r w1 ⟨g,rfl,hg,hk,hw⟩
    have B2:=Lib.hid (below_on B1.out hw)
    have HK:=Lib.hid hk
    have HC1:=Lib.hid (HC0.out.below hw (by simp))
    clear hg hk hw HC0
    go_wp2_with fail
    refine (KA.out _ B2.out g HK.out).mono ?_
    rintro r w2 ⟨lo,f,q,rfl,hL,rfl⟩
    have HT:=Lib.hid (hL.twc sto_bytes)
    have B3:=Lib.hid (below_drewN B2.out q)
    have HC2:=Lib.hid (HC1.out.drewN q)
    have HK2:=Lib.hid (HK.out.drewN q)
    clear hL HK HC1
    generalize World.drewN _ q=w2 at B3 HC2 HK2 ⊢
    cases f
    · go_wp2_with fail
      refine (KP.out _ B3.out g HK2.out).mono ?_
      rintro r w3 ⟨g1,rfl,hg1,hk1,hb1⟩
      have B4:=Lib.hid (below_on B3.out hb1)
      have HG1:=Lib.hid (show w.heap.size<g1 by have:=HC2.out.lt;omega)
      have HC3:=Lib.hid (HC2.out.below hb1 HC2.out.lt)
      have HK3:=Lib.hid (HK2.out.below hb1 HK2.out.lt)
      have HP:=Lib.hid hk1
      clear hg1 hk1 hb1
      go_wp2_with fail
      refine (KT.out _ B4.out g HK3.out).mono ?_
      rintro r w4 ⟨g2,rfl,hg2,hk2,hb2⟩
      have B5:=Lib.hid (below_on B4.out hb2)
      have HG2:=Lib.hid (show w.heap.size<g2 by have:=HC3.out.lt;omega)
      have HC4:=Lib.hid (HC3.out.below hb2 HC3.out.lt)
      have HP2:=Lib.hid (HP.out.below hb2 HP.out.lt)
      have HQ:=Lib.hid hk2
      clear hg2 hk2 hb2
      have y0:=HC4.out.cell 0;have y1:=HC4.out.cell 1;have y2:=HC4.out.cell 2;have y3:=HC4.out.cell 3
      have y4:=HC4.out.cell 4;have y5:=HC4.out.cell 5;have y6:=HC4.out.cell 6;have y7:=HC4.out.cell 7
      have f0:=HC4.out.free 0;have f1:=HC4.out.free 1;have f2:=HC4.out.free 2;have f3:=HC4.out.free 3
      have f4:=HC4.out.free 4;have f5:=HC4.out.free 5;have f6:=HC4.out.free 6;have f7:=HC4.out.free 7
      simp only [List.getElem?_cons_zero,List.getElem?_cons_succ] at y0 y1 y2 y3 y4 y5 y6 y7
      go_wp2_with fail
      refine bodyPost_ret (v:=.tuple #[(objC g1 g2 m).val,.int .i64 0,.bool true]) (by simp [results,Tryz.results80,go_sem,y0,y1,y2,y3,y4,y5,y6,y7,objC,Cel.val];rfl) rfl ?_
      have hbut:=put8_but w4 w.heap.size 0 (objC g1 g2 m)
      exact ⟨lo,false,HT.out,fun _=>⟨g1,g2,rfl,Nat.le_of_lt HG1.out,Nat.le_of_lt HG2.out,hbut.blk HP2.out (by have:=HG1.out;omega),hbut.blk HQ.out (by have:=HG2.out;omega),B5.out.trans (hbut.below (Nat.le_refl _) B5.out.size)⟩,fun h=>by cases h⟩
    · have HC4:=HC2
      have y0:=HC4.out.cell 0;have y1:=HC4.out.cell 1;have y2:=HC4.out.cell 2;have y3:=HC4.out.cell 3
      have y4:=HC4.out.cell 4;have y5:=HC4.out.cell 5;have y6:=HC4.out.cell 6;have y7:=HC4.out.cell 7
      have f0:=HC4.out.free 0;have f1:=HC4.out.free 1;have f2:=HC4.out.free 2;have f3:=HC4.out.free 3
      have f4:=HC4.out.free 4;have f5:=HC4.out.free 5;have f6:=HC4.out.free 6;have f7:=HC4.out.free 7
      simp only [List.getElem?_cons_zero,List.getElem?_cons_succ] at y0 y1 y2 y3 y4 y5 y6 y7
      go_wp2_with fail
      refine bodyPost_ret (v:=.tuple #[zeroC.val,.int .i64 (lo:Int),.bool false]) (by simp [results,Tryz.results80,go_sem,y0,y1,y2,y3,y4,y5,y6,y7,zeroC,Cel.val];rfl) rfl ?_
      have hbut:=put8_but w2 w.heap.size 0 zeroC
      exact ⟨lo,true,HT.out,(fun h=>by cases h),fun _=>⟨rfl,B3.out.trans (hbut.below (Nat.le_refl _) B3.out.size)⟩⟩
  · have hi:¬ (n:Int)≤(m:Int):=by omega
    have mn1:=Int.min_def (n:Int) (m:Int)
    have hi2:(m:Int)≤(n:Int):=by omega
    have hi3:(m:Int)≤(cap:Int):=by omega
    have hi4:(0:Int)≤(m:Int):=by omega
    go_enter Tryz.func80,Tryz.ntmps80
    go_wp2_with fail
    have HZ0:=B1.out.size
    have c0:=lit_blk w [.int .i64 0,.bool false,.bool false,.slice none 0 0,.int .i64 0,.string ByteArray.empty,.slice none 0 0,.slice none 0 0] 28 #[.int .i64 0,.bool false,.bool false,.slice none 0 0,.int .i64 0,.string ByteArray.empty,.slice none 0 0,.slice none 0 0] rfl
    have HC0:=Lib.hid c0;clear c0
    refine (KS.out _ B1.out).mono ?_
    rintro r w1 ⟨g,rfl,hg,hk,hw⟩
    have B2:=Lib.hid (below_on B1.out hw)
    have HK:=Lib.hid hk
    have HC1:=Lib.hid (HC0.out.below hw (by simp))
    clear hg hk hw HC0
    go_wp2_with fail
    refine (KA.out _ B2.out g HK.out).mono ?_
    rintro r w2 ⟨lo,f,q,rfl,hL,rfl⟩
    have HT:=Lib.hid (hL.twc sto_bytes)
    have B3:=Lib.hid (below_drewN B2.out q)
    have HC2:=Lib.hid (HC1.out.drewN q)
    have HK2:=Lib.hid (HK.out.drewN q)
    clear hL HK HC1
    generalize World.drewN _ q=w2 at B3 HC2 HK2 ⊢
    cases f
    · go_wp2_with fail
      refine (KP.out _ B3.out g HK2.out).mono ?_
      rintro r w3 ⟨g1,rfl,hg1,hk1,hb1⟩
      have B4:=Lib.hid (below_on B3.out hb1)
      have HG1:=Lib.hid (show w.heap.size<g1 by have:=HC2.out.lt;omega)
      have HC3:=Lib.hid (HC2.out.below hb1 HC2.out.lt)
      have HK3:=Lib.hid (HK2.out.below hb1 HK2.out.lt)
      have HP:=Lib.hid hk1
      clear hg1 hk1 hb1
      go_wp2_with fail
      refine (KT.out _ B4.out g HK3.out).mono ?_
      rintro r w4 ⟨g2,rfl,hg2,hk2,hb2⟩
      have B5:=Lib.hid (below_on B4.out hb2)
      have HG2:=Lib.hid (show w.heap.size<g2 by have:=HC3.out.lt;omega)
      have HC4:=Lib.hid (HC3.out.below hb2 HC3.out.lt)
      have HP2:=Lib.hid (HP.out.below hb2 HP.out.lt)
      have HQ:=Lib.hid hk2
      clear hg2 hk2 hb2
      have y0:=HC4.out.cell 0;have y1:=HC4.out.cell 1;have y2:=HC4.out.cell 2;have y3:=HC4.out.cell 3
      have y4:=HC4.out.cell 4;have y5:=HC4.out.cell 5;have y6:=HC4.out.cell 6;have y7:=HC4.out.cell 7
      have f0:=HC4.out.free 0;have f1:=HC4.out.free 1;have f2:=HC4.out.free 2;have f3:=HC4.out.free 3
      have f4:=HC4.out.free 4;have f5:=HC4.out.free 5;have f6:=HC4.out.free 6;have f7:=HC4.out.free 7
      simp only [List.getElem?_cons_zero,List.getElem?_cons_succ] at y0 y1 y2 y3 y4 y5 y6 y7
      go_wp2_with fail
      refine bodyPost_ret (v:=.tuple #[(objC g1 g2 m).val,.int .i64 0,.bool true]) (by simp [results,Tryz.results80,go_sem,y0,y1,y2,y3,y4,y5,y6,y7,objC,Cel.val];rfl) rfl ?_
      have hbut:=put8_but w4 w.heap.size 0 (objC g1 g2 m)
      exact ⟨lo,false,HT.out,fun _=>⟨g1,g2,rfl,Nat.le_of_lt HG1.out,Nat.le_of_lt HG2.out,hbut.blk HP2.out (by have:=HG1.out;omega),hbut.blk HQ.out (by have:=HG2.out;omega),B5.out.trans (hbut.below (Nat.le_refl _) B5.out.size)⟩,fun h=>by cases h⟩
    · have HC4:=HC2
      have y0:=HC4.out.cell 0;have y1:=HC4.out.cell 1;have y2:=HC4.out.cell 2;have y3:=HC4.out.cell 3
      have y4:=HC4.out.cell 4;have y5:=HC4.out.cell 5;have y6:=HC4.out.cell 6;have y7:=HC4.out.cell 7
      have f0:=HC4.out.free 0;have f1:=HC4.out.free 1;have f2:=HC4.out.free 2;have f3:=HC4.out.free 3
      have f4:=HC4.out.free 4;have f5:=HC4.out.free 5;have f6:=HC4.out.free 6;have f7:=HC4.out.free 7
      simp only [List.getElem?_cons_zero,List.getElem?_cons_succ] at y0 y1 y2 y3 y4 y5 y6 y7
      go_wp2_with fail
      refine bodyPost_ret (v:=.tuple #[zeroC.val,.int .i64 (lo:Int),.bool false]) (by simp [results,Tryz.results80,go_sem,y0,y1,y2,y3,y4,y5,y6,y7,zeroC,Cel.val];rfl) rfl ?_
      have hbut:=put8_but w2 w.heap.size 0 zeroC
      exact ⟨lo,true,HT.out,(fun h=>by cases h),fun _=>⟨rfl,B3.out.trans (hbut.below (Nat.le_refl _) B3.out.size)⟩⟩
end Go.Proofs.YtijaphbccnadbaaGreatDoor
namespace Go.Proofs.YtijaphbccnadbaaGreatDoor
theorem keyB_get (l:List ByteArray) (i:Nat) (hi:i<l.length):keyB l i=l[i].toList:=by unfold keyB;simp [List.getD,hi]
theorem toList_inj {a b:ByteArray} (h:a.toList=b.toList):a=b:=by
  rw [ByteArray.toList_eq,ByteArray.toList_eq] at h
  exact WideShapes.bytes_inj h
theorem twc_nodup {l:List ByteArray} {n lo:Nat} {f:Bool} (hn:l.length=n) (h:Twc (keyB l) n lo f):f=false ↔ l.Nodup:=by
  constructor
  · intro hf
    rw [List.nodup_iff_pairwise_ne,List.pairwise_iff_getElem]
    intro i j hi hj hij e
    have:=(h.1 hf).2 j (by omega) i hij
    rw [keyB_get l i hi,keyB_get l j hj,e] at this
    exact this rfl
  · intro hd
    cases f
    · rfl
    · obtain ⟨h1,⟨i,h2,h3⟩,_⟩:=h.2 rfl
      rw [keyB_get l i (by omega),keyB_get l lo (by omega)] at h3
      have:=(List.getElem_inj hd).1 (toList_inj h3)
      omega
theorem pickB_len (l:List ByteArray) (S:List Nat):(pickB l S).length=S.length:=by simp [pickB]
end Go.Proofs.YtijaphbccnadbaaGreatDoor
