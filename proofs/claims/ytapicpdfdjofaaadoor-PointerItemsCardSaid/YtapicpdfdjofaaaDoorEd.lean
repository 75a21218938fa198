/- Texts of the claim. -/
import Derived.Test.YtapicpdfdjofaaaDoorEc
import Derived.Lib.ItoaNum
import Derived.Lib.Repeat
import Derived.Deep.RegionHeld3
import Derived.Deep.DeepCutAuto
import Derived.Lib.QuietBelow
import Derived.Test.YtapicpdfdjofaaaDoorEa
set_option linter.unusedVariables false
set_option linter.unusedSimpArgs false
set_option maxHeartbeats 1000000
set_option maxRecDepth 100000
namespace Go.Proofs.YtapicpdfdjofaaaDoor
open Go.RowKit
open Go.RowKit
open Go.RowKit
open Go.RowKit
def chkB (neg:Bool) (xs:List Nat) (e:Int):Bool :=
  if xs.length=0 then !neg && decide (e=0) else decide (xs.length≤90∧xs.getD (xs.length - 1) 0 ≠ 0∧-1200≤e∧e≤1200∧val xs % 10 ≠ 0)
theorem chkB_zero {neg:Bool} {e:Int} (h:chkB neg [] e=true):neg=false∧e=0:=by
  simpa [chkB] using h
theorem chkB_some {neg:Bool} {xs:List Nat} {e:Int} (h0:xs ≠ []) (h:chkB neg xs e=true):xs.length≤90∧xs.getD (xs.length - 1) 0 ≠ 0∧-1200≤e∧e≤1200∧val xs % 10 ≠ 0:=by
  unfold chkB at h
  rw [if_neg (fun h1=>h0 (List.eq_nil_of_length_eq_zero h1))] at h
  exact of_decide_eq_true h
theorem chkB_bounds {neg:Bool} {xs:List Nat} {e:Int} (h:chkB neg xs e=true):xs.length≤90∧-1200≤e∧e≤1200:=by
  by_cases h0:xs=[]
  · subst h0;obtain ⟨_,rfl⟩:=chkB_zero h;exact ⟨by simp,by omega,by omega⟩
  · obtain ⟨a,_,b,c,_⟩:=chkB_some h0 h;exact ⟨a,b,c⟩
def takes (l:List Nat) (c:Nat):Bool:=l.head? == some c
def rest (l:List Nat) (c:Nat):List Nat:=if takes l c then l.tail else l
def wholeBad (d:List Nat):Prop:=d=[]∨(1<d.length∧d.head? = some 48)
instance (d : List Nat) : Decidable (wholeBad d) := by unfold wholeBad; infer_instance
end Go.Proofs.YtapicpdfdjofaaaDoor
namespace Go.Proofs.YtapicpdfdjofaaaDoor
open Go.RowKit
open Go.RowKit
open Go.RowKit
def nv (neg:Bool) (v:Value) (e:Int):Value:=.agg #[.bool neg,v,.int .i64 e]
def BoolBelow (b:Bool) (w:World) (e:Ending) (w':World):Prop:=e=.returned (.bool b)∧Below w.heap.size w w'
theorem BoolBelow.mk {a b:Bool} {w w':World} (h:a=b) (hb:Below w.heap.size w w'):BoolBelow b w (.returned (.bool a)) w':=⟨by rw [h],hb⟩
end Go.Proofs.YtapicpdfdjofaaaDoor
namespace Go.Proofs.YtapicpdfdjofaaaDoor
open Go.RowKit Go.Sort
open Go.RowKit Go.Sort
structure NumOk (w:World) (neg:Bool) (ad:Option Addr) (n cap:Nat) (xs:List Nat) (e:Int):Prop where
  len:xs.length=n
  cap:n≤cap
  ok:Okl xs
  rd:Rd w ad xs
  chk:chkB neg xs e=true
theorem NumOk.below {w w':World} {neg:Bool} {ad:Option Addr} {n cap:Nat} {xs:List Nat} {e:Int} (h:NumOk w neg ad n cap xs e) (hb:Below w.heap.size w w'):NumOk w' neg ad n cap xs e :=
  ⟨h.len,h.cap,h.ok,h.rd.below hb,h.chk⟩
theorem NumOk.lo {w:World} {neg:Bool} {ad:Option Addr} {n cap:Nat} {xs:List Nat} {e:Int} (h:NumOk w neg ad n cap xs e):-1200≤e∧e≤1200:=(chkB_bounds h.chk).2
theorem below_drew {B:Nat} {a w:World} (h:Below B a w):Below B a w.drew:=h.trans ⟨rfl,rfl,rfl,Nat.le_refl _,fun _ _=>rfl⟩
end Go.Proofs.YtapicpdfdjofaaaDoor
namespace Go.Proofs.YtapicpdfdjofaaaDoor
open Go.RowKit Go.Shelf
def UT (w:World):Prop:=Lib.Utf8Tabs 1 2 w
theorem UT.below {w w':World} (h:UT w) (hb:Below w.heap.size w w'):UT w':=by
  refine ⟨fun c hc=>?_,fun i hi=>⟨?_,?_⟩⟩
  · have h1:=h.1 c hc
    rw [hb.cell (World.block_lt_of_cell? w _ h1)];exact h1
  · have h1:=(h.2 i hi).1
    rw [hb.cell (World.block_lt_of_cell? w _ h1)];exact h1
  · have h1:=(h.2 i hi).2
    rw [hb.cell (World.block_lt_of_cell? w _ h1)];exact h1
def runeAt (s:ByteArray) (k:Int):Int × Int :=
  if k<0∨(s.size:Int)≤k then (-1,0) else ((runeL (s.data.toList.drop k.toNat)).1,((runeL (s.data.toList.drop k.toNat)).2:Int))
theorem extract_list (s:ByteArray) (k:Nat):(s.extract k s.size).data.toList=s.data.toList.drop k:=by
  rw [ByteArray.data_extract,Array.toList_extract]
  simp [List.extract_eq_take_drop]
  exact List.take_of_length_le (by simp)
theorem decodeGo_drop (s:ByteArray) (k:Nat) (h:k<s.size):Lib.decodeGo (s.extract k s.size)=decL (s.data.toList.drop k):=by
  have hz:(s.extract k s.size).size ≠ 0:=by rw [ByteArray.size_extract];omega
  unfold Lib.decodeGo
  rw [if_neg hz,decode_list]
  congr 1
  rw [List.drop_zero]
  exact extract_list s k
theorem uRune_any (s:ByteArray) (k:Int) (w:World) (hs:s.size≤maxLen) (hk:-9223372036854775808≤k∧k≤9223372036854775807) (hT:UT w) :
    Calls Tryd.prog 85 #[.string s,.int .i64 k] w fun e w'=>e=.returned (.tuple #[.int .i32 (runeAt s k).1,.int .i64 (runeAt s k).2])∧Below w.heap.size w w':=by
  unfold maxLen at hs
  by_cases h0:k<0
  · have e:runeAt s k=(-1,0):=by unfold runeAt;rw [if_pos (.inl h0)]
    rw [e];clear e hT
    go_enter Tryd.func85,Tryd.ntmps85
    go_wp2
    go_ret2
    exact ⟨rfl,Below.refl _ _⟩
  · by_cases h1:(s.size:Int)≤k
    · have e:runeAt s k=(-1,0):=by unfold runeAt;rw [if_pos (.inr h1)]
      rw [e];clear e hT
      go_enter Tryd.func85,Tryd.ntmps85
      go_wp2
      go_ret2
      exact ⟨rfl,Below.refl _ _⟩
    · obtain ⟨n,rfl⟩:∃ n:Nat,k=n:=⟨k.toNat,by omega⟩
      have hn:n<s.size:=by omega
      have e:runeAt s n=((runeL (s.data.toList.drop n)).1,((runeL (s.data.toList.drop n)).2:Int)):=by unfold runeAt;rw [if_neg (by omega)];rfl
      rw [e];clear e
      have hd:=decodeGo_drop s n hn
      have KD:=Lib.hid (Tryd.utf8_DecodeRuneInString (s.extract n s.size) w hT)
      rw [hd] at KD
      clear hT hd
      unfold runeL
      generalize hD:decL (s.data.toList.drop n)=D at *
      obtain ⟨c,m⟩:=D
      clear hD
      have h1':¬ (s.size:Int)≤(n:Int):=h1
      by_cases hc:c=65533
      · subst hc
        by_cases hm:m=1
        · subst hm
          rw [if_pos rfl]
          go_enter Tryd.func85,Tryd.ntmps85
          go_wp2_with fail
          refine KD.out.mono ?_
          rintro r w' ⟨rfl,hb⟩
          have HB:=Lib.hid hb;clear hb
          go_wp2
          go_ret2
          exact ⟨rfl,HB.out⟩
        · rw [if_neg (by intro e;exact hm (congrArg Prod.snd e))]
          have hm':¬ (m:Int)=1:=by omega
          go_enter Tryd.func85,Tryd.ntmps85
          go_wp2_with fail
          refine KD.out.mono ?_
          rintro r w' ⟨rfl,hb⟩
          have HB:=Lib.hid hb;clear hb
          go_wp2
          go_ret2
          exact ⟨rfl,HB.out⟩
      · rw [if_neg (by intro e;exact hc (congrArg Prod.fst e))]
        have hc':¬ (c:Int)=65533:=by omega
        go_enter Tryd.func85,Tryd.ntmps85
        go_wp2_with fail
        refine KD.out.mono ?_
        rintro r w' ⟨rfl,hb⟩
        have HB:=Lib.hid hb;clear hb
        go_wp2
        go_ret2
        exact ⟨rfl,HB.out⟩
def noneAt (s:ByteArray) (k:Int):Bool:=decide ((runeAt s k).1 = -1)
theorem wrong_any (s:ByteArray) (k:Int) (w:World) (hs:s.size≤maxLen) (hk:-9223372036854775808≤k∧k≤9223372036854775807) (hT:UT w) :
    Calls Tryd.prog 72 #[.string s,.int .i64 k] w fun e w'=>e=.returned (.bool (noneAt s k))∧Below w.heap.size w w':=by
  have K:=Lib.hid (uRune_any s k w hs hk hT)
  unfold noneAt
  generalize hR:runeAt s k=R at *
  obtain ⟨c,m⟩:=R
  clear hR hT
  by_cases hc:c = -1
  · subst hc
    go_enter Tryd.func72,Tryd.ntmps72
    go_wp2_with fail
    refine K.out.mono ?_
    rintro r w' ⟨rfl,hb⟩
    have HB:=Lib.hid hb;clear hb
    go_wp2
    go_ret
    exact ⟨rfl,HB.out⟩
  · go_enter Tryd.func72,Tryd.ntmps72
    go_wp2_with fail
    refine K.out.mono ?_
    rintro r w' ⟨rfl,hb⟩
    have HB:=Lib.hid hb;clear hb
    go_wp2
    go_ret
    simp [hc];exact HB.out
def VB (s:ByteArray) (B:Nat) (w:World) (e:Ending) (w':World):Prop :=
  ∃ n:Nat,e=.returned (.int .i64 n)∧n≤s.size∧(n=s.size ↔ validL s.data.toList=true)∧Below B w w'
def RI (s:ByteArray) (B:Nat) (w:World) (pos:Nat) (wr:World):Prop :=
  wr.heap[B]? = some (.stringIter s pos)∧Below B w wr
theorem RI.start (s:ByteArray) (w:World):RI s w.heap.size w 0 (w.iter s 0) :=
  ⟨World.iter_heap w s 0,(Below.refl _ w).alloc (Nat.le_refl _) _⟩
theorem RI.lt {s:ByteArray} {B:Nat} {w:World} {pos:Nat} {wr:World} (h:RI s B w pos wr):B<wr.heap.size:=(Array.getElem?_eq_some_iff.1 h.1).1
theorem RI.next {s:ByteArray} {B:Nat} {w:World} {pos:Nat} {wr:World} (h:RI s B w pos wr) (q:Nat):RI s B w q (wr.iterAt B s q) :=
  ⟨Lib.iterAt_heap wr B s pos q h.1,Lib.below_iterAt h.2 (Nat.le_refl _) s q⟩
theorem RI.below {s:ByteArray} {B:Nat} {w:World} {pos:Nat} {wr w':World} (h:RI s B w pos wr) (hb:Below wr.heap.size wr w'):RI s B w pos w' :=
  ⟨by rw [hb.block B h.lt];exact h.1,h.2.trans (hb.mono (Nat.le_of_lt h.lt))⟩
def tailL (s:ByteArray) (k:Nat):List UInt8:=s.data.toList.drop k
theorem tailL_zero (s:ByteArray):tailL s 0=s.data.toList:=by simp [tailL]
theorem tailL_length (s:ByteArray) (k:Nat):(tailL s k).length=s.size - k:=by simp [tailL]
theorem tailL_ne {s:ByteArray} {k:Nat} (h:k<s.size):tailL s k ≠ []:=by
  intro e;have:=congrArg List.length e;rw [tailL_length] at this;simp only [List.length_nil] at this;omega
theorem tailL_end {s:ByteArray} {k:Nat} (h:s.size≤k):tailL s k=[]:=List.eq_nil_of_length_eq_zero (by rw [tailL_length];omega)
theorem tailL_drop (s:ByteArray) (k m:Nat):(tailL s k).drop m=tailL s (k+m):=by simp [tailL,List.drop_drop]
theorem decode_tail (s:ByteArray) (k:Nat):Utf8.decode s k=decL (tailL s k):=decode_list s k
theorem runeAt_tail {s:ByteArray} {k:Nat} (h:k<s.size):runeAt s k=((runeL (tailL s k)).1,((runeL (tailL s k)).2:Int)):=by
  unfold runeAt;rw [if_neg (by omega)];rfl
theorem noneAt_tail {s:ByteArray} {k:Nat} (h:k<s.size):noneAt s k=decide ((runeL (tailL s k)).1 = -1):=by
  unfold noneAt;rw [runeAt_tail h]
theorem valid_tail {s:ByteArray} {k:Nat} (h:k<s.size):validL (tailL s k)=(decide (0≤(runeL (tailL s k)).1) && validL (tailL s (k+(runeL (tailL s k)).2))):=by
  rw [valid_cons (tailL_ne h),tailL_drop]
theorem rune_not {l:List UInt8} (h:(decL l).1 ≠ 65533):runeL l=(((decL l).1:Int),(decL l).2):=by
  unfold runeL;rw [if_neg];intro e;exact h (congrArg Prod.fst e)
theorem runeL_lo (l:List UInt8):-1≤(runeL l).1:=by unfold runeL;split <;> simp <;> omega
theorem rune_width (l:List UInt8):(runeL l).2=(decL l).2:=by unfold runeL;split;rename_i e;rw [e];rfl
def VR (s:ByteArray) (B:Nat) (w:World) (k:Nat) (e:Value) (wr:World):Prop :=
  ∃ pos,s.size - pos≤k∧e=.int .i64 s.size∧validL s.data.toList=validL (tailL s pos)∧RI s B w pos wr
theorem validBytes_any (s:ByteArray) (w:World) (hs:s.size≤maxLen) (hT:UT w) :
    Calls Tryd.prog 55 #[.string s] w (VB s w.heap.size w):=by
  unfold maxLen at hs
  have HT:=Lib.hid hT;clear hT
  go_enter Tryd.func55,Tryd.ntmps55
  go_wp2
  go_step3
  go_wp2
  go_step3
  go_wp2
  have hst:=RI.start s w
  generalize hB:w.heap.size=B at *
  have HB0:=Lib.hid hB;clear hB
  go_loopg [3] s.size (fun k e wr=>VR s B w k e wr)
  case atStart=>exact ⟨0,by omega,rfl,by rw [tailL_zero],hst⟩
  case round =>
    obtain ⟨pos,hk,rfl,hv,hri⟩:=hrel
    have HV:=Lib.hid hv;clear hv
    by_cases hp:pos<s.size
    · obtain ⟨k,rfl⟩:∃ k,gk=k+1:=⟨gk - 1,by omega⟩
      have hnx:∀ ty,(Instr.next (.pointer (some ⟨B,0,none⟩)) true ty).run Tryd.prog wr=_:=fun ty=>Lib.run_next_any_at wr B s pos ty hri.1 hp
      rw [decode_tail] at hnx
      have hw:=decL_width (tailL s pos) (tailL_ne hp)
      have hvt:=valid_tail hp
      rw [tailL_length] at hw
      have HVT:=Lib.hid hvt;clear hvt
      by_cases hc:(decL (tailL s pos)).1=65533
      · have hri2:=Lib.hid (hri.next (pos+(decL (tailL s pos)).2))
        have hrw:=Lib.hid (rune_width (tailL s pos))
        have hlo:=Lib.hid (runeL_lo (tailL s pos))
        have KW:=Lib.hid (wrong_any s pos (wr.iterAt B s (pos+(decL (tailL s pos)).2)) (by unfold maxLen;omega) (by omega) (HT.out.below (by rw [HB0.out];exact hri2.out.2)))
        rw [noneAt_tail hp] at KW
        generalize hm:(decL (tailL s pos)).2=m at *
        have hnx2:∀ ty,(Instr.next (.pointer (some ⟨B,0,none⟩)) true ty).run Tryd.prog wr=Result.ok (Value.tuple #[Value.bool true,Value.int IntKind.i64 ↑pos,Value.int IntKind.i32 65533]) (wr.iterAt B s (pos+m)):=by
          intro ty;rw [hnx ty,hc];rfl
        clear hnx hc hm
        by_cases hn:(runeL (tailL s pos)).1 = -1
        · have hd:decide ((runeL (tailL s pos)).1 = -1)=true:=decide_eq_true hn
          rw [hd] at KW
          have hbad:=Lib.hid (show validL s.data.toList=false by rw [HV.out,HVT.out,hn];rfl)
          clear hn hd hri
          go_wp2_with fail
          refine KW.out.mono ?_
          rintro r w' ⟨rfl,hb⟩
          have hri3:=Lib.hid (hri2.out.below hb);clear hb
          go_wp2
          rw [Exit.noGoto_ret]
          go_ret
          exact ⟨pos,rfl,by omega,⟨fun h=>absurd h (by omega),fun h=>by rw [hbad.out] at h;cases h⟩,hri3.out.2⟩
        · have hd:decide ((runeL (tailL s pos)).1 = -1)=false:=decide_eq_false hn
          rw [hd] at KW
          have hgo:=Lib.hid (show validL s.data.toList=validL (tailL s (pos+m)) by
            rw [HV.out,HVT.out,hrw.out,decide_eq_true (by have:=hlo.out;omega),Bool.true_and])
          clear hn hd hri
          go_wp2_with fail
          refine KW.out.mono ?_
          rintro r w' ⟨rfl,hb⟩
          have hri3:=Lib.hid (hri2.out.below hb);clear hb
          go_wp2
          go_roundg k
          case rel=>exact ⟨pos+m,by omega,rfl,hgo.out,hri3.out⟩
          case measure=>omega
      · have hc':¬ ((decL (tailL s pos)).1:Int)=65533:=by omega
        have hr:=rune_not hc
        have hgo:=Lib.hid (show validL s.data.toList=validL (tailL s (pos+(decL (tailL s pos)).2)) by
          rw [HV.out,HVT.out,hr,decide_eq_true (by simp),Bool.true_and])
        clear hr
        generalize hD:decL (tailL s pos)=D at *
        obtain ⟨c,m⟩:=D
        simp only at hnx hc hc' hw
        have hri2:=Lib.hid (hri.next (pos+m))
        clear hD hri
        go_wp2
        go_roundg k
        case rel=>exact ⟨pos+m,by omega,rfl,hgo.out,hri2.out⟩
        case measure=>omega
    · have hnx:∀ ty,(Instr.next (.pointer (some ⟨B,0,none⟩)) true ty).run Tryd.prog wr=_:=fun ty=>Lib.run_next_end_at wr B s pos ty hri.1 hp
      have hok:=Lib.hid (show validL s.data.toList=true by rw [HV.out,tailL_end (by omega)];rfl)
      have hb:=Lib.hid hri.2
      clear hri
      go_wp2
      rw [Exit.noGoto_ret]
      go_ret
      exact ⟨s.size,rfl,Nat.le_refl _,⟨fun _=>hok.out,fun _=>rfl⟩,hb.out⟩
theorem valid_any (s:ByteArray) (w:World) (hs:s.size≤maxLen) (hT:UT w) :
    Calls Tryd.prog 34 #[.string s] w fun e w'=>e=.returned (.bool (validL s.data.toList))∧Below w.heap.size w w':=by
  have K:=Lib.hid (validBytes_any s w hs hT)
  unfold maxLen at hs
  clear hT
  cases hv:validL s.data.toList
  · have HV:=Lib.hid hv;clear hv
    go_enter Tryd.func34,Tryd.ntmps34
    go_wp2_with fail
    refine K.out.mono ?_
    rintro r w' ⟨n,rfl,h1,h2,hb⟩
    have hn:¬ (n:Int)=(s.size:Int):=by
      intro e
      have e':n=s.size:=by omega
      have:=h2.1 e'
      rw [HV.out] at this;cases this
    have HB:=Lib.hid hb
    clear h2 hb
    go_wp2
    go_ret
    exact ⟨by simp;omega,HB.out⟩
  · have HV:=Lib.hid hv;clear hv
    go_enter Tryd.func34,Tryd.ntmps34
    go_wp2_with fail
    refine K.out.mono ?_
    rintro r w' ⟨n,rfl,h1,h2,hb⟩
    have hn:=h2.2 HV.out
    have HB:=Lib.hid hb
    clear h2 hb h1
    subst hn
    go_wp2
    go_ret
    exact ⟨by simp,HB.out⟩
end Go.Proofs.YtapicpdfdjofaaaDoor
