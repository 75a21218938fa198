/- Texts of the claim. -/
import Derived.Test.YtnacbakcalcgaaaGreatDoorEk
import Derived.Test.YtnacbakcalcgaaaGreatDoorShelf
import Derived.Test.YtnacbakcalcgaaaGreatDoorRows
import Derived.Below
import Derived.WalkKit
import Derived.WalkMore
import Derived.WalkSpells
import Derived.WalkLawsBesides
import Derived.Deep.QuietTactic
import Derived.BigQuiet
import Derived.Lib.Hide
import Derived.Lib.Strings
import Derived.Deep.LoopGhost
import Derived.Lib.OthersKept
import Derived.Test.YtnacbakcalcgaaaGreatDoorEi
import Derived.OwnWalk
import Derived.Laws.AppendOwn
import Derived.Laws.MakeOwn
import Derived.Laws.CopyOwn
import Derived.Deep.OwnRows
import Derived.Laws.AppendOwnNone
set_option linter.unusedVariables false
set_option linter.unusedSimpArgs false
set_option maxHeartbeats 1000000
set_option maxRecDepth 100000
namespace Go.Proofs.YtnacbakcalcgaaaGreatDoor
open Go.RowKit Go.Shelf
def UT (w:World):Prop:=Lib.Utf8Tabs 1 2 w
theorem UT.below {w w':World} (h:UT w) (hb:Below w.heap.size w w'):UT w':=by
  refine ⟨fun c hc=>?_,fun i hi=>⟨?_,?_⟩⟩
  · have h1:=h.1 c hc
    rw [hb.cell (World.block_lt_of_cell? w _ h1)];exact h1
  · have h1:=(h.2 i hi).1
    rw [hb.cell (World.block_lt_of_cell? w _ h1)];exact h1
  · have h1:=(h.2 i hi).2
    rw [hb.cell (World.block_lt_of_cell? w _ h1)];exact h1
def runeAt (s:ByteArray) (k:Int):Int × Int :=
  if k<0∨(s.size:Int)≤k then (-1,0) else ((runeL (s.data.toList.drop k.toNat)).1,((runeL (s.data.toList.drop k.toNat)).2:Int))
theorem extract_list (s:ByteArray) (k:Nat):(s.extract k s.size).data.toList=s.data.toList.drop k:=by
  rw [ByteArray.data_extract,Array.toList_extract]
  simp [List.extract_eq_take_drop]
  exact List.take_of_length_le (by simp)
theorem decodeGo_drop (s:ByteArray) (k:Nat) (h:k<s.size):Lib.decodeGo (s.extract k s.size)=decL (s.data.toList.drop k):=by
  have hz:(s.extract k s.size).size ≠ 0:=by rw [ByteArray.size_extract];omega
  unfold Lib.decodeGo
  rw [if_neg hz,decode_list]
  congr 1
  rw [List.drop_zero]
  exact extract_list s k
theorem uRune_any (s:ByteArray) (k:Int) (w:World) (hs:s.size≤maxLen) (hk:-9223372036854775808≤k∧k≤9223372036854775807) (hT:UT w) :
    Calls Tryz.prog 201 #[.string s,.int .i64 k] w fun e w'=>e=.returned (.tuple #[.int .i32 (runeAt s k).1,.int .i64 (runeAt s k).2])∧Below w.heap.size w w':=by
  unfold maxLen at hs
  by_cases h0:k<0
  · have e:runeAt s k=(-1,0):=by unfold runeAt;rw [if_pos (.inl h0)]
    rw [e];clear e hT
    go_enter Tryz.func201,Tryz.ntmps201
    go_wp2
    go_ret2
    exact ⟨rfl,Below.refl _ _⟩
  · by_cases h1:(s.size:Int)≤k
    · have e:runeAt s k=(-1,0):=by unfold runeAt;rw [if_pos (.inr h1)]
      rw [e];clear e hT
      go_enter Tryz.func201,Tryz.ntmps201
      go_wp2
      go_ret2
      exact ⟨rfl,Below.refl _ _⟩
    · obtain ⟨n,rfl⟩:∃ n:Nat,k=n:=⟨k.toNat,by omega⟩
      have hn:n<s.size:=by omega
      have e:runeAt s n=((runeL (s.data.toList.drop n)).1,((runeL (s.data.toList.drop n)).2:Int)):=by unfold runeAt;rw [if_neg (by omega)];rfl
      rw [e];clear e
      have hd:=decodeGo_drop s n hn
      have KD:=Lib.hid (Tryz.utf8_DecodeRuneInString (s.extract n s.size) w hT)
      rw [hd] at KD
      clear hT hd
      unfold runeL
      generalize hD:decL (s.data.toList.drop n)=D at *
      obtain ⟨c,m⟩:=D
      clear hD
      have h1':¬ (s.size:Int)≤(n:Int):=h1
      by_cases hc:c=65533
      · subst hc
        by_cases hm:m=1
        · subst hm
          rw [if_pos rfl]
          go_enter Tryz.func201,Tryz.ntmps201
          go_wp2_with fail
          refine KD.out.mono ?_
          rintro r w' ⟨rfl,hb⟩
          have HB:=Lib.hid hb;clear hb
          go_wp2
          go_ret2
          exact ⟨rfl,HB.out⟩
        · rw [if_neg (by intro e;exact hm (congrArg Prod.snd e))]
          have hm':¬ (m:Int)=1:=by omega
          go_enter Tryz.func201,Tryz.ntmps201
          go_wp2_with fail
          refine KD.out.mono ?_
          rintro r w' ⟨rfl,hb⟩
          have HB:=Lib.hid hb;clear hb
          go_wp2
          go_ret2
          exact ⟨rfl,HB.out⟩
      · rw [if_neg (by intro e;exact hc (congrArg Prod.fst e))]
        have hc':¬ (c:Int)=65533:=by omega
        go_enter Tryz.func201,Tryz.ntmps201
        go_wp2_with fail
        refine KD.out.mono ?_
        rintro r w' ⟨rfl,hb⟩
        have HB:=Lib.hid hb;clear hb
        go_wp2
        go_ret2
        exact ⟨rfl,HB.out⟩
def noneAt (s:ByteArray) (k:Int):Bool:=decide ((runeAt s k).1 = -1)
theorem wrong_any (s:ByteArray) (k:Int) (w:World) (hs:s.size≤maxLen) (hk:-9223372036854775808≤k∧k≤9223372036854775807) (hT:UT w) :
    Calls Tryz.prog 178 #[.string s,.int .i64 k] w fun e w'=>e=.returned (.bool (noneAt s k))∧Below w.heap.size w w':=by
  have K:=Lib.hid (uRune_any s k w hs hk hT)
  unfold noneAt
  generalize hR:runeAt s k=R at *
  obtain ⟨c,m⟩:=R
  clear hR hT
  by_cases hc:c = -1
  · subst hc
    go_enter Tryz.func178,Tryz.ntmps178
    go_wp2_with fail
    refine K.out.mono ?_
    rintro r w' ⟨rfl,hb⟩
    have HB:=Lib.hid hb;clear hb
    go_wp2
    go_ret
    exact ⟨rfl,HB.out⟩
  · go_enter Tryz.func178,Tryz.ntmps178
    go_wp2_with fail
    refine K.out.mono ?_
    rintro r w' ⟨rfl,hb⟩
    have HB:=Lib.hid hb;clear hb
    go_wp2
    go_ret
    simp [hc];exact HB.out
def VB (s:ByteArray) (B:Nat) (w:World) (e:Ending) (w':World):Prop :=
  ∃ n:Nat,e=.returned (.int .i64 n)∧n≤s.size∧(n=s.size ↔ validL s.data.toList=true)∧Below B w w'
def RI (s:ByteArray) (B:Nat) (w:World) (pos:Nat) (wr:World):Prop :=
  wr.heap[B]? = some (.stringIter s pos)∧Below B w wr
theorem RI.start (s:ByteArray) (w:World):RI s w.heap.size w 0 (w.iter s 0) :=
  ⟨World.iter_heap w s 0,(Below.refl _ w).alloc (Nat.le_refl _) _⟩
theorem RI.lt {s:ByteArray} {B:Nat} {w:World} {pos:Nat} {wr:World} (h:RI s B w pos wr):B<wr.heap.size:=(Array.getElem?_eq_some_iff.1 h.1).1
theorem RI.next {s:ByteArray} {B:Nat} {w:World} {pos:Nat} {wr:World} (h:RI s B w pos wr) (q:Nat):RI s B w q (wr.iterAt B s q) :=
  ⟨Lib.iterAt_heap wr B s pos q h.1,Lib.below_iterAt h.2 (Nat.le_refl _) s q⟩
theorem RI.below {s:ByteArray} {B:Nat} {w:World} {pos:Nat} {wr w':World} (h:RI s B w pos wr) (hb:Below wr.heap.size wr w'):RI s B w pos w' :=
  ⟨by rw [hb.block B h.lt];exact h.1,h.2.trans (hb.mono (Nat.le_of_lt h.lt))⟩
theorem RI.pos {s:ByteArray} {B:Nat} {w:World} {pos:Nat} {wr:World} (h:RI s B w pos wr):wr.iterPos B=pos:=by
  simp [World.iterPos,h.1]
def tailL (s:ByteArray) (k:Nat):List UInt8:=s.data.toList.drop k
theorem tailL_zero (s:ByteArray):tailL s 0=s.data.toList:=by simp [tailL]
theorem tailL_length (s:ByteArray) (k:Nat):(tailL s k).length=s.size - k:=by simp [tailL]
theorem tailL_ne {s:ByteArray} {k:Nat} (h:k<s.size):tailL s k ≠ []:=by
  intro e;have:=congrArg List.length e;rw [tailL_length] at this;simp only [List.length_nil] at this;omega
theorem tailL_end {s:ByteArray} {k:Nat} (h:s.size≤k):tailL s k=[]:=List.eq_nil_of_length_eq_zero (by rw [tailL_length];omega)
theorem tailL_drop (s:ByteArray) (k m:Nat):(tailL s k).drop m=tailL s (k+m):=by simp [tailL,List.drop_drop]
theorem decode_tail (s:ByteArray) (k:Nat):Utf8.decode s k=decL (tailL s k):=decode_list s k
theorem runeAt_tail {s:ByteArray} {k:Nat} (h:k<s.size):runeAt s k=((runeL (tailL s k)).1,((runeL (tailL s k)).2:Int)):=by
  unfold runeAt;rw [if_neg (by omega)];rfl
theorem noneAt_tail {s:ByteArray} {k:Nat} (h:k<s.size):noneAt s k=decide ((runeL (tailL s k)).1 = -1):=by
  unfold noneAt;rw [runeAt_tail h]
theorem valid_tail {s:ByteArray} {k:Nat} (h:k<s.size):validL (tailL s k)=(decide (0≤(runeL (tailL s k)).1) && validL (tailL s (k+(runeL (tailL s k)).2))):=by
  rw [valid_cons (tailL_ne h),tailL_drop]
theorem rune_not {l:List UInt8} (h:(decL l).1 ≠ 65533):runeL l=(((decL l).1:Int),(decL l).2):=by
  unfold runeL;rw [if_neg];intro e;exact h (congrArg Prod.fst e)
theorem runeL_lo (l:List UInt8):-1≤(runeL l).1:=by unfold runeL;split <;> simp <;> omega
theorem rune_width (l:List UInt8):(runeL l).2=(decL l).2:=by unfold runeL;split;rename_i e;rw [e];rfl
def VR (s:ByteArray) (B:Nat) (w:World) (k:Nat) (e:Value) (wr:World):Prop :=
  ∃ pos,s.size - pos≤k∧e=.int .i64 s.size∧validL s.data.toList=validL (tailL s pos)∧RI s B w pos wr
theorem validBytes_any (s:ByteArray) (w:World) (hs:s.size≤maxLen) (hT:UT w) :
    Calls Tryz.prog 143 #[.string s] w (VB s w.heap.size w):=by
  unfold maxLen at hs
  have HT:=Lib.hid hT;clear hT
  go_enter Tryz.func143,Tryz.ntmps143
  go_wp2
  go_step3
  go_wp2
  go_step3
  go_wp2
  have hst:=RI.start s w
  generalize hB:w.heap.size=B at *
  have HB0:=Lib.hid hB;clear hB
  go_loopg [3] s.size (fun k e wr=>VR s B w k e wr)
  case atStart=>exact ⟨0,by omega,rfl,by rw [tailL_zero],hst⟩
  case round =>
    obtain ⟨pos,hk,rfl,hv,hri⟩:=hrel
    have HV:=Lib.hid hv;clear hv
    by_cases hp:pos<s.size
    · obtain ⟨k,rfl⟩:∃ k,gk=k+1:=⟨gk - 1,by omega⟩
      have hnx:∀ ty,(Instr.next (.pointer (some ⟨B,0,none⟩)) true ty).run Tryz.prog wr=_:=fun ty=>Lib.run_next_any_at wr B s pos ty hri.1 hp
      rw [decode_tail] at hnx
      have hw:=decL_width (tailL s pos) (tailL_ne hp)
      have hvt:=valid_tail hp
      rw [tailL_length] at hw
      have HVT:=Lib.hid hvt;clear hvt
      by_cases hc:(decL (tailL s pos)).1=65533
      · have hri2:=Lib.hid (hri.next (pos+(decL (tailL s pos)).2))
        have hrw:=Lib.hid (rune_width (tailL s pos))
        have hlo:=Lib.hid (runeL_lo (tailL s pos))
        have KW:=Lib.hid (wrong_any s pos (wr.iterAt B s (pos+(decL (tailL s pos)).2)) (by unfold maxLen;omega) (by omega) (HT.out.below (by rw [HB0.out];exact hri2.out.2)))
        rw [noneAt_tail hp] at KW
        generalize hm:(decL (tailL s pos)).2=m at *
        have hnx2:∀ ty,(Instr.next (.pointer (some ⟨B,0,none⟩)) true ty).run Tryz.prog wr=Result.ok (Value.tuple #[Value.bool true,Value.int IntKind.i64 ↑pos,Value.int IntKind.i32 65533]) (wr.iterAt B s (pos+m)):=by
          intro ty;rw [hnx ty,hc];rfl
        clear hnx hc hm
        by_cases hn:(runeL (tailL s pos)).1 = -1
        · have hd:decide ((runeL (tailL s pos)).1 = -1)=true:=decide_eq_true hn
          rw [hd] at KW
          have hbad:=Lib.hid (show validL s.data.toList=false by rw [HV.out,HVT.out,hn];rfl)
          clear hn hd hri
          go_wp2_with fail
          refine KW.out.mono ?_
          rintro r w' ⟨rfl,hb⟩
          have hri3:=Lib.hid (hri2.out.below hb);clear hb
          go_wp2
          rw [Exit.noGoto_ret]
          go_ret
          exact ⟨pos,rfl,by omega,⟨fun h=>absurd h (by omega),fun h=>by rw [hbad.out] at h;cases h⟩,hri3.out.2⟩
        · have hd:decide ((runeL (tailL s pos)).1 = -1)=false:=decide_eq_false hn
          rw [hd] at KW
          have hgo:=Lib.hid (show validL s.data.toList=validL (tailL s (pos+m)) by
            rw [HV.out,HVT.out,hrw.out,decide_eq_true (by have:=hlo.out;omega),Bool.true_and])
          clear hn hd hri
          go_wp2_with fail
          refine KW.out.mono ?_
          rintro r w' ⟨rfl,hb⟩
          have hri3:=Lib.hid (hri2.out.below hb);clear hb
          go_wp2
          go_roundg k
          case rel=>exact ⟨pos+m,by omega,rfl,hgo.out,hri3.out⟩
          case measure=>omega
      · have hc':¬ ((decL (tailL s pos)).1:Int)=65533:=by omega
        have hr:=rune_not hc
        have hgo:=Lib.hid (show validL s.data.toList=validL (tailL s (pos+(decL (tailL s pos)).2)) by
          rw [HV.out,HVT.out,hr,decide_eq_true (by simp),Bool.true_and])
        clear hr
        generalize hD:decL (tailL s pos)=D at *
        obtain ⟨c,m⟩:=D
        simp only at hnx hc hc' hw
        have hri2:=Lib.hid (hri.next (pos+m))
        clear hD hri
        go_wp2
        go_roundg k
        case rel=>exact ⟨pos+m,by omega,rfl,hgo.out,hri2.out⟩
        case measure=>omega
    · have hnx:∀ ty,(Instr.next (.pointer (some ⟨B,0,none⟩)) true ty).run Tryz.prog wr=_:=fun ty=>Lib.run_next_end_at wr B s pos ty hri.1 hp
      have hok:=Lib.hid (show validL s.data.toList=true by rw [HV.out,tailL_end (by omega)];rfl)
      have hb:=Lib.hid hri.2
      clear hri
      go_wp2
      rw [Exit.noGoto_ret]
      go_ret
      exact ⟨s.size,rfl,Nat.le_refl _,⟨fun _=>hok.out,fun _=>rfl⟩,hb.out⟩
theorem valid_any (s:ByteArray) (w:World) (hs:s.size≤maxLen) (hT:UT w) :
    Calls Tryz.prog 103 #[.string s] w fun e w'=>e=.returned (.bool (validL s.data.toList))∧Below w.heap.size w w':=by
  have K:=Lib.hid (validBytes_any s w hs hT)
  unfold maxLen at hs
  clear hT
  cases hv:validL s.data.toList
  · have HV:=Lib.hid hv;clear hv
    go_enter Tryz.func103,Tryz.ntmps103
    go_wp2_with fail
    refine K.out.mono ?_
    rintro r w' ⟨n,rfl,h1,h2,hb⟩
    have hn:¬ (n:Int)=(s.size:Int):=by
      intro e
      have e':n=s.size:=by omega
      have:=h2.1 e'
      rw [HV.out] at this;cases this
    have HB:=Lib.hid hb
    clear h2 hb
    go_wp2
    go_ret
    exact ⟨by simp;omega,HB.out⟩
  · have HV:=Lib.hid hv;clear hv
    go_enter Tryz.func103,Tryz.ntmps103
    go_wp2_with fail
    refine K.out.mono ?_
    rintro r w' ⟨n,rfl,h1,h2,hb⟩
    have hn:=h2.2 HV.out
    have HB:=Lib.hid hb
    clear h2 hb h1
    subst hn
    go_wp2
    go_ret
    exact ⟨by simp,HB.out⟩
end Go.Proofs.YtnacbakcalcgaaaGreatDoor
namespace Go.Proofs.YtnacbakcalcgaaaGreatDoor
open Go.RowKit
theorem below_drewN {B:Nat} {a w:World} (h:Below B a w) (n:Nat):Below B a (w.drewN n):=h.trans ⟨rfl,rfl,rfl,Nat.le_refl _,fun _ _=>rfl⟩
def RdV (w:World) (ad:Option Addr) (vs:List Value):Prop :=
  ∀ i,i<vs.length→∃ b o,ad=some ⟨b,o,none⟩∧b<w.heap.size∧w.cell? ⟨b,o+i,none⟩=vs[i]?
theorem RdV.nil (w:World) (ad:Option Addr):RdV w ad []:=by intro i h;simp at h
theorem RdV.at {w:World} {b o:Nat} {vs:List Value} (h:RdV w (some ⟨b,o,none⟩) vs) (i:Nat) (hi:i<vs.length):w.cell? ⟨b,o+i,none⟩=vs[i]?:=by
  obtain ⟨b',o',e,_,hc⟩:=h i hi
  cases e;exact hc
theorem RdV.shape {w:World} {ad:Option Addr} {vs:List Value} (h:RdV w ad vs) (hp:0<vs.length):∃ b o,ad=some ⟨b,o,none⟩∧b<w.heap.size:=by
  obtain ⟨b,o,e,hb,_⟩:=h 0 hp
  exact ⟨b,o,e,hb⟩
theorem RdV.take {w:World} {ad:Option Addr} {vs:List Value} (h:RdV w ad vs) (n:Nat):RdV w ad (vs.take n):=by
  intro i hi
  rw [List.length_take] at hi
  obtain ⟨b,o,e,hb,hc⟩:=h i (by omega)
  exact ⟨b,o,e,hb,by rw [hc,List.getElem?_take];simp [show i<n by omega]⟩
theorem RdV.drop {w:World} {b o:Nat} {vs:List Value} (h:RdV w (some ⟨b,o,none⟩) vs) (k:Nat):RdV w (some ⟨b,o+k,none⟩) (vs.drop k):=by
  intro i hi
  rw [List.length_drop] at hi
  obtain ⟨b',o',e,hb,hc⟩:=h (k+i) (by omega)
  cases e
  exact ⟨b,o+k,rfl,hb,by rw [Nat.add_assoc,hc,List.getElem?_drop]⟩
theorem RdV.below {w w':World} {ad:Option Addr} {vs:List Value} (h:RdV w ad vs) {B:Nat} (hb:Below B w w') (hB:∀ a,ad=some a→0<vs.length→a.block<B):RdV w' ad vs:=by
  intro i hi
  obtain ⟨b,o,e,hlt,hc⟩:=h i hi
  have hbb:b<B:=hB _ e (by omega)
  exact ⟨b,o,e,Nat.lt_of_lt_of_le hlt hb.size,by rw [hb.cell (p:=⟨b,o+i,none⟩) hbb];exact hc⟩
theorem RdV.on {w w':World} {ad:Option Addr} {vs:List Value} (h:RdV w ad vs) (hb:Below w.heap.size w w'):RdV w' ad vs :=
  h.below hb fun a e hp=>by obtain ⟨b,o,e',hlt,_⟩:=h 0 hp;rw [e] at e';cases e';exact hlt
theorem RdV.lt {w:World} {ad:Option Addr} {vs:List Value} (h:RdV w ad vs) (a:Addr) (e:ad=some a) (hp:0<vs.length):a.block<w.heap.size:=by
  obtain ⟨b,o,e',hb⟩:=h.shape hp
  rw [e] at e';cases e';exact hb
def BlkV (w:World) (g:Nat) (e:TypeId) (vs:List Value):Prop:=w.heap[g]? = some (.cells vs.toArray e (0,0))
theorem BlkV.lt {w:World} {g:Nat} {e:TypeId} {vs:List Value} (h:BlkV w g e vs):g<w.heap.size:=by
  rcases Nat.lt_or_ge g w.heap.size with h1 | h1
  · exact h1
  · rw [BlkV,Array.getElem?_eq_none h1] at h;cases h
theorem BlkV.cell {w:World} {g:Nat} {e:TypeId} {vs:List Value} (h:BlkV w g e vs) (i:Nat):w.cell? ⟨g,i,none⟩=vs[i]?:=by
  unfold BlkV at h
  simp [World.cell?,h]
theorem BlkV.free {w:World} {g:Nat} {e:TypeId} {vs:List Value} (h:BlkV w g e vs) (i:Nat):w.frozen? ⟨g,i,none⟩=false:=by
  unfold BlkV at h
  simp [World.frozen?,h]
theorem BlkV.rd {w:World} {g:Nat} {e:TypeId} {vs:List Value} (h:BlkV w g e vs) (o n:Nat):RdV w (some ⟨g,o,none⟩) ((vs.drop o).take n):=by
  intro i hi
  rw [List.length_take,List.length_drop] at hi
  refine ⟨g,o,rfl,h.lt,?_⟩
  rw [h.cell (o+i),List.getElem?_take,List.getElem?_drop]
  simp [show i<n by omega]
theorem BlkV.all {w:World} {g:Nat} {e:TypeId} {vs:List Value} (h:BlkV w g e vs):RdV w (some ⟨g,0,none⟩) vs:=by
  have:=h.rd 0 vs.length
  simpa using this
theorem BlkV.set {w:World} {g:Nat} {e:TypeId} {vs:List Value} (h:BlkV w g e vs) (i:Nat) (v:Value):BlkV (w.setCell ⟨g,i,none⟩ v) g e (vs.set i v):=by
  have hlt:=h.lt
  unfold BlkV at h ⊢
  simp only [World.setCell,Array.getElem?_modify,h]
  simp
theorem BlkV.drewN {w:World} {g:Nat} {e:TypeId} {vs:List Value} (h:BlkV w g e vs) (q:Nat):BlkV (w.drewN q) g e vs:=h
theorem BlkV.below {w w':World} {g:Nat} {e:TypeId} {vs:List Value} (h:BlkV w g e vs) {B:Nat} (hb:Below B w w') (hg:g<B):BlkV w' g e vs:=by
  unfold BlkV;rw [hb.block g hg];exact h
structure But (g:Nat) (w w':World):Prop where
  os:w'.os=w.os
  tape:w'.tape=w.tape
  output:w'.output=w.output
  size:w.heap.size≤w'.heap.size
  block:∀ k,k<w.heap.size→k ≠ g→w'.heap[k]? = w.heap[k]?
theorem But.refl (g:Nat) (w:World):But g w w:=⟨rfl,rfl,rfl,Nat.le_refl _,fun _ _ _=>rfl⟩
theorem But.trans {g:Nat} {a b c:World} (h:But g a b) (k:But g b c):But g a c :=
  ⟨k.os.trans h.os,k.tape.trans h.tape,k.output.trans h.output,Nat.le_trans h.size k.size,fun i hi hn=>(k.block i (Nat.lt_of_lt_of_le hi h.size) hn).trans (h.block i hi hn)⟩
theorem But.of_below {g:Nat} {w w':World} (h:Below w.heap.size w w'):But g w w':=⟨h.os,h.tape,h.output,h.size,fun k hk _=>h.block k hk⟩
theorem But.drewN {g:Nat} {a w:World} (h:But g a w) (n:Nat):But g a (w.drewN n):=h.trans ⟨rfl,rfl,rfl,Nat.le_refl _,fun _ _ _=>rfl⟩
theorem But.setCell {g:Nat} {a w:World} (h:But g a w) (i:Nat) (v:Value):But g a (w.setCell ⟨g,i,none⟩ v) :=
  h.trans ⟨rfl,rfl,rfl,by simp [World.setCell],fun k _ hn=>Below.heap_setCell _ _ _ _ hn⟩
theorem But.below {g:Nat} {w w':World} (h:But g w w') {B:Nat} (hg:B≤g) (hB:B≤w.heap.size):Below B w w' :=
  ⟨h.os,h.tape,h.output,h.size,fun k hk=>h.block k (by omega) (by omega)⟩
theorem But.blk {g k:Nat} {w w':World} (h:But g w w') {e:TypeId} {vs:List Value} (hb:BlkV w k e vs) (hk:k ≠ g):BlkV w' k e vs:=by
  unfold BlkV;rw [h.block k hb.lt hk];exact hb
theorem But.rd {g:Nat} {w w':World} (h:But g w w') {ad:Option Addr} {vs:List Value} (hr:RdV w ad vs) (hn:∀ a,ad=some a→0<vs.length→a.block ≠ g):RdV w' ad vs:=by
  intro i hi
  obtain ⟨b,o,e,hlt,hc⟩:=hr i hi
  exact ⟨b,o,e,Nat.lt_of_lt_of_le hlt h.size,by rw [World.cell?_of_block (w:=w) (h.block b hlt (hn _ e (by omega)))];exact hc⟩
def iv (n:Nat):Value:=.int .i64 (n:Int)
theorem iv_get (l:List Nat) (i:Nat) (hi:i<l.length):(l.map iv)[i]? = some (.int .i64 ((l.getD i 0:Nat):Int)):=by
  simp [List.getD,hi,iv]
def sv (l:List ByteArray):List Value:=l.map Value.string
theorem sv_get (l:List ByteArray) (i:Nat) (hi:i<l.length):(sv l)[i]? = some (.string (l.getD i ByteArray.empty)):=by
  simp [List.getD,hi,sv]
theorem sv_len (l:List ByteArray):(sv l).length=l.length:=by simp [sv]
theorem info_int:(Tryz.prog.info? 3).map (fun i=>(i.zero,i.size,i.bytes))=some (some (.int .i64 0),1,8):=by kernel_rfl
theorem made_blk (w:World) (z:Value) (n:Nat) (e:TypeId):BlkV (w.alloc (.cells (madeCells #[z] n) e)) w.heap.size e (List.replicate n z):=by
  unfold BlkV
  rw [heap_alloc_new]
  congr 2
  apply Array.ext
  · simp [madeCells]
  · intro i h1 h2;simp [madeCells,Nat.mod_one]
theorem rep_iv (n:Nat):List.replicate n (Value.int .i64 0)=(List.replicate n 0).map iv:=by simp [iv]
theorem own_view {w:World} {B:Nat} {e:TypeId} {v:Value} {n:Nat} {vs:List Value} (h:w.ownsRow B e 1 v n vs) :
    ∃ ad cap,v=.slice ad n cap∧n≤cap∧RdV w ad vs∧vs.length=n∧∀ a,ad=some a→B≤a.block∧a.block<w.heap.size:=by
  have hl:vs.length=n:=by have:=h.1;omega
  rcases h.2 with ⟨rfl,h0⟩ | ⟨g,cap,cur,rfl,hB,hg,hc,hm,hs,ht⟩
  · subst h0
    have:vs=[]:=List.eq_nil_of_length_eq_zero hl
    subst this
    exact ⟨none,0,rfl,Nat.le_refl _,RdV.nil _ _,rfl,fun a h=>by cases h⟩
  · have hlt:g<w.heap.size:=(Array.getElem?_eq_some_iff.1 hg).1
    refine ⟨_,cap,rfl,hc,?_,hl,fun a h=>by cases h;exact ⟨hB,hlt⟩⟩
    intro i hi
    refine ⟨g,0,rfl,hlt,?_⟩
    have hv:vs[i]? = some vs[i]:=List.getElem?_eq_getElem hi
    have:=World.ownsRow.cells h (g:=g) rfl i vs[i] hv
    have hadd:(⟨g,0,none⟩:Addr).add i=⟨g,0+i,none⟩:=by unfold Addr.add;split <;> simp_all
    rw [hadd] at this
    rw [this,hv]
section
variable {t e : TypeId} {z : Value} {bytes : Nat}
end
theorem info_string:(Tryz.prog.info? 9).map (fun i=>(i.zero,i.size,i.bytes))=some (some (.string ByteArray.empty),1,16):=by kernel_rfl
structure Cel where
  k:Int
  b:Bool
  neg:Bool
  ma:Option Addr
  mn:Nat
  mc:Nat
  e:Int
  s:ByteArray
  ka:Option Addr
  kn:Nat
  kc:Nat
  va:Option Addr
  vn:Nat
  vc:Nat
def Cel.cells (c:Cel):List Value:=[.int .i64 c.k,.bool c.b,.bool c.neg,(.slice c.ma c.mn c.mc),.int .i64 c.e,.string c.s,(.slice c.ka c.kn c.kc),(.slice c.va c.vn c.vc)]
def Cel.val (c:Cel):Value:=.agg #[.int .i64 c.k,.bool c.b,.bool c.neg,(.slice c.ma c.mn c.mc),.int .i64 c.e,.string c.s,(.slice c.ka c.kn c.kc),(.slice c.va c.vn c.vc)]
def flat (l:List Cel):List Value:=l.flatMap Cel.cells
theorem flat_len (l:List Cel):(flat l).length=l.length*8:=by
  induction l with
  | nil=>rfl
  | cons c l ih=>simp only [flat,List.flatMap_cons,List.length_append] at ih ⊢;rw [ih];simp [Cel.cells];omega
theorem flat_get (l:List Cel) (i j:Nat) (hi:i<l.length) (hj:j<8):(flat l)[i*8+j]? = l[i].cells[j]?:=by
  induction l generalizing i with
  | nil=>simp at hi
  | cons c l ih =>
    simp only [flat,List.flatMap_cons]
    cases i with
    | zero=>rw [Nat.zero_mul,Nat.zero_add,List.getElem?_append_left (by simp [Cel.cells];omega)];rfl
    | succ i =>
      rw [List.getElem?_append_right (by simp [Cel.cells];omega)]
      have:(i+1)*8+j - c.cells.length=i*8+j:=by simp [Cel.cells];omega
      rw [this]
      simp only [List.length_cons] at hi
      exact ih i (by omega)
def zeroC:Cel:=⟨0,false,false,none,0,0,0,ByteArray.empty,none,0,0,none,0,0⟩
theorem info_tree:(Tryz.prog.info? 29).map (fun i=>(i.zero,i.size,i.bytes))=some (some zeroC.val,8,120):=by kernel_rfl
theorem flat_rep (c:Cel) (n:Nat):flat (List.replicate n c)=(List.range (n*8)).map fun i=>c.cells.getD (i % 8) default:=by
  apply List.ext_getElem?
  intro q
  by_cases h:q<n*8
  · have h1:=flat_get (List.replicate n c) (q / 8) (q % 8) (by simp;omega) (Nat.mod_lt _ (by decide))
    rw [show q / 8*8+q % 8=q by omega] at h1
    rw [h1]
    have h8:q % 8<c.cells.length:=Nat.mod_lt _ (by decide)
    simp [h,List.getD,h8]
  · rw [List.getElem?_eq_none (by rw [flat_len];simp;omega),List.getElem?_eq_none (by simp;omega)]
theorem made_trees (n:Nat):(madeCells zeroC.val.cells (n*8)).toList=flat (List.replicate n zeroC):=by
  rw [flat_rep]
  simp only [madeCells]
  apply List.ext_getElem
  · simp
  · intro i h1 h2
    simp [zeroC,Cel.val,Cel.cells,Value.cells]
theorem wpl_make_trees (w:World) {ops:Array Oper} {rest:List Oper} {o:Oper} {a:Act} {Q:Exit→Act→World→Prop}
    (hg:o.guard=none) (l c:Operand) (hop:o.op=Op.makeSlice 27 l c) (kl kc:IntKind) (L C:Int) (n:Nat)
    (hl:a.eval l=.int kl L) (hc:a.eval c=.int kc C) (hL:L=(n:Int)) (hC:C=(n:Int)) (hn:n≤1000000000000)
    (hK:∀ w',BlkV w' w.heap.size 29 (flat (List.replicate n zeroC))→Below w.heap.size w w'→wpList Tryz.prog ops Q rest (a.put o.dst (.slice (some ⟨w.heap.size,0,none⟩) n n)) w') :
    wpList Tryz.prog ops Q (o::rest) a w:=by
  obtain ⟨i0,hi,hz0,hz1,hz2⟩:=info_parts info_tree
  refine wpList_make_full w hg l c 27 hop w.heap.size 29 i0 zeroC.val 8 Tryz.underlying27 hi hz0 hz1 kl kc L C n hl hc hL hC (by rw [hz2];omega) (by unfold maxLen;omega) (Nat.le_refl _) ?_
  intro w' ho hgr
  refine hK w' ?_ ((Below.refl _ _).grown hgr (Nat.le_refl _) (fun k h=>by cases h))
  obtain ⟨hl',h | ⟨g,cap,cur,e,_,hh,_,_,hs,ht⟩⟩:=ho
  · exact absurd h.1 (by simp)
  · simp only [Value.slice.injEq,Option.some.injEq,Addr.mk.injEq] at e
    obtain ⟨⟨rfl,_⟩,_,rfl⟩:=e
    unfold BlkV
    rw [hh,← made_trees]
    have:cur.toList=(madeCells (Value.cells zeroC.val) (n*8)).toList:=by
      have h2:=ht
      rw [List.take_of_length_le (by simp [hs])] at h2
      simpa using h2
    rw [← this]
theorem flat_at {w:World} {b o:Nat} {l:List Cel} (h:RdV w (some ⟨b,o,none⟩) (flat l)) (p:Nat) (hp:p<l.length) {c:Cel} (hc:l.getD p zeroC=c) :
    w.cell? ⟨b,o+p*8,none⟩=some (.int .i64 c.k)∧w.cell? ⟨b,o+p*8+1,none⟩=some (.bool c.b)∧w.cell? ⟨b,o+p*8+2,none⟩=some (.bool c.neg)∧w.cell? ⟨b,o+p*8+3,none⟩=some (.slice c.ma c.mn c.mc) ∧
    w.cell? ⟨b,o+p*8+4,none⟩=some (.int .i64 c.e)∧w.cell? ⟨b,o+p*8+5,none⟩=some (.string c.s)∧w.cell? ⟨b,o+p*8+6,none⟩=some (.slice c.ka c.kn c.kc)∧w.cell? ⟨b,o+p*8+7,none⟩=some (.slice c.va c.vn c.vc):=by
  have hg:l[p]=c:=by rw [← hc];simp [List.getD,hp]
  have key:∀ j,j<8→w.cell? ⟨b,o+(p*8+j),none⟩=c.cells[j]?:=fun j hj=>by
    rw [h.at (p*8+j) (by rw [flat_len];omega),flat_get l p j hp hj,hg]
  have k0:=key 0 (by decide);have k1:=key 1 (by decide);have k2:=key 2 (by decide);have k3:=key 3 (by decide)
  have k4:=key 4 (by decide);have k5:=key 5 (by decide);have k6:=key 6 (by decide);have k7:=key 7 (by decide)
  simp only [← Nat.add_assoc,Nat.add_zero] at k0 k1 k2 k3 k4 k5 k6 k7
  exact ⟨k0,k1,k2,k3,k4,k5,k6,k7⟩
theorem flat_set (l:List Cel) (p:Nat) (hp:p<l.length) (c:Cel) :
    ((((((((flat l).set (p*8) (.int .i64 c.k)).set (p*8+1) (.bool c.b)).set (p*8+2) (.bool c.neg)).set (p*8+3) (.slice c.ma c.mn c.mc)).set (p*8+4) (.int .i64 c.e)).set (p*8+5) (.string c.s)).set (p*8+6) (.slice c.ka c.kn c.kc)).set (p*8+7) (.slice c.va c.vn c.vc)=flat (l.set p c):=by
  apply List.ext_getElem?
  intro q
  simp only [List.getElem?_set,List.length_set,flat_len]
  by_cases hq:q<l.length*8
  · have h1:=flat_get (l.set p c) (q / 8) (q % 8) (by simp;omega) (Nat.mod_lt _ (by decide))
    rw [show q / 8*8+q % 8=q by omega] at h1
    rw [h1,List.getElem_set]
    have h2:=flat_get l (q / 8) (q % 8) (by omega) (Nat.mod_lt _ (by decide))
    rw [show q / 8*8+q % 8=q by omega] at h2
    by_cases e:p=q / 8
    · rw [if_pos e]
      have h8:q % 8=0∨q % 8=1∨q % 8=2∨q % 8=3∨q % 8=4∨q % 8=5∨q % 8=6∨q % 8=7:=by omega
      rcases h8 with h | h | h | h | h | h | h | h
      all_goals
        have hq':q=p*8+q % 8:=by omega
        rw [h] at hq' ⊢
        clear h h1 h2
        subst hq'
        simp [Cel.cells]
        try omega
    · rw [if_neg e,← h2]
      repeat (rw [if_neg (by omega)])
  · repeat (rw [if_neg (by omega)])
    rw [List.getElem?_eq_none (by rw [flat_len];omega),List.getElem?_eq_none (by rw [flat_len];simp;omega)]
def put8 (w:World) (b q:Nat) (c:Cel):World :=
  (((((((w.setCell ⟨b,q,none⟩ (.int .i64 c.k)).setCell ⟨b,q+1,none⟩ (.bool c.b)).setCell ⟨b,q+2,none⟩ (.bool c.neg)).setCell ⟨b,q+3,none⟩ (.slice c.ma c.mn c.mc)).setCell ⟨b,q+4,none⟩ (.int .i64 c.e)).setCell ⟨b,q+5,none⟩ (.string c.s)).setCell ⟨b,q+6,none⟩ (.slice c.ka c.kn c.kc)).setCell ⟨b,q+7,none⟩ (.slice c.va c.vn c.vc)
theorem put8_blk {w:World} {b:Nat} {l:List Cel} (h:BlkV w b 29 (flat l)) (p:Nat) (hp:p<l.length) (c:Cel):BlkV (put8 w b (p*8) c) b 29 (flat (l.set p c)):=by
  rw [← flat_set l p hp c]
  exact (((((((h.set _ _).set _ _).set _ _).set _ _).set _ _).set _ _).set _ _).set _ _
theorem put8_but (w:World) (b q:Nat) (c:Cel):But b w (put8 w b q c) :=
  ((((((((But.refl b w).setCell _ _).setCell _ _).setCell _ _).setCell _ _).setCell _ _).setCell _ _).setCell _ _).setCell _ _
theorem blk_olds {W:World} {g k:Nat} {l:List Cel} (h:BlkV W g 29 (flat l)) (hk:k<l.length) :
    (∃ z,W.cell? ⟨g,k*8,none⟩=some z)∧(∃ z,W.cell? ⟨g,k*8+1,none⟩=some z)∧(∃ z,W.cell? ⟨g,k*8+2,none⟩=some z)∧(∃ z,W.cell? ⟨g,k*8+3,none⟩=some z) ∧
    (∃ z,W.cell? ⟨g,k*8+4,none⟩=some z)∧(∃ z,W.cell? ⟨g,k*8+5,none⟩=some z)∧(∃ z,W.cell? ⟨g,k*8+6,none⟩=some z)∧(∃ z,W.cell? ⟨g,k*8+7,none⟩=some z):=by
  have key:∀ j,j<8→∃ z,W.cell? ⟨g,k*8+j,none⟩=some z:=fun j hj=>by
    rw [h.cell]
    have:k*8+j<(flat l).length:=by rw [flat_len];omega
    exact ⟨_,List.getElem?_eq_getElem this⟩
  exact ⟨key 0 (by decide),key 1 (by decide),key 2 (by decide),key 3 (by decide),key 4 (by decide),key 5 (by decide),key 6 (by decide),key 7 (by decide)⟩
inductive MT where
  | mk (c:Cel) (m:List Nat) (k:List ByteArray) (v:List MT)
def MT.c:MT→Cel | .mk c _ _ _=>c
def MT.m:MT→List Nat | .mk _ m _ _=>m
def MT.k:MT→List ByteArray | .mk _ _ k _=>k
def MT.v:MT→List MT | .mk _ _ _ v=>v
mutual
def MT.nodes:MT→Nat | .mk _ _ _ v=>1+MT.nodesL v
def MT.nodesL:List MT→Nat | []=>0 | t::l=>MT.nodes t+MT.nodesL l
end
mutual
/-- All nodes of a tree,each with how deep it is,each ahead of those in it. -/
def MT.pre:MT→Nat→List (Nat × MT) | .mk c m k v,d=>(d,.mk c m k v)::MT.preL v (d+1)
def MT.preL:List MT→Nat→List (Nat × MT) | [],_=>[] | t::l,d=>MT.pre t d++MT.preL l d
end
theorem MT.pre_eq (t:MT) (d:Nat):t.pre d=(d,t)::MT.preL t.v (d+1):=by cases t;rw [MT.pre];rfl
theorem MT.preL_nil (d:Nat):MT.preL [] d=[]:=by rw [MT.preL]
theorem MT.preL_cons (t:MT) (l:List MT) (d:Nat):MT.preL (t::l) d=t.pre d++MT.preL l d:=by rw [MT.preL]
theorem MT.nodes_eq (t:MT):t.nodes=1+MT.nodesL t.v:=by cases t;rw [MT.nodes];rfl
theorem MT.nodesL_nil:MT.nodesL []=0:=by rw [MT.nodesL]
theorem MT.nodesL_cons (t:MT) (l:List MT):MT.nodesL (t::l)=t.nodes+MT.nodesL l:=by rw [MT.nodesL]
theorem MT.nodes_pos (t:MT):1≤t.nodes:=by rw [MT.nodes_eq];omega
theorem MT.nodes_mem {t:MT} {l:List MT} (h:t∈l):t.nodes≤MT.nodesL l:=by
  induction l with
  | nil=>cases h
  | cons x l ih =>
    rw [MT.nodesL_cons]
    rcases List.mem_cons.1 h with rfl | h
    · omega
    · have:=ih h;omega
theorem MT.ind {P:MT→Prop} (h:∀ t,(∀ s∈t.v,P s)→P t):∀ t,P t:=by
  have key:∀ n t,MT.nodes t≤n→P t:=by
    intro n
    induction n with
    | zero=>intro t ht;have:=t.nodes_pos;omega
    | succ n ih =>
      intro t ht
      refine h t fun s hs=>ih s ?_
      have:=MT.nodes_mem hs
      rw [MT.nodes_eq] at ht
      omega
  exact fun t=>key _ t (Nat.le_refl _)
theorem MT.preL_len (l:List MT) (h:∀ s∈l,∀ d,(s.pre d).length=s.nodes):∀ d,(MT.preL l d).length=MT.nodesL l:=by
  induction l with
  | nil=>intro d;rw [MT.preL_nil,MT.nodesL_nil];rfl
  | cons t l ih =>
    intro d
    rw [MT.preL_cons,List.length_append,MT.nodesL_cons,h t (by simp),ih (fun s hs=>h s (by simp [hs]))]
theorem MT.pre_len (t:MT):∀ d,(t.pre d).length=t.nodes :=
  MT.ind (P:=fun t=>∀ d,(t.pre d).length=t.nodes) (fun t ih d=>by
    rw [MT.pre_eq,List.length_cons,MT.preL_len t.v ih,MT.nodes_eq];omega) t
theorem MT.mem_preL {l:List MT} {d:Nat} {x:Nat × MT}:x∈MT.preL l d ↔ ∃ s∈l,x∈s.pre d:=by
  induction l with
  | nil=>rw [MT.preL_nil];simp
  | cons t l ih=>rw [MT.preL_cons,List.mem_append,ih];simp
theorem MT.mem_pre_shift (t:MT):∀ d e s,(∃ n,(n,s)∈t.pre d)→∃ n,(n,s)∈t.pre e :=
  MT.ind (P:=fun t=>∀ d e s,(∃ n,(n,s)∈t.pre d)→∃ n,(n,s)∈t.pre e) (fun t ih d e s h=>by
    obtain ⟨n,h⟩:=h
    rw [MT.pre_eq,List.mem_cons] at h
    rcases h with h | h
    · exact ⟨e,by rw [MT.pre_eq];simp at h ⊢;exact .inl h.2⟩
    · obtain ⟨u,hu,hx⟩:=MT.mem_preL.1 h
      obtain ⟨n',h'⟩:=ih u hu (d+1) (e+1) s ⟨n,hx⟩
      exact ⟨n',by rw [MT.pre_eq];exact List.mem_cons_of_mem _ (MT.mem_preL.2 ⟨u,hu,h'⟩)⟩) t
def MT.sub (t s:MT):Prop:=∃ n,(n,s)∈t.pre 0
theorem MT.sub_refl (t:MT):t.sub t:=⟨0,by rw [MT.pre_eq];simp⟩
theorem MT.sub_v {t u s:MT} (hu:u∈t.v) (h:u.sub s):t.sub s:=by
  obtain ⟨n,h⟩:=MT.mem_pre_shift u 0 1 s h
  exact ⟨n,by rw [MT.pre_eq];exact List.mem_cons_of_mem _ (MT.mem_preL.2 ⟨u,hu,h⟩)⟩
theorem MT.sub_cases {t s:MT} (h:t.sub s):s=t∨∃ u∈t.v,u.sub s:=by
  obtain ⟨n,h⟩:=h
  rw [MT.pre_eq,List.mem_cons] at h
  rcases h with h | h
  · left;simp at h;exact h.2
  · right
    obtain ⟨u,hu,hx⟩:=MT.mem_preL.1 h
    exact ⟨u,hu,MT.mem_pre_shift u 1 0 s ⟨n,hx⟩⟩
theorem MT.sub_of_pre {t s:MT} {n d:Nat} (h:(n,s)∈t.pre d):t.sub s:=MT.mem_pre_shift t d 0 s ⟨n,h⟩
structure Rd1 (w:World) (t:MT):Prop where
  mn:t.m.length=t.c.mn
  mc:t.c.mn≤t.c.mc
  mo:Okl t.m
  mr:Rd w t.c.ma t.m
  kn:t.k.length=t.c.kn
  kc:t.c.kn≤t.c.kc
  kr:RdV w t.c.ka (sv t.k)
  vn:t.v.length=t.c.vn
  vc:t.c.vn≤t.c.vc
  vr:RdV w t.c.va (flat (t.v.map MT.c))
  lm:t.c.mn≤1000000000000000∧t.c.kn≤1000000000000000∧t.c.vn≤1000000000000000
  ls:t.c.s.size≤maxLen
  lk:∀ s∈t.k,s.size≤maxLen
  le:-9223372036854775808≤t.c.e∧t.c.e≤9223372036854775807
  lq:-9223372036854775808≤t.c.k∧t.c.k≤9223372036854775807
def Rep (w:World) (t:MT):Prop:=∀ s,t.sub s→Rd1 w s
theorem Rep.own {w:World} {t:MT} (h:Rep w t):Rd1 w t:=h t t.sub_refl
theorem Rep.part {w:World} {t s:MT} (h:Rep w t) (hs:s∈t.v):Rep w s:=fun u hu=>h u (MT.sub_v hs hu)
theorem Rep.mk {w:World} {t:MT} (h1:Rd1 w t) (h2:∀ s∈t.v,Rep w s):Rep w t:=by
  intro u hu
  rcases MT.sub_cases hu with rfl | ⟨s,hs,hu⟩
  · exact h1
  · exact h2 s hs u hu
theorem Rd1.on {w w':World} {t:MT} (h:Rd1 w t) (hb:Below w.heap.size w w'):Rd1 w' t :=
  ⟨h.mn,h.mc,h.mo,h.mr.below hb,h.kn,h.kc,h.kr.on hb,h.vn,h.vc,h.vr.on hb,h.lm,h.ls,h.lk,h.le,h.lq⟩
theorem Rep.on {w w':World} {t:MT} (h:Rep w t) (hb:Below w.heap.size w w'):Rep w' t:=fun s hs=>(h s hs).on hb
def outR:List (List MT)→List (Nat × MT)
  | []=>[]
  | l::R=>MT.preL l (R.length+2)++outR R
theorem outR_pop (R:List (List MT)):outR ([]::R)=outR R:=by rw [outR,MT.preL_nil];rfl
theorem outR_push (t:MT) (l:List MT) (R:List (List MT)):outR ((t::l)::R)=(R.length+2,t)::outR (t.v::l::R):=by
  rw [outR,outR,outR,MT.preL_cons,MT.pre_eq]
  simp
theorem outR_start (t:MT):t.pre 1=(1,t)::outR [t.v]:=by rw [MT.pre_eq,outR,outR];simp
def stepsR:List (List MT)→Nat
  | []=>0
  | l::R=>2*MT.nodesL l+1+stepsR R
theorem stepsR_pop (R:List (List MT)):stepsR ([]::R)=stepsR R+1:=by rw [stepsR,MT.nodesL_nil];omega
theorem stepsR_push (t:MT) (l:List MT) (R:List (List MT)):stepsR ((t::l)::R)=stepsR (t.v::l::R)+1:=by
  rw [stepsR,stepsR,stepsR,MT.nodesL_cons,MT.nodes_eq];omega
structure SE where
  ad:Option Addr
  n:Nat
  cap:Nat
  l:List MT
def SE.val (s:SE):Value:=.slice s.ad s.n s.cap
structure SEOk (w:World) (s:SE):Prop where
  ln:s.l.length=s.n
  lc:s.n≤s.cap
  lm:s.n≤1000000000000000
  rd:RdV w s.ad (flat (s.l.map MT.c))
  rp:∀ t∈s.l,Rep w t
theorem SEOk.on {w w':World} {s:SE} (h:SEOk w s) (hb:Below w.heap.size w w'):SEOk w' s :=
  ⟨h.ln,h.lc,h.lm,h.rd.on hb,fun t ht=>(h.rp t ht).on hb⟩
def MT.se (t:MT):SE:=⟨t.c.va,t.c.vn,t.c.vc,t.v⟩
theorem MT.se_ok {w:World} {t:MT} (h:Rep w t):SEOk w t.se:=⟨h.own.vn,h.own.vc,h.own.lm.2.2,h.own.vr,fun s hs=>h.part hs⟩
theorem flat_cons (c:Cel) (l:List Cel):flat (c::l)=c.cells++flat l:=rfl
theorem flat_tail (l:List Cel):flat l.tail=(flat l).drop 8:=by
  cases l with
  | nil=>rfl
  | cons c l=>rw [flat_cons,List.tail_cons,List.drop_left' (by rfl)]
end Go.Proofs.YtnacbakcalcgaaaGreatDoor
