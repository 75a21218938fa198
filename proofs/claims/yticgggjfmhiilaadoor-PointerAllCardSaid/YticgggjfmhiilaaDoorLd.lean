/- Texts of the claim. -/
import Derived.Lib.RuneBytes
import Derived.Lib.RuneCount
import Derived.Test.YticgggjfmhiilaaDoorLc
import Derived.Laws.AppendOwnNone
import Derived.RangeFuncNested
import Derived.RangeFuncBound
import Derived.Shelf.RegionOpen
import Derived.OwnWalkIn
import Derived.LoopNIn
import Derived.LoopIn
set_option linter.unusedVariables false
set_option linter.unusedSimpArgs false
set_option maxHeartbeats 4000000
set_option maxRecDepth 100000
namespace Go.Proofs.YticgggjfmhiilaaDoor
def bt (l:List UInt8) (k:Nat):Nat:=(l.getD k 0).toNat
theorem bt_lt (l:List UInt8) (k:Nat):bt l k<256:=(l.getD k 0).toNat_lt
theorem bt_drop (l:List UInt8) (i k:Nat):bt (l.drop i) k=bt l (i+k):=by
  simp [bt,List.getD,List.getElem?_drop]
def decL (l:List UInt8):Nat × Nat:=Lib.decodeN l.length (bt l 0) (bt l 1) (bt l 2) (bt l 3)
def runeL (l:List UInt8):Int × Nat:=if decL l=(65533,1) then (-1,1) else (((decL l).1:Int),(decL l).2)
theorem get!_list (s:ByteArray) (k:Nat):s.get! k=s.data.toList.getD k 0:=by
  cases s with
  | mk d =>
    by_cases h:k<d.size
    · simp [ByteArray.get!,List.getD,h,getElem!_pos]
    · simp [ByteArray.get!,List.getD,h,getElem!_neg];rfl
theorem decode_list (s:ByteArray) (i:Nat):Utf8.decode s i=decL (s.data.toList.drop i):=by
  have e:∀ k,(s.get! (i+k)).toNat=bt (s.data.toList.drop i) k:=fun k=>by rw [bt_drop];simp [bt,get!_list]
  have e0:=e 0
  rw [Nat.add_zero] at e0
  rw [Lib.decode_at,decL,e0,e 1,e 2,e 3]
  congr 1
  simp
def okR (r:Int):Bool:=Utf8.valid r
theorem okR_iff {r:Int}:okR r=true ↔ (0≤r∧r<55296)∨(57344≤r∧r≤1114111):=by
  simp [okR,Utf8.valid]
def encN (r:Nat):List Nat :=
  if r<128 then [r]
  else if r<2048 then [192+r / 64,128+r % 64]
  else if r<65536 then [224+r / 4096,128+r / 64 % 64,128+r % 64]
  else [240+r / 262144,128+r / 4096 % 64,128+r / 64 % 64,128+r % 64]
def enc (r:Int):List UInt8:=(encN r.toNat).map fun x=>UInt8.ofNat x
theorem okR_nat {r:Int} (h:okR r=true):∃ n:Nat,r=n∧(n<55296∨(57344≤n∧n≤1114111)):=by
  rw [okR_iff] at h
  exact ⟨r.toNat,by omega,by omega⟩
theorem encodeRune_enc {r:Int} (h:okR r=true):Lib.encodeRune r=enc r:=by
  obtain ⟨n,rfl,hn⟩:=okR_nat h
  unfold Lib.encodeRune enc Lib.encodeRuneZ encN
  rw [Int.toNat_natCast]
  have e:∀ x:Int,∀ y:Nat,x=y→x.toNat.toUInt8=UInt8.ofNat y:=by intro x y h;subst h;simp
  repeat' split
  all_goals first
    | (exfalso;omega)
    | (simp only [List.map_cons,List.map_nil];(repeat' apply List.cons_eq_cons.2 ⟨?_,?_⟩) <;> (first | rfl | (apply e;omega) | skip))
  all_goals first
    | (exfalso;omega)
    | (congr 1 <;> first | (apply e;omega) | (congr 1 <;> first | (apply e;omega) | (congr 1 <;> first | (apply e;omega) | (congr 1;apply e;omega))))
theorem decN_inv {m b0 b1 b2 b3 c k:Nat} (hm:1≤m) (l0:b0<256) (l1:b1<256) (l2:b2<256) (l3:b3<256) (h:Lib.decodeN m b0 b1 b2 b3=(c,k)) (hne:¬ ((c,k)=(65533,1))) :
    k≤m∧1≤k∧k≤4∧(c<55296∨(57344≤c∧c≤1114111))∧encN c=[b0,b1,b2,b3].take k:=by
  unfold Lib.decodeN at h
  by_cases c1:b0<128
  · rw [if_pos c1] at h
    obtain ⟨rfl,rfl⟩:=Prod.mk.injEq .. ▸ h
    refine ⟨hm,by omega,by omega,by omega,?_⟩
    unfold encN;rw [if_pos c1];rfl
  · rw [if_neg c1] at h
    by_cases c2:b0 / 32=6∧(1<m∧b1 / 64=2)
    · rw [if_pos c2] at h
      by_cases d2:b0 % 32*64+b1 % 64 ≥ 128
      · rw [if_pos d2] at h
        obtain ⟨rfl,rfl⟩:=Prod.mk.injEq .. ▸ h
        refine ⟨by omega,by omega,by omega,by omega,?_⟩
        unfold encN;rw [if_neg (by omega),if_pos (by omega)]
        simp;omega
      · rw [if_neg d2] at h;exact absurd h.symm hne
    · rw [if_neg c2] at h
      by_cases c3:b0 / 16=14∧(1<m∧b1 / 64=2)∧(2<m∧b2 / 64=2)
      · rw [if_pos c3] at h
        split at h
        · rename_i d3
          obtain ⟨rfl,rfl⟩:=Prod.mk.injEq .. ▸ h
          refine ⟨by omega,by omega,by omega,by omega,?_⟩
          unfold encN;rw [if_neg (by omega),if_neg (by omega),if_pos (by omega)]
          simp;omega
        · exact absurd h.symm hne
      · rw [if_neg c3] at h
        by_cases c4:b0 / 8=30∧(1<m∧b1 / 64=2)∧(2<m∧b2 / 64=2)∧(3<m∧b3 / 64=2)
        · rw [if_pos c4] at h
          split at h
          · rename_i d4
            obtain ⟨rfl,rfl⟩:=Prod.mk.injEq .. ▸ h
            refine ⟨by omega,by omega,by omega,by omega,?_⟩
            unfold encN;rw [if_neg (by omega),if_neg (by omega),if_neg (by omega)]
            simp;omega
          · exact absurd h.symm hne
        · rw [if_neg c4] at h;exact absurd h.symm hne
theorem decL_width (l:List UInt8) (h:l ≠ []):1≤(decL l).2∧(decL l).2≤l.length:=by
  have hm:1≤l.length:=by cases l;exact absurd rfl h;simp
  by_cases e:decL l=(65533,1)
  · rw [e];exact ⟨by simp,hm⟩
  · have:=decN_inv (c:=(decL l).1) (k:=(decL l).2) hm (bt_lt l 0) (bt_lt l 1) (bt_lt l 2) (bt_lt l 3) rfl e
    omega
theorem runeL_width (l:List UInt8) (h:l ≠ []):1≤(runeL l).2∧(runeL l).2≤l.length:=by
  have:=decL_width l h
  unfold runeL;split
  · exact ⟨by simp,by cases l;exact absurd rfl h;simp⟩
  · exact this
def runesF:Nat→List UInt8→List Int
  | 0,_=>[]
  | f+1,l=>if l=[] then [] else (runeL l).1::runesF f (l.drop (runeL l).2)
def runesL (l:List UInt8):List Int:=runesF l.length l
theorem runesF_nil (f:Nat):runesF f []=[]:=by cases f <;> simp [runesF]
theorem runesF_eq : ∀ (f g : Nat) (l : List UInt8), l.length ≤ f → l.length ≤ g → runesF f l = runesF g l := by
  intro f
  induction f with
  | zero => intro g l h _; have : l = [] := List.eq_nil_of_length_eq_zero (by omega)
            rw [this, runesF_nil, runesF_nil]
  | succ f ih =>
    intro g l h k
    cases g with
    | zero => have : l = [] := List.eq_nil_of_length_eq_zero (by omega)
              rw [this, runesF_nil, runesF_nil]
    | succ g =>
      by_cases hl : l = []
      · rw [hl, runesF_nil, runesF_nil]
      · have hw := runeL_width l hl
        simp only [runesF, if_neg hl]
        rw [ih g _ (by rw [List.length_drop]; omega) (by rw [List.length_drop]; omega)]
theorem runesL_nil:runesL []=[]:=rfl
theorem runesL_cons {l:List UInt8} (h:l ≠ []):runesL l=(runeL l).1::runesL (l.drop (runeL l).2):=by
  have hw:=runeL_width l h
  unfold runesL
  have hm:l.length=(l.length - 1)+1:=by omega
  rw [hm,runesF,if_neg h,runesF_eq _ (l.drop (runeL l).2).length _ (by rw [List.length_drop];omega) (Nat.le_refl _)]
theorem runesL_length : ∀ (m : Nat) (l : List UInt8), l.length ≤ m → (runesL l).length ≤ l.length := by
  intro m
  induction m with
  | zero => intro l h; have : l = [] := List.eq_nil_of_length_eq_zero (by omega)
            rw [this]; simp [runesL_nil]
  | succ m ih =>
    intro l h
    by_cases hl : l = []
    · rw [hl]; simp [runesL_nil]
    · have hw := runeL_width l hl
      rw [runesL_cons hl, List.length_cons]
      have := ih (l.drop (runeL l).2) (by rw [List.length_drop]; omega)
      rw [List.length_drop] at this; omega
theorem runesL_le (l:List UInt8):(runesL l).length≤l.length:=runesL_length _ l (Nat.le_refl _)
def validL (l:List UInt8):Bool:=(runesL l).all fun r=>decide (0≤r)
def joinL (rs:List Int):List UInt8:=rs.flatMap enc
def okAll (rs:List Int):Bool:=rs.all okR
theorem joinL_append (a b:List Int):joinL (a++b)=joinL a++joinL b:=by simp [joinL]
theorem valid_cons {l:List UInt8} (h:l ≠ []):validL l=(decide (0≤(runeL l).1) && validL (l.drop (runeL l).2)):=by
  unfold validL;rw [runesL_cons h];rfl
end Go.Proofs.YticgggjfmhiilaaDoor
namespace Go.Proofs.YticgggjfmhiilaaDoor
open Go.RowKit Go.Shelf
def UT (w:World):Prop:=Lib.Utf8Tabs 1 2 w
theorem UT.below {w w':World} (h:UT w) (hb:Below w.heap.size w w'):UT w':=by
  refine ⟨fun c hc=>?_,fun i hi=>⟨?_,?_⟩⟩
  · have h1:=h.1 c hc
    rw [hb.cell (World.block_lt_of_cell? w _ h1)];exact h1
  · have h1:=(h.2 i hi).1
    rw [hb.cell (World.block_lt_of_cell? w _ h1)];exact h1
  · have h1:=(h.2 i hi).2
    rw [hb.cell (World.block_lt_of_cell? w _ h1)];exact h1
def runeAt (s:ByteArray) (k:Int):Int × Int :=
  if k<0∨(s.size:Int)≤k then (-1,0) else ((runeL (s.data.toList.drop k.toNat)).1,((runeL (s.data.toList.drop k.toNat)).2:Int))
theorem extract_list (s:ByteArray) (k:Nat):(s.extract k s.size).data.toList=s.data.toList.drop k:=by
  rw [ByteArray.data_extract,Array.toList_extract]
  simp [List.extract_eq_take_drop]
  exact List.take_of_length_le (by simp)
theorem decodeGo_drop (s:ByteArray) (k:Nat) (h:k<s.size):Lib.decodeGo (s.extract k s.size)=decL (s.data.toList.drop k):=by
  have hz:(s.extract k s.size).size ≠ 0:=by rw [ByteArray.size_extract];omega
  unfold Lib.decodeGo
  rw [if_neg hz,decode_list]
  congr 1
  rw [List.drop_zero]
  exact extract_list s k
theorem uRune_any (s:ByteArray) (k:Int) (w:World) (hs:s.size≤maxLen) (hk:-9223372036854775808≤k∧k≤9223372036854775807) (hT:UT w) :
    Calls Tryd.prog 127 #[.string s,.int .i64 k] w fun e w'=>e=.returned (.tuple #[.int .i32 (runeAt s k).1,.int .i64 (runeAt s k).2])∧Below w.heap.size w w':=by
  unfold maxLen at hs
  by_cases h0:k<0
  · have e:runeAt s k=(-1,0):=by unfold runeAt;rw [if_pos (.inl h0)]
    rw [e];clear e hT
    go_enter Tryd.func127,Tryd.ntmps127
    go_wp2
    go_ret2
    exact ⟨rfl,Below.refl _ _⟩
  · by_cases h1:(s.size:Int)≤k
    · have e:runeAt s k=(-1,0):=by unfold runeAt;rw [if_pos (.inr h1)]
      rw [e];clear e hT
      go_enter Tryd.func127,Tryd.ntmps127
      go_wp2
      go_ret2
      exact ⟨rfl,Below.refl _ _⟩
    · obtain ⟨n,rfl⟩:∃ n:Nat,k=n:=⟨k.toNat,by omega⟩
      have hn:n<s.size:=by omega
      have e:runeAt s n=((runeL (s.data.toList.drop n)).1,((runeL (s.data.toList.drop n)).2:Int)):=by unfold runeAt;rw [if_neg (by omega)];rfl
      rw [e];clear e
      have hd:=decodeGo_drop s n hn
      have KD:=Lib.hid (Tryd.utf8_DecodeRuneInString (s.extract n s.size) w hT)
      rw [hd] at KD
      clear hT hd
      unfold runeL
      generalize hD:decL (s.data.toList.drop n)=D at *
      obtain ⟨c,m⟩:=D
      clear hD
      have h1':¬ (s.size:Int)≤(n:Int):=h1
      by_cases hc:c=65533
      · subst hc
        by_cases hm:m=1
        · subst hm
          rw [if_pos rfl]
          go_enter Tryd.func127,Tryd.ntmps127
          go_wp2_with fail
          refine KD.out.mono ?_
          rintro r w' ⟨rfl,hb⟩
          have HB:=Lib.hid hb;clear hb
          go_wp2
          go_ret2
          exact ⟨rfl,HB.out⟩
        · rw [if_neg (by intro e;exact hm (congrArg Prod.snd e))]
          have hm':¬ (m:Int)=1:=by omega
          go_enter Tryd.func127,Tryd.ntmps127
          go_wp2_with fail
          refine KD.out.mono ?_
          rintro r w' ⟨rfl,hb⟩
          have HB:=Lib.hid hb;clear hb
          go_wp2
          go_ret2
          exact ⟨rfl,HB.out⟩
      · rw [if_neg (by intro e;exact hc (congrArg Prod.fst e))]
        have hc':¬ (c:Int)=65533:=by omega
        go_enter Tryd.func127,Tryd.ntmps127
        go_wp2_with fail
        refine KD.out.mono ?_
        rintro r w' ⟨rfl,hb⟩
        have HB:=Lib.hid hb;clear hb
        go_wp2
        go_ret2
        exact ⟨rfl,HB.out⟩
def noneAt (s:ByteArray) (k:Int):Bool:=decide ((runeAt s k).1 = -1)
theorem wrong_any (s:ByteArray) (k:Int) (w:World) (hs:s.size≤maxLen) (hk:-9223372036854775808≤k∧k≤9223372036854775807) (hT:UT w) :
    Calls Tryd.prog 101 #[.string s,.int .i64 k] w fun e w'=>e=.returned (.bool (noneAt s k))∧Below w.heap.size w w':=by
  have K:=Lib.hid (uRune_any s k w hs hk hT)
  unfold noneAt
  generalize hR:runeAt s k=R at *
  obtain ⟨c,m⟩:=R
  clear hR hT
  by_cases hc:c = -1
  · subst hc
    go_enter Tryd.func101,Tryd.ntmps101
    go_wp2_with fail
    refine K.out.mono ?_
    rintro r w' ⟨rfl,hb⟩
    have HB:=Lib.hid hb;clear hb
    go_wp2
    go_ret
    exact ⟨rfl,HB.out⟩
  · go_enter Tryd.func101,Tryd.ntmps101
    go_wp2_with fail
    refine K.out.mono ?_
    rintro r w' ⟨rfl,hb⟩
    have HB:=Lib.hid hb;clear hb
    go_wp2
    go_ret
    simp [hc];exact HB.out
def VB (s:ByteArray) (B:Nat) (w:World) (e:Ending) (w':World):Prop :=
  ∃ n:Nat,e=.returned (.int .i64 n)∧n≤s.size∧(n=s.size ↔ validL s.data.toList=true)∧Below B w w'
def RI (s:ByteArray) (B:Nat) (w:World) (pos:Nat) (wr:World):Prop :=
  wr.heap[B]? = some (.stringIter s pos)∧Below B w wr
theorem RI.start (s:ByteArray) (w:World):RI s w.heap.size w 0 (w.iter s 0) :=
  ⟨World.iter_heap w s 0,(Below.refl _ w).alloc (Nat.le_refl _) _⟩
theorem RI.lt {s:ByteArray} {B:Nat} {w:World} {pos:Nat} {wr:World} (h:RI s B w pos wr):B<wr.heap.size:=(Array.getElem?_eq_some_iff.1 h.1).1
theorem RI.next {s:ByteArray} {B:Nat} {w:World} {pos:Nat} {wr:World} (h:RI s B w pos wr) (q:Nat):RI s B w q (wr.iterAt B s q) :=
  ⟨Lib.iterAt_heap wr B s pos q h.1,Lib.below_iterAt h.2 (Nat.le_refl _) s q⟩
theorem RI.below {s:ByteArray} {B:Nat} {w:World} {pos:Nat} {wr w':World} (h:RI s B w pos wr) (hb:Below wr.heap.size wr w'):RI s B w pos w' :=
  ⟨by rw [hb.block B h.lt];exact h.1,h.2.trans (hb.mono (Nat.le_of_lt h.lt))⟩
def tailL (s:ByteArray) (k:Nat):List UInt8:=s.data.toList.drop k
theorem tailL_zero (s:ByteArray):tailL s 0=s.data.toList:=by simp [tailL]
theorem tailL_length (s:ByteArray) (k:Nat):(tailL s k).length=s.size - k:=by simp [tailL]
theorem tailL_ne {s:ByteArray} {k:Nat} (h:k<s.size):tailL s k ≠ []:=by
  intro e;have:=congrArg List.length e;rw [tailL_length] at this;simp only [List.length_nil] at this;omega
theorem tailL_end {s:ByteArray} {k:Nat} (h:s.size≤k):tailL s k=[]:=List.eq_nil_of_length_eq_zero (by rw [tailL_length];omega)
theorem tailL_drop (s:ByteArray) (k m:Nat):(tailL s k).drop m=tailL s (k+m):=by simp [tailL,List.drop_drop]
theorem decode_tail (s:ByteArray) (k:Nat):Utf8.decode s k=decL (tailL s k):=decode_list s k
theorem runeAt_tail {s:ByteArray} {k:Nat} (h:k<s.size):runeAt s k=((runeL (tailL s k)).1,((runeL (tailL s k)).2:Int)):=by
  unfold runeAt;rw [if_neg (by omega)];rfl
theorem noneAt_tail {s:ByteArray} {k:Nat} (h:k<s.size):noneAt s k=decide ((runeL (tailL s k)).1 = -1):=by
  unfold noneAt;rw [runeAt_tail h]
theorem valid_tail {s:ByteArray} {k:Nat} (h:k<s.size):validL (tailL s k)=(decide (0≤(runeL (tailL s k)).1) && validL (tailL s (k+(runeL (tailL s k)).2))):=by
  rw [valid_cons (tailL_ne h),tailL_drop]
theorem rune_not {l:List UInt8} (h:(decL l).1 ≠ 65533):runeL l=(((decL l).1:Int),(decL l).2):=by
  unfold runeL;rw [if_neg];intro e;exact h (congrArg Prod.fst e)
theorem runeL_lo (l:List UInt8):-1≤(runeL l).1:=by unfold runeL;split <;> simp <;> omega
theorem rune_width (l:List UInt8):(runeL l).2=(decL l).2:=by unfold runeL;split;rename_i e;rw [e];rfl
def VR (s:ByteArray) (B:Nat) (w:World) (k:Nat) (e:Value) (wr:World):Prop :=
  ∃ pos,s.size - pos≤k∧e=.int .i64 s.size∧validL s.data.toList=validL (tailL s pos)∧RI s B w pos wr
theorem validBytes_any (s:ByteArray) (w:World) (hs:s.size≤maxLen) (hT:UT w) :
    Calls Tryd.prog 69 #[.string s] w (VB s w.heap.size w):=by
  unfold maxLen at hs
  have HT:=Lib.hid hT;clear hT
  go_enter Tryd.func69,Tryd.ntmps69
  go_wp2
  go_step3
  go_wp2
  go_step3
  go_wp2
  have hst:=RI.start s w
  generalize hB:w.heap.size=B at *
  have HB0:=Lib.hid hB;clear hB
  go_loopg [3] s.size (fun k e wr=>VR s B w k e wr)
  case atStart=>exact ⟨0,by omega,rfl,by rw [tailL_zero],hst⟩
  case round =>
    obtain ⟨pos,hk,rfl,hv,hri⟩:=hrel
    have HV:=Lib.hid hv;clear hv
    by_cases hp:pos<s.size
    · obtain ⟨k,rfl⟩:∃ k,gk=k+1:=⟨gk - 1,by omega⟩
      have hnx:∀ ty,(Instr.next (.pointer (some ⟨B,0,none⟩)) true ty).run Tryd.prog wr=_:=fun ty=>Lib.run_next_any_at wr B s pos ty hri.1 hp
      rw [decode_tail] at hnx
      have hw:=decL_width (tailL s pos) (tailL_ne hp)
      have hvt:=valid_tail hp
      rw [tailL_length] at hw
      have HVT:=Lib.hid hvt;clear hvt
      by_cases hc:(decL (tailL s pos)).1=65533
      · have hri2:=Lib.hid (hri.next (pos+(decL (tailL s pos)).2))
        have hrw:=Lib.hid (rune_width (tailL s pos))
        have hlo:=Lib.hid (runeL_lo (tailL s pos))
        have KW:=Lib.hid (wrong_any s pos (wr.iterAt B s (pos+(decL (tailL s pos)).2)) (by unfold maxLen;omega) (by omega) (HT.out.below (by rw [HB0.out];exact hri2.out.2)))
        rw [noneAt_tail hp] at KW
        generalize hm:(decL (tailL s pos)).2=m at *
        have hnx2:∀ ty,(Instr.next (.pointer (some ⟨B,0,none⟩)) true ty).run Tryd.prog wr=Result.ok (Value.tuple #[Value.bool true,Value.int IntKind.i64 ↑pos,Value.int IntKind.i32 65533]) (wr.iterAt B s (pos+m)):=by
          intro ty;rw [hnx ty,hc];rfl
        clear hnx hc hm
        by_cases hn:(runeL (tailL s pos)).1 = -1
        · have hd:decide ((runeL (tailL s pos)).1 = -1)=true:=decide_eq_true hn
          rw [hd] at KW
          have hbad:=Lib.hid (show validL s.data.toList=false by rw [HV.out,HVT.out,hn];rfl)
          clear hn hd hri
          go_wp2_with fail
          refine KW.out.mono ?_
          rintro r w' ⟨rfl,hb⟩
          have hri3:=Lib.hid (hri2.out.below hb);clear hb
          go_wp2
          rw [Exit.noGoto_ret]
          go_ret
          exact ⟨pos,rfl,by omega,⟨fun h=>absurd h (by omega),fun h=>by rw [hbad.out] at h;cases h⟩,hri3.out.2⟩
        · have hd:decide ((runeL (tailL s pos)).1 = -1)=false:=decide_eq_false hn
          rw [hd] at KW
          have hgo:=Lib.hid (show validL s.data.toList=validL (tailL s (pos+m)) by
            rw [HV.out,HVT.out,hrw.out,decide_eq_true (by have:=hlo.out;omega),Bool.true_and])
          clear hn hd hri
          go_wp2_with fail
          refine KW.out.mono ?_
          rintro r w' ⟨rfl,hb⟩
          have hri3:=Lib.hid (hri2.out.below hb);clear hb
          go_wp2
          go_roundg k
          case rel=>exact ⟨pos+m,by omega,rfl,hgo.out,hri3.out⟩
          case measure=>omega
      · have hc':¬ ((decL (tailL s pos)).1:Int)=65533:=by omega
        have hr:=rune_not hc
        have hgo:=Lib.hid (show validL s.data.toList=validL (tailL s (pos+(decL (tailL s pos)).2)) by
          rw [HV.out,HVT.out,hr,decide_eq_true (by simp),Bool.true_and])
        clear hr
        generalize hD:decL (tailL s pos)=D at *
        obtain ⟨c,m⟩:=D
        simp only at hnx hc hc' hw
        have hri2:=Lib.hid (hri.next (pos+m))
        clear hD hri
        go_wp2
        go_roundg k
        case rel=>exact ⟨pos+m,by omega,rfl,hgo.out,hri2.out⟩
        case measure=>omega
    · have hnx:∀ ty,(Instr.next (.pointer (some ⟨B,0,none⟩)) true ty).run Tryd.prog wr=_:=fun ty=>Lib.run_next_end_at wr B s pos ty hri.1 hp
      have hok:=Lib.hid (show validL s.data.toList=true by rw [HV.out,tailL_end (by omega)];rfl)
      have hb:=Lib.hid hri.2
      clear hri
      go_wp2
      rw [Exit.noGoto_ret]
      go_ret
      exact ⟨s.size,rfl,Nat.le_refl _,⟨fun _=>hok.out,fun _=>rfl⟩,hb.out⟩
theorem valid_any (s:ByteArray) (w:World) (hs:s.size≤maxLen) (hT:UT w) :
    Calls Tryd.prog 40 #[.string s] w fun e w'=>e=.returned (.bool (validL s.data.toList))∧Below w.heap.size w w':=by
  have K:=Lib.hid (validBytes_any s w hs hT)
  unfold maxLen at hs
  clear hT
  cases hv:validL s.data.toList
  · have HV:=Lib.hid hv;clear hv
    go_enter Tryd.func40,Tryd.ntmps40
    go_wp2_with fail
    refine K.out.mono ?_
    rintro r w' ⟨n,rfl,h1,h2,hb⟩
    have hn:¬ (n:Int)=(s.size:Int):=by
      intro e
      have e':n=s.size:=by omega
      have:=h2.1 e'
      rw [HV.out] at this;cases this
    have HB:=Lib.hid hb
    clear h2 hb
    go_wp2
    go_ret
    exact ⟨by simp;omega,HB.out⟩
  · have HV:=Lib.hid hv;clear hv
    go_enter Tryd.func40,Tryd.ntmps40
    go_wp2_with fail
    refine K.out.mono ?_
    rintro r w' ⟨n,rfl,h1,h2,hb⟩
    have hn:=h2.2 HV.out
    have HB:=Lib.hid hb
    clear h2 hb h1
    subst hn
    go_wp2
    go_ret
    exact ⟨by simp,HB.out⟩
end Go.Proofs.YticgggjfmhiilaaDoor
namespace Go.Proofs.YticgggjfmhiilaaDoor
open Go.RowKit
theorem below_drewN {B:Nat} {a w:World} (h:Below B a w) (n:Nat):Below B a (w.drewN n):=h.trans ⟨rfl,rfl,rfl,Nat.le_refl _,fun _ _=>rfl⟩
def RdV (w:World) (ad:Option Addr) (vs:List Value):Prop :=
  ∀ i,i<vs.length→∃ b o,ad=some ⟨b,o,none⟩∧b<w.heap.size∧w.cell? ⟨b,o+i,none⟩=vs[i]?
theorem RdV.nil (w:World) (ad:Option Addr):RdV w ad []:=by intro i h;simp at h
theorem RdV.at {w:World} {b o:Nat} {vs:List Value} (h:RdV w (some ⟨b,o,none⟩) vs) (i:Nat) (hi:i<vs.length):w.cell? ⟨b,o+i,none⟩=vs[i]?:=by
  obtain ⟨b',o',e,_,hc⟩:=h i hi
  cases e;exact hc
theorem RdV.shape {w:World} {ad:Option Addr} {vs:List Value} (h:RdV w ad vs) (hp:0<vs.length):∃ b o,ad=some ⟨b,o,none⟩∧b<w.heap.size:=by
  obtain ⟨b,o,e,hb,_⟩:=h 0 hp
  exact ⟨b,o,e,hb⟩
theorem RdV.take {w:World} {ad:Option Addr} {vs:List Value} (h:RdV w ad vs) (n:Nat):RdV w ad (vs.take n):=by
  intro i hi
  rw [List.length_take] at hi
  obtain ⟨b,o,e,hb,hc⟩:=h i (by omega)
  exact ⟨b,o,e,hb,by rw [hc,List.getElem?_take];simp [show i<n by omega]⟩
theorem RdV.drop {w:World} {b o:Nat} {vs:List Value} (h:RdV w (some ⟨b,o,none⟩) vs) (k:Nat):RdV w (some ⟨b,o+k,none⟩) (vs.drop k):=by
  intro i hi
  rw [List.length_drop] at hi
  obtain ⟨b',o',e,hb,hc⟩:=h (k+i) (by omega)
  cases e
  exact ⟨b,o+k,rfl,hb,by rw [Nat.add_assoc,hc,List.getElem?_drop]⟩
theorem RdV.below {w w':World} {ad:Option Addr} {vs:List Value} (h:RdV w ad vs) {B:Nat} (hb:Below B w w') (hB:∀ a,ad=some a→0<vs.length→a.block<B):RdV w' ad vs:=by
  intro i hi
  obtain ⟨b,o,e,hlt,hc⟩:=h i hi
  have hbb:b<B:=hB _ e (by omega)
  exact ⟨b,o,e,Nat.lt_of_lt_of_le hlt hb.size,by rw [hb.cell (p:=⟨b,o+i,none⟩) hbb];exact hc⟩
theorem RdV.on {w w':World} {ad:Option Addr} {vs:List Value} (h:RdV w ad vs) (hb:Below w.heap.size w w'):RdV w' ad vs :=
  h.below hb fun a e hp=>by obtain ⟨b,o,e',hlt,_⟩:=h 0 hp;rw [e] at e';cases e';exact hlt
theorem RdV.lt {w:World} {ad:Option Addr} {vs:List Value} (h:RdV w ad vs) (a:Addr) (e:ad=some a) (hp:0<vs.length):a.block<w.heap.size:=by
  obtain ⟨b,o,e',hb⟩:=h.shape hp
  rw [e] at e';cases e';exact hb
def BlkV (w:World) (g:Nat) (e:TypeId) (vs:List Value):Prop:=w.heap[g]? = some (.cells vs.toArray e (0,0))
theorem BlkV.lt {w:World} {g:Nat} {e:TypeId} {vs:List Value} (h:BlkV w g e vs):g<w.heap.size:=by
  rcases Nat.lt_or_ge g w.heap.size with h1 | h1
  · exact h1
  · rw [BlkV,Array.getElem?_eq_none h1] at h;cases h
theorem BlkV.cell {w:World} {g:Nat} {e:TypeId} {vs:List Value} (h:BlkV w g e vs) (i:Nat):w.cell? ⟨g,i,none⟩=vs[i]?:=by
  unfold BlkV at h
  simp [World.cell?,h]
theorem BlkV.free {w:World} {g:Nat} {e:TypeId} {vs:List Value} (h:BlkV w g e vs) (i:Nat):w.frozen? ⟨g,i,none⟩=false:=by
  unfold BlkV at h
  simp [World.frozen?,h]
theorem BlkV.rd {w:World} {g:Nat} {e:TypeId} {vs:List Value} (h:BlkV w g e vs) (o n:Nat):RdV w (some ⟨g,o,none⟩) ((vs.drop o).take n):=by
  intro i hi
  rw [List.length_take,List.length_drop] at hi
  refine ⟨g,o,rfl,h.lt,?_⟩
  rw [h.cell (o+i),List.getElem?_take,List.getElem?_drop]
  simp [show i<n by omega]
theorem BlkV.all {w:World} {g:Nat} {e:TypeId} {vs:List Value} (h:BlkV w g e vs):RdV w (some ⟨g,0,none⟩) vs:=by
  have:=h.rd 0 vs.length
  simpa using this
theorem BlkV.set {w:World} {g:Nat} {e:TypeId} {vs:List Value} (h:BlkV w g e vs) (i:Nat) (v:Value):BlkV (w.setCell ⟨g,i,none⟩ v) g e (vs.set i v):=by
  have hlt:=h.lt
  unfold BlkV at h ⊢
  simp only [World.setCell,Array.getElem?_modify,h]
  simp
theorem BlkV.drewN {w:World} {g:Nat} {e:TypeId} {vs:List Value} (h:BlkV w g e vs) (q:Nat):BlkV (w.drewN q) g e vs:=h
theorem BlkV.below {w w':World} {g:Nat} {e:TypeId} {vs:List Value} (h:BlkV w g e vs) {B:Nat} (hb:Below B w w') (hg:g<B):BlkV w' g e vs:=by
  unfold BlkV;rw [hb.block g hg];exact h
structure But (g:Nat) (w w':World):Prop where
  os:w'.os=w.os
  tape:w'.tape=w.tape
  output:w'.output=w.output
  size:w.heap.size≤w'.heap.size
  block:∀ k,k<w.heap.size→k ≠ g→w'.heap[k]? = w.heap[k]?
theorem But.refl (g:Nat) (w:World):But g w w:=⟨rfl,rfl,rfl,Nat.le_refl _,fun _ _ _=>rfl⟩
theorem But.trans {g:Nat} {a b c:World} (h:But g a b) (k:But g b c):But g a c :=
  ⟨k.os.trans h.os,k.tape.trans h.tape,k.output.trans h.output,Nat.le_trans h.size k.size,fun i hi hn=>(k.block i (Nat.lt_of_lt_of_le hi h.size) hn).trans (h.block i hi hn)⟩
theorem But.of_below {g:Nat} {w w':World} (h:Below w.heap.size w w'):But g w w':=⟨h.os,h.tape,h.output,h.size,fun k hk _=>h.block k hk⟩
theorem But.drewN {g:Nat} {a w:World} (h:But g a w) (n:Nat):But g a (w.drewN n):=h.trans ⟨rfl,rfl,rfl,Nat.le_refl _,fun _ _ _=>rfl⟩
theorem But.setCell {g:Nat} {a w:World} (h:But g a w) (i:Nat) (v:Value):But g a (w.setCell ⟨g,i,none⟩ v) :=
  h.trans ⟨rfl,rfl,rfl,by simp [World.setCell],fun k _ hn=>Below.heap_setCell _ _ _ _ hn⟩
theorem But.below {g:Nat} {w w':World} (h:But g w w') {B:Nat} (hg:B≤g) (hB:B≤w.heap.size):Below B w w' :=
  ⟨h.os,h.tape,h.output,h.size,fun k hk=>h.block k (by omega) (by omega)⟩
theorem But.blk {g k:Nat} {w w':World} (h:But g w w') {e:TypeId} {vs:List Value} (hb:BlkV w k e vs) (hk:k ≠ g):BlkV w' k e vs:=by
  unfold BlkV;rw [h.block k hb.lt hk];exact hb
theorem But.rd {g:Nat} {w w':World} (h:But g w w') {ad:Option Addr} {vs:List Value} (hr:RdV w ad vs) (hn:∀ a,ad=some a→0<vs.length→a.block ≠ g):RdV w' ad vs:=by
  intro i hi
  obtain ⟨b,o,e,hlt,hc⟩:=hr i hi
  exact ⟨b,o,e,Nat.lt_of_lt_of_le hlt h.size,by rw [World.cell?_of_block (w:=w) (h.block b hlt (hn _ e (by omega)))];exact hc⟩
def iv (n:Nat):Value:=.int .i64 (n:Int)
def sv (l:List ByteArray):List Value:=l.map Value.string
theorem sv_get (l:List ByteArray) (i:Nat) (hi:i<l.length):(sv l)[i]? = some (.string (l.getD i ByteArray.empty)):=by
  simp [List.getD,hi,sv]
theorem sv_len (l:List ByteArray):(sv l).length=l.length:=by simp [sv]
theorem run_append_noneK {P:Program} {w:World} (t ty e:TypeId) (i:TypeInfo) (ht:P.underlying t=some (.slice e)) (hi:P.info? e=some i) (c:Nat) :
    (Builtin.append_ #[t,t] ty #[.slice none 0 0,.slice none 0 c]).run P w=.ok (.slice none 0 0) w:=by
  simp [Builtin.append_,run_underlying ht,sizeOf,typeInfo,hi,Builtin.lenOf,Builtin.firstCells]
section
variable {t e : TypeId} {z : Value} {bytes : Nat}
theorem wpl_clone1 (ht:Tryd.prog.underlying t=some (.slice e)) (hi:(Tryd.prog.info? e).map (fun i=>(i.zero,i.size,i.bytes))=some (some z,1,bytes)) (hz1:z.cells=#[z]) (hby:bytes≤1000) (w:World) {ops:Array Oper} {rest:List Oper} {o:Oper} {a:Act} {Q:Exit→Act→World→Prop}
    (hg:o.guard=none) (s x:Operand) (hop:o.op=.call { callee:=.builtin .append,args:=#[s,x],argTypes:=#[t,t] })
    (ad:Option Addr) (n cap:Nat) (vs:List Value) (h1c:∀ v∈vs,v.oneCell'=true) (hs:a.eval s=.slice none 0 0) (hx:a.eval x=.slice ad n cap) (hl:vs.length=n) (hr:RdV w ad vs) (hn:n≤1000000000)
    (h:∀ v' w',w'.ownsRow w.heap.size e 1 v' n vs→Below w.heap.size w w'→wpList Tryd.prog ops Q rest (a.put o.dst v') w') :
    wpList Tryd.prog ops Q (o::rest) a w:=by
  obtain ⟨i0,hi,hz0,hzs,hz2⟩:=info_parts hi
  subst hl
  cases ad with
  | none =>
    have h0:vs=[]:=by
      rcases Nat.eq_zero_or_pos vs.length with h0 | h0
      · exact List.eq_nil_of_length_eq_zero h0
      · obtain ⟨_,_,e,_⟩:=hr 0 h0
        cases e
    subst h0
    refine wpList_plain hg fun K hK=>?_
    have hrun:=run_append_noneK (P:=Tryd.prog) (w:=w) t o.type e i0 ht hi cap
    simp only [List.length_nil] at hx
    unfold Oper.wp
    simp [execOp,hop,resolve,invoke,builtin,hs,hx,hrun,Result.andThen]
    exact hK _ _ (h _ _ (World.ownsRow_nil _ _ _ _) (Below.refl _ _))
  | some ad =>
    refine wpList_append_own w hg s x t hop w.heap.size e i0 z 1 bytes ht hi hz0 hzs hz2 (by rw [hz1];rfl) (by decide) _ 0 [] hs (World.ownsRow_nil _ _ _ _) ad vs.length cap vs hx (by simp) ?_ ?_ (by unfold maxLen;omega) (by
      have:(0+vs.length)*bytes≤(0+vs.length)*1000:=Nat.mul_le_mul_left _ hby
      omega) (Nat.le_refl _) (fun v' w' h1 h2 _=>h v' w' (by simpa using h1) ((Below.refl _ _).grown h2 (Nat.le_refl _) (fun k hk=>by cases hk)))
    · intro j u hj
      have hjl:j<vs.length:=(List.getElem?_eq_some_iff.1 hj).1
      obtain ⟨b,o',e,_,hc⟩:=hr j hjl
      cases e
      have hadd:(⟨b,o',none⟩:Addr).add j=⟨b,o'+j,none⟩:=by unfold Addr.add;split <;> simp_all
      rw [hadd,hc,hj]
    · intro u hu
      exact h1c u hu
end
theorem info_string:(Tryd.prog.info? 9).map (fun i=>(i.zero,i.size,i.bytes))=some (some (.string ByteArray.empty),1,16):=by kernel_rfl
theorem sv_one (l:List ByteArray):∀ v∈sv l,v.oneCell'=true:=by
  intro v hv;simp only [sv,List.mem_map] at hv;obtain ⟨s,_,rfl⟩:=hv;rfl
def ClonePost (e:TypeId) (vs:List Value) (w:World) (r:Ending) (w':World):Prop :=
  ∃ v,r=.returned v∧w'.ownsRow w.heap.size e 1 v vs.length vs∧Below w.heap.size w w'
theorem strings_any (ad:Option Addr) (n cap:Nat) (l:List ByteArray) (w:World) (hl:l.length=n) (hn:n≤1000000000) (hr:RdV w ad (sv l)) :
    Calls Tryd.prog 19 #[.slice ad n cap] w (ClonePost 9 (sv l) w):=by
  have HR:=Lib.hid hr;have HL:=Lib.hid hl
  clear hr hl
  go_enter Tryd.func19,Tryd.ntmps19
  go_wp2_with (at_builtin;refine wpl_clone1 Tryd.underlying22 info_string rfl (by decide) _ rfl _ _ rfl ad n cap (sv l) (sv_one l) rfl rfl (by rw [sv_len];exact HL.out) HR.out (by omega) ?_)
  intro v' w' h1 h2
  have H:=Lib.hid (show ClonePost 9 (sv l) w (.returned v') w' from ⟨v',rfl,by rw [sv_len,HL.out];exact h1,h2⟩)
  clear h1 h2
  go_wp2
  go_ret
  exact H.out
structure Cel where
  k:Int
  b:Bool
  neg:Bool
  ma:Option Addr
  mn:Nat
  mc:Nat
  e:Int
  s:ByteArray
  ka:Option Addr
  kn:Nat
  kc:Nat
  va:Option Addr
  vn:Nat
  vc:Nat
def Cel.cells (c:Cel):List Value:=[.int .i64 c.k,.bool c.b,.bool c.neg,(.slice c.ma c.mn c.mc),.int .i64 c.e,.string c.s,(.slice c.ka c.kn c.kc),(.slice c.va c.vn c.vc)]
def Cel.val (c:Cel):Value:=.agg #[.int .i64 c.k,.bool c.b,.bool c.neg,(.slice c.ma c.mn c.mc),.int .i64 c.e,.string c.s,(.slice c.ka c.kn c.kc),(.slice c.va c.vn c.vc)]
def flat (l:List Cel):List Value:=l.flatMap Cel.cells
theorem flat_len (l:List Cel):(flat l).length=l.length*8:=by
  induction l with
  | nil=>rfl
  | cons c l ih=>simp only [flat,List.flatMap_cons,List.length_append] at ih ⊢;rw [ih];simp [Cel.cells];omega
theorem flat_get (l:List Cel) (i j:Nat) (hi:i<l.length) (hj:j<8):(flat l)[i*8+j]? = l[i].cells[j]?:=by
  induction l generalizing i with
  | nil=>simp at hi
  | cons c l ih =>
    simp only [flat,List.flatMap_cons]
    cases i with
    | zero=>rw [Nat.zero_mul,Nat.zero_add,List.getElem?_append_left (by simp [Cel.cells];omega)];rfl
    | succ i =>
      rw [List.getElem?_append_right (by simp [Cel.cells];omega)]
      have:(i+1)*8+j - c.cells.length=i*8+j:=by simp [Cel.cells];omega
      rw [this]
      simp only [List.length_cons] at hi
      exact ih i (by omega)
def zeroC:Cel:=⟨0,false,false,none,0,0,0,ByteArray.empty,none,0,0,none,0,0⟩
theorem info_tree:(Tryd.prog.info? 28).map (fun i=>(i.zero,i.size,i.bytes))=some (some zeroC.val,8,120):=by kernel_rfl
theorem flat_rep (c:Cel) (n:Nat):flat (List.replicate n c)=(List.range (n*8)).map fun i=>c.cells.getD (i % 8) default:=by
  apply List.ext_getElem?
  intro q
  by_cases h:q<n*8
  · have h1:=flat_get (List.replicate n c) (q / 8) (q % 8) (by simp;omega) (Nat.mod_lt _ (by decide))
    rw [show q / 8*8+q % 8=q by omega] at h1
    rw [h1]
    have h8:q % 8<c.cells.length:=Nat.mod_lt _ (by decide)
    simp [h,List.getD,h8]
  · rw [List.getElem?_eq_none (by rw [flat_len];simp;omega),List.getElem?_eq_none (by simp;omega)]
theorem made_trees (n:Nat):(madeCells zeroC.val.cells (n*8)).toList=flat (List.replicate n zeroC):=by
  rw [flat_rep]
  simp only [madeCells]
  apply List.ext_getElem
  · simp
  · intro i h1 h2
    simp [zeroC,Cel.val,Cel.cells,Value.cells]
theorem wpl_make_trees (w:World) {ops:Array Oper} {rest:List Oper} {o:Oper} {a:Act} {Q:Exit→Act→World→Prop}
    (hg:o.guard=none) (l c:Operand) (hop:o.op=Op.makeSlice 26 l c) (kl kc:IntKind) (L C:Int) (n:Nat)
    (hl:a.eval l=.int kl L) (hc:a.eval c=.int kc C) (hL:L=(n:Int)) (hC:C=(n:Int)) (hn:n≤1000000000000)
    (hK:∀ w',BlkV w' w.heap.size 28 (flat (List.replicate n zeroC))→Below w.heap.size w w'→wpList Tryd.prog ops Q rest (a.put o.dst (.slice (some ⟨w.heap.size,0,none⟩) n n)) w') :
    wpList Tryd.prog ops Q (o::rest) a w:=by
  obtain ⟨i0,hi,hz0,hz1,hz2⟩:=info_parts info_tree
  refine wpList_make_full w hg l c 26 hop w.heap.size 28 i0 zeroC.val 8 Tryd.underlying26 hi hz0 hz1 kl kc L C n hl hc hL hC (by rw [hz2];omega) (by unfold maxLen;omega) (Nat.le_refl _) ?_
  intro w' ho hgr
  refine hK w' ?_ ((Below.refl _ _).grown hgr (Nat.le_refl _) (fun k h=>by cases h))
  obtain ⟨hl',h | ⟨g,cap,cur,e,_,hh,_,_,hs,ht⟩⟩:=ho
  · exact absurd h.1 (by simp)
  · simp only [Value.slice.injEq,Option.some.injEq,Addr.mk.injEq] at e
    obtain ⟨⟨rfl,_⟩,_,rfl⟩:=e
    unfold BlkV
    rw [hh,← made_trees]
    have:cur.toList=(madeCells (Value.cells zeroC.val) (n*8)).toList:=by
      have h2:=ht
      rw [List.take_of_length_le (by simp [hs])] at h2
      simpa using h2
    rw [← this]
theorem flat_at {w:World} {b o:Nat} {l:List Cel} (h:RdV w (some ⟨b,o,none⟩) (flat l)) (p:Nat) (hp:p<l.length) {c:Cel} (hc:l.getD p zeroC=c) :
    w.cell? ⟨b,o+p*8,none⟩=some (.int .i64 c.k)∧w.cell? ⟨b,o+p*8+1,none⟩=some (.bool c.b)∧w.cell? ⟨b,o+p*8+2,none⟩=some (.bool c.neg)∧w.cell? ⟨b,o+p*8+3,none⟩=some (.slice c.ma c.mn c.mc) ∧
    w.cell? ⟨b,o+p*8+4,none⟩=some (.int .i64 c.e)∧w.cell? ⟨b,o+p*8+5,none⟩=some (.string c.s)∧w.cell? ⟨b,o+p*8+6,none⟩=some (.slice c.ka c.kn c.kc)∧w.cell? ⟨b,o+p*8+7,none⟩=some (.slice c.va c.vn c.vc):=by
  have hg:l[p]=c:=by rw [← hc];simp [List.getD,hp]
  have key:∀ j,j<8→w.cell? ⟨b,o+(p*8+j),none⟩=c.cells[j]?:=fun j hj=>by
    rw [h.at (p*8+j) (by rw [flat_len];omega),flat_get l p j hp hj,hg]
  have k0:=key 0 (by decide);have k1:=key 1 (by decide);have k2:=key 2 (by decide);have k3:=key 3 (by decide)
  have k4:=key 4 (by decide);have k5:=key 5 (by decide);have k6:=key 6 (by decide);have k7:=key 7 (by decide)
  simp only [← Nat.add_assoc,Nat.add_zero] at k0 k1 k2 k3 k4 k5 k6 k7
  exact ⟨k0,k1,k2,k3,k4,k5,k6,k7⟩
theorem flat_set (l:List Cel) (p:Nat) (hp:p<l.length) (c:Cel) :
    ((((((((flat l).set (p*8) (.int .i64 c.k)).set (p*8+1) (.bool c.b)).set (p*8+2) (.bool c.neg)).set (p*8+3) (.slice c.ma c.mn c.mc)).set (p*8+4) (.int .i64 c.e)).set (p*8+5) (.string c.s)).set (p*8+6) (.slice c.ka c.kn c.kc)).set (p*8+7) (.slice c.va c.vn c.vc)=flat (l.set p c):=by
  apply List.ext_getElem?
  intro q
  simp only [List.getElem?_set,List.length_set,flat_len]
  by_cases hq:q<l.length*8
  · have h1:=flat_get (l.set p c) (q / 8) (q % 8) (by simp;omega) (Nat.mod_lt _ (by decide))
    rw [show q / 8*8+q % 8=q by omega] at h1
    rw [h1,List.getElem_set]
    have h2:=flat_get l (q / 8) (q % 8) (by omega) (Nat.mod_lt _ (by decide))
    rw [show q / 8*8+q % 8=q by omega] at h2
    by_cases e:p=q / 8
    · rw [if_pos e]
      have h8:q % 8=0∨q % 8=1∨q % 8=2∨q % 8=3∨q % 8=4∨q % 8=5∨q % 8=6∨q % 8=7:=by omega
      rcases h8 with h | h | h | h | h | h | h | h
      all_goals
        have hq':q=p*8+q % 8:=by omega
        rw [h] at hq' ⊢
        clear h h1 h2
        subst hq'
        simp [Cel.cells]
        try omega
    · rw [if_neg e,← h2]
      repeat (rw [if_neg (by omega)])
  · repeat (rw [if_neg (by omega)])
    rw [List.getElem?_eq_none (by rw [flat_len];omega),List.getElem?_eq_none (by rw [flat_len];simp;omega)]
def put8 (w:World) (b q:Nat) (c:Cel):World :=
  (((((((w.setCell ⟨b,q,none⟩ (.int .i64 c.k)).setCell ⟨b,q+1,none⟩ (.bool c.b)).setCell ⟨b,q+2,none⟩ (.bool c.neg)).setCell ⟨b,q+3,none⟩ (.slice c.ma c.mn c.mc)).setCell ⟨b,q+4,none⟩ (.int .i64 c.e)).setCell ⟨b,q+5,none⟩ (.string c.s)).setCell ⟨b,q+6,none⟩ (.slice c.ka c.kn c.kc)).setCell ⟨b,q+7,none⟩ (.slice c.va c.vn c.vc)
theorem put8_blk {w:World} {b:Nat} {l:List Cel} (h:BlkV w b 28 (flat l)) (p:Nat) (hp:p<l.length) (c:Cel):BlkV (put8 w b (p*8) c) b 28 (flat (l.set p c)):=by
  rw [← flat_set l p hp c]
  exact (((((((h.set _ _).set _ _).set _ _).set _ _).set _ _).set _ _).set _ _).set _ _
theorem put8_but (w:World) (b q:Nat) (c:Cel):But b w (put8 w b q c) :=
  ((((((((But.refl b w).setCell _ _).setCell _ _).setCell _ _).setCell _ _).setCell _ _).setCell _ _).setCell _ _).setCell _ _
theorem blk_olds {W:World} {g k:Nat} {l:List Cel} (h:BlkV W g 28 (flat l)) (hk:k<l.length) :
    (∃ z,W.cell? ⟨g,k*8,none⟩=some z)∧(∃ z,W.cell? ⟨g,k*8+1,none⟩=some z)∧(∃ z,W.cell? ⟨g,k*8+2,none⟩=some z)∧(∃ z,W.cell? ⟨g,k*8+3,none⟩=some z) ∧
    (∃ z,W.cell? ⟨g,k*8+4,none⟩=some z)∧(∃ z,W.cell? ⟨g,k*8+5,none⟩=some z)∧(∃ z,W.cell? ⟨g,k*8+6,none⟩=some z)∧(∃ z,W.cell? ⟨g,k*8+7,none⟩=some z):=by
  have key:∀ j,j<8→∃ z,W.cell? ⟨g,k*8+j,none⟩=some z:=fun j hj=>by
    rw [h.cell]
    have:k*8+j<(flat l).length:=by rw [flat_len];omega
    exact ⟨_,List.getElem?_eq_getElem this⟩
  exact ⟨key 0 (by decide),key 1 (by decide),key 2 (by decide),key 3 (by decide),key 4 (by decide),key 5 (by decide),key 6 (by decide),key 7 (by decide)⟩
inductive MT where
  | mk (c:Cel) (m:List Nat) (k:List ByteArray) (v:List MT)
def MT.c:MT→Cel | .mk c _ _ _=>c
def MT.m:MT→List Nat | .mk _ m _ _=>m
def MT.k:MT→List ByteArray | .mk _ _ k _=>k
def MT.v:MT→List MT | .mk _ _ _ v=>v
mutual
def MT.nodes:MT→Nat | .mk _ _ _ v=>1+MT.nodesL v
def MT.nodesL:List MT→Nat | []=>0 | t::l=>MT.nodes t+MT.nodesL l
end
mutual
/-- All nodes of a tree,each with how deep it is,each ahead of those in it. -/
def MT.pre:MT→Nat→List (Nat × MT) | .mk c m k v,d=>(d,.mk c m k v)::MT.preL v (d+1)
def MT.preL:List MT→Nat→List (Nat × MT) | [],_=>[] | t::l,d=>MT.pre t d++MT.preL l d
end
theorem MT.pre_eq (t:MT) (d:Nat):t.pre d=(d,t)::MT.preL t.v (d+1):=by cases t;rw [MT.pre];rfl
theorem MT.preL_nil (d:Nat):MT.preL [] d=[]:=by rw [MT.preL]
theorem MT.preL_cons (t:MT) (l:List MT) (d:Nat):MT.preL (t::l) d=t.pre d++MT.preL l d:=by rw [MT.preL]
theorem MT.nodes_eq (t:MT):t.nodes=1+MT.nodesL t.v:=by cases t;rw [MT.nodes];rfl
theorem MT.nodesL_nil:MT.nodesL []=0:=by rw [MT.nodesL]
theorem MT.nodesL_cons (t:MT) (l:List MT):MT.nodesL (t::l)=t.nodes+MT.nodesL l:=by rw [MT.nodesL]
theorem MT.nodes_pos (t:MT):1≤t.nodes:=by rw [MT.nodes_eq];omega
theorem MT.nodes_mem {t:MT} {l:List MT} (h:t∈l):t.nodes≤MT.nodesL l:=by
  induction l with
  | nil=>cases h
  | cons x l ih =>
    rw [MT.nodesL_cons]
    rcases List.mem_cons.1 h with rfl | h
    · omega
    · have:=ih h;omega
theorem MT.ind {P:MT→Prop} (h:∀ t,(∀ s∈t.v,P s)→P t):∀ t,P t:=by
  have key:∀ n t,MT.nodes t≤n→P t:=by
    intro n
    induction n with
    | zero=>intro t ht;have:=t.nodes_pos;omega
    | succ n ih =>
      intro t ht
      refine h t fun s hs=>ih s ?_
      have:=MT.nodes_mem hs
      rw [MT.nodes_eq] at ht
      omega
  exact fun t=>key _ t (Nat.le_refl _)
theorem MT.mem_preL {l:List MT} {d:Nat} {x:Nat × MT}:x∈MT.preL l d ↔ ∃ s∈l,x∈s.pre d:=by
  induction l with
  | nil=>rw [MT.preL_nil];simp
  | cons t l ih=>rw [MT.preL_cons,List.mem_append,ih];simp
theorem MT.mem_pre_shift (t:MT):∀ d e s,(∃ n,(n,s)∈t.pre d)→∃ n,(n,s)∈t.pre e :=
  MT.ind (P:=fun t=>∀ d e s,(∃ n,(n,s)∈t.pre d)→∃ n,(n,s)∈t.pre e) (fun t ih d e s h=>by
    obtain ⟨n,h⟩:=h
    rw [MT.pre_eq,List.mem_cons] at h
    rcases h with h | h
    · exact ⟨e,by rw [MT.pre_eq];simp at h ⊢;exact .inl h.2⟩
    · obtain ⟨u,hu,hx⟩:=MT.mem_preL.1 h
      obtain ⟨n',h'⟩:=ih u hu (d+1) (e+1) s ⟨n,hx⟩
      exact ⟨n',by rw [MT.pre_eq];exact List.mem_cons_of_mem _ (MT.mem_preL.2 ⟨u,hu,h'⟩)⟩) t
def MT.sub (t s:MT):Prop:=∃ n,(n,s)∈t.pre 0
theorem MT.sub_refl (t:MT):t.sub t:=⟨0,by rw [MT.pre_eq];simp⟩
theorem MT.sub_v {t u s:MT} (hu:u∈t.v) (h:u.sub s):t.sub s:=by
  obtain ⟨n,h⟩:=MT.mem_pre_shift u 0 1 s h
  exact ⟨n,by rw [MT.pre_eq];exact List.mem_cons_of_mem _ (MT.mem_preL.2 ⟨u,hu,h⟩)⟩
theorem MT.sub_cases {t s:MT} (h:t.sub s):s=t∨∃ u∈t.v,u.sub s:=by
  obtain ⟨n,h⟩:=h
  rw [MT.pre_eq,List.mem_cons] at h
  rcases h with h | h
  · left;simp at h;exact h.2
  · right
    obtain ⟨u,hu,hx⟩:=MT.mem_preL.1 h
    exact ⟨u,hu,MT.mem_pre_shift u 1 0 s ⟨n,hx⟩⟩
structure Rd1 (w:World) (t:MT):Prop where
  mn:t.m.length=t.c.mn
  mc:t.c.mn≤t.c.mc
  mo:Okl t.m
  mr:Rd w t.c.ma t.m
  kn:t.k.length=t.c.kn
  kc:t.c.kn≤t.c.kc
  kr:RdV w t.c.ka (sv t.k)
  vn:t.v.length=t.c.vn
  vc:t.c.vn≤t.c.vc
  vr:RdV w t.c.va (flat (t.v.map MT.c))
  lm:t.c.mn≤1000000000000000∧t.c.kn≤1000000000000000∧t.c.vn≤1000000000000000
  ls:t.c.s.size≤maxLen
  lk:∀ s∈t.k,s.size≤maxLen
  le:-9223372036854775808≤t.c.e∧t.c.e≤9223372036854775807
  lq:-9223372036854775808≤t.c.k∧t.c.k≤9223372036854775807
def Rep (w:World) (t:MT):Prop:=∀ s,t.sub s→Rd1 w s
theorem Rep.own {w:World} {t:MT} (h:Rep w t):Rd1 w t:=h t t.sub_refl
theorem Rep.part {w:World} {t s:MT} (h:Rep w t) (hs:s∈t.v):Rep w s:=fun u hu=>h u (MT.sub_v hs hu)
theorem Rep.mk {w:World} {t:MT} (h1:Rd1 w t) (h2:∀ s∈t.v,Rep w s):Rep w t:=by
  intro u hu
  rcases MT.sub_cases hu with rfl | ⟨s,hs,hu⟩
  · exact h1
  · exact h2 s hs u hu
theorem Rd1.on {w w':World} {t:MT} (h:Rd1 w t) (hb:Below w.heap.size w w'):Rd1 w' t :=
  ⟨h.mn,h.mc,h.mo,h.mr.below hb,h.kn,h.kc,h.kr.on hb,h.vn,h.vc,h.vr.on hb,h.lm,h.ls,h.lk,h.le,h.lq⟩
theorem Rep.on {w w':World} {t:MT} (h:Rep w t) (hb:Below w.heap.size w w'):Rep w' t:=fun s hs=>(h s hs).on hb
structure SE where
  ad:Option Addr
  n:Nat
  cap:Nat
  l:List MT
def SE.val (s:SE):Value:=.slice s.ad s.n s.cap
structure SEOk (w:World) (s:SE):Prop where
  ln:s.l.length=s.n
  lc:s.n≤s.cap
  lm:s.n≤1000000000000000
  rd:RdV w s.ad (flat (s.l.map MT.c))
  rp:∀ t∈s.l,Rep w t
theorem SEOk.on {w w':World} {s:SE} (h:SEOk w s) (hb:Below w.heap.size w w'):SEOk w' s :=
  ⟨h.ln,h.lc,h.lm,h.rd.on hb,fun t ht=>(h.rp t ht).on hb⟩
end Go.Proofs.YticgggjfmhiilaaDoor
namespace Go.Proofs.YticgggjfmhiilaaDoor
open Go.RowKit Go.Shelf
structure KeepB (V:Nat→Prop) (w w':World):Prop where
  os:w'.os=w.os
  tape:w'.tape=w.tape
  output:w'.output=w.output
  size:w.heap.size≤w'.heap.size
  block:∀ k,k<w.heap.size→¬ V k→w'.heap[k]? = w.heap[k]?
theorem KeepB.refl (V:Nat→Prop) (w:World):KeepB V w w:=⟨rfl,rfl,rfl,Nat.le_refl _,fun _ _ _=>rfl⟩
theorem KeepB.trans {V:Nat→Prop} {a b c:World} (h:KeepB V a b) (k:KeepB V b c):KeepB V a c :=
  ⟨k.os.trans h.os,k.tape.trans h.tape,k.output.trans h.output,Nat.le_trans h.size k.size,fun i hi hn=>(k.block i (Nat.lt_of_lt_of_le hi h.size) hn).trans (h.block i hi hn)⟩
theorem KeepB.of_below {V:Nat→Prop} {a b:World} (h:Below a.heap.size a b):KeepB V a b:=⟨h.os,h.tape,h.output,h.size,fun k hk _=>h.block k hk⟩
theorem KeepB.alloc {V:Nat→Prop} {a w:World} (h:KeepB V a w) (o:Obj):KeepB V a (w.alloc o):=h.trans (KeepB.of_below ((Below.refl _ w).alloc (Nat.le_refl _) o))
theorem KeepB.drewN {V:Nat→Prop} {a w:World} (h:KeepB V a w) (n:Nat):KeepB V a (w.drewN n):=h.trans ⟨rfl,rfl,rfl,Nat.le_refl _,fun _ _ _=>rfl⟩
theorem KeepB.drew {V:Nat→Prop} {a w:World} (h:KeepB V a w):KeepB V a w.drew:=h.trans ⟨rfl,rfl,rfl,Nat.le_refl _,fun _ _ _=>rfl⟩
theorem KeepB.setCell {V:Nat→Prop} {a w:World} (h:KeepB V a w) {p:Addr} (hp:V p.block∨a.heap.size≤p.block) (u:Value):KeepB V a (w.setCell p u):=by
  refine ⟨h.os,h.tape,h.output,by simp [World.setCell];exact h.size,fun k hk hn=>?_⟩
  rw [Below.heap_setCell _ _ _ _ (by rintro rfl;rcases hp with hp | hp;exact hn hp;omega)]
  exact h.block k hk hn
theorem KeepB.below {V:Nat→Prop} {w w':World} (h:KeepB V w w') {B:Nat} (hB:B≤w.heap.size) (hv:∀ k,V k→B≤k):Below B w w' :=
  ⟨h.os,h.tape,h.output,h.size,fun k hk=>h.block k (by omega) (fun e=>by have:=hv k e;omega)⟩
theorem KeepB.cell {V:Nat→Prop} {w w':World} (h:KeepB V w w') {p:Addr} (hp:p.block<w.heap.size) (hn:¬ V p.block):w'.cell? p=w.cell? p:=World.cell?_of_block (w:=w) (h.block p.block hp hn)
theorem KeepB.frozen {V:Nat→Prop} {w w':World} (h:KeepB V w w') {p:Addr} (hp:p.block<w.heap.size) (hn:¬ V p.block):w'.frozen? p=w.frozen? p:=World.frozen?_of_block (w:=w) (h.block p.block hp hn)
end Go.Proofs.YticgggjfmhiilaaDoor
