/- Texts of the claim. -/
import Derived.Test.YtnacbakcalcgaaaGreatDoorVB
set_option linter.unusedVariables false
set_option linter.unusedSimpArgs false
set_option maxHeartbeats 4000000
set_option maxRecDepth 100000
namespace Go.Proofs.YtnacbakcalcgaaaGreatDoor
open Go.RowKit Go.Shelf Go.Lib
def runeN (m b0 b1 b2 b3:Nat):Int × Nat:=if decodeN m b0 b1 b2 b3=(65533,1) then (-1,1) else (((decodeN m b0 b1 b2 b3).1:Int),(decodeN m b0 b1 b2 b3).2)
theorem runeL_N (l:List UInt8):runeL l=runeN l.length (bt l 0) (bt l 1) (bt l 2) (bt l 3):=rfl
theorem rN_bad {m b0 b1 b2 b3:Nat} (h:decodeN m b0 b1 b2 b3=(65533,1)):runeN m b0 b1 b2 b3=(-1,1):=by unfold runeN;rw [if_pos h]
theorem rN_ok {m b0 b1 b2 b3 c k:Nat} (h:decodeN m b0 b1 b2 b3=(c,k)) (hk:k ≠ 1∨c<128):runeN m b0 b1 b2 b3=((c:Int),k):=by
  unfold runeN;rw [h,if_neg]
  intro e
  have e1:=congrArg Prod.fst e
  have e2:=congrArg Prod.snd e
  simp at e1 e2;omega
theorem rN_one {m b0 b1 b2 b3:Nat} (h:b0<128):runeN m b0 b1 b2 b3=((b0:Int),1):=by
  refine rN_ok ?_ (.inr h);unfold decodeN;rw [if_pos h]
theorem rN_none {m b0 b1 b2 b3:Nat} (h:(128≤b0∧b0<194)∨245≤b0) (hb:b0<256):runeN m b0 b1 b2 b3=(-1,1):=by
  refine rN_bad ?_
  unfold decodeN
  repeat' split
  all_goals first | rfl | (exfalso;omega)
theorem rN_d0 {m b0 b1 b2 b3:Nat} (h:194≤b0∧b0<224) (c1:¬ (1<m∧b1 / 64=2)):runeN m b0 b1 b2 b3=(-1,1):=by
  refine rN_bad ?_
  unfold decodeN
  rw [if_neg (by omega),if_neg (by rintro ⟨_,h⟩;exact c1 h),if_neg (by omega),if_neg (by omega)]
theorem rN_d1 {m b0 b1 b2 b3:Nat} (h:194≤b0∧b0<224) (c1:1<m∧b1 / 64=2):runeN m b0 b1 b2 b3=(((b0 % 32*64+b1 % 64:Nat):Int),2):=by
  refine rN_ok ?_ (.inl (by omega))
  unfold decodeN
  rw [if_neg (by omega),if_pos ⟨by omega,c1⟩,if_pos (by omega)]
theorem rN_e0 {m b0 b1 b2 b3:Nat} (h:224≤b0∧b0<240) (c:¬ ((1<m∧b1 / 64=2)∧(2<m∧b2 / 64=2))):runeN m b0 b1 b2 b3=(-1,1):=by
  refine rN_bad ?_
  unfold decodeN
  rw [if_neg (by omega),if_neg (by omega),if_neg (by rintro ⟨_,h⟩;exact c h),if_neg (by omega)]
theorem rN_e2 {m b0 b1 b2 b3:Nat} (h:224≤b0∧b0<240) (c1:1<m∧b1 / 64=2) (c2:2<m∧b2 / 64=2) :
    (runeN m b0 b1 b2 b3).1=r3 (b0 % 16*4096+b1 % 64*64+b2 % 64)∧((runeN m b0 b1 b2 b3).2:Int)=m3 (b0 % 16*4096+b1 % 64*64+b2 % 64):=by
  by_cases hc:2048≤b0 % 16*4096+b1 % 64*64+b2 % 64∧(b0 % 16*4096+b1 % 64*64+b2 % 64<55296∨57343<b0 % 16*4096+b1 % 64*64+b2 % 64)
  · have e:decodeN m b0 b1 b2 b3=(b0 % 16*4096+b1 % 64*64+b2 % 64,3):=by
      unfold decodeN
      rw [if_neg (by omega),if_neg (by omega),if_pos ⟨by omega,c1,c2⟩,if_pos (by omega)]
    rw [rN_ok e (.inl (by omega))]
    exact ⟨r3_yes rfl hc,m3_yes hc⟩
  · have e:decodeN m b0 b1 b2 b3=(65533,1):=by
      unfold decodeN
      rw [if_neg (by omega),if_neg (by omega),if_pos ⟨by omega,c1,c2⟩,if_neg (by omega)]
    rw [rN_bad e]
    exact ⟨r3_no hc,m3_no hc⟩
theorem rN_f0 {m b0 b1 b2 b3:Nat} (h:240≤b0∧b0<245) (c:¬ ((1<m∧b1 / 64=2)∧(2<m∧b2 / 64=2)∧(3<m∧b3 / 64=2))):runeN m b0 b1 b2 b3=(-1,1):=by
  refine rN_bad ?_
  unfold decodeN
  rw [if_neg (by omega),if_neg (by omega),if_neg (by omega),if_neg (by rintro ⟨_,h⟩;exact c h)]
theorem rN_f3 {m b0 b1 b2 b3:Nat} (h:240≤b0∧b0<245) (c1:1<m∧b1 / 64=2) (c2:2<m∧b2 / 64=2) (c3:3<m∧b3 / 64=2) :
    (runeN m b0 b1 b2 b3).1=r4 (b0 % 8*262144+b1 % 64*4096+b2 % 64*64+b3 % 64)∧((runeN m b0 b1 b2 b3).2:Int)=m4 (b0 % 8*262144+b1 % 64*4096+b2 % 64*64+b3 % 64):=by
  by_cases hc:65536≤b0 % 8*262144+b1 % 64*4096+b2 % 64*64+b3 % 64∧b0 % 8*262144+b1 % 64*4096+b2 % 64*64+b3 % 64≤1114111
  · have e:decodeN m b0 b1 b2 b3=(b0 % 8*262144+b1 % 64*4096+b2 % 64*64+b3 % 64,4):=by
      unfold decodeN
      rw [if_neg (by omega),if_neg (by omega),if_neg (by omega),if_pos ⟨by omega,c1,c2,c3⟩,if_pos (by omega)]
    rw [rN_ok e (.inl (by omega))]
    exact ⟨r4_yes rfl hc,m4_yes hc⟩
  · have e:decodeN m b0 b1 b2 b3=(65533,1):=by
      unfold decodeN
      rw [if_neg (by omega),if_neg (by omega),if_neg (by omega),if_pos ⟨by omega,c1,c2,c3⟩,if_neg (by omega)]
    rw [rN_bad e]
    exact ⟨r4_no hc,m4_no hc⟩
theorem RunePost.below {r m:Int} {w:World} {e:Ending} {w':World} (h:RunePost r m w e w'):e=.returned (.tuple #[.int .i32 r,.int .i64 m])∧Below w.heap.size w w':=by
  obtain ⟨he,q,rfl⟩:=h
  exact ⟨he,(Below.refl _ _).trans ⟨rfl,rfl,rfl,Nat.le_refl _,fun _ _=>rfl⟩⟩
theorem cont_yes {s:ByteArray} {k:Nat} (h:k<s.size∧bt s.data.toList k / 64=2):contB s k=true:=decide_eq_true h
theorem cont_no {s:ByteArray} {k:Nat} (h:¬ (k<s.size∧bt s.data.toList k / 64=2)):contB s k=false:=decide_eq_false h
theorem refRune_in (s:ByteArray) (n:Nat) (w:World) (hs:s.size≤1000000) (hn:n<s.size) :
    Calls Tryz.prog 197 #[.string s,.int .i64 n] w (RunePost (runeL (tailL s n)).1 ((runeL (tailL s n)).2:Int) w):=by
  have e0:bt (tailL s n) 0=(s[n]'hn).toNat:=by unfold tailL;rw [bt_drop,Nat.add_zero];exact bt_get8 s n hn
  have ek:∀ k,bt (tailL s n) k=bt s.data.toList (n+k):=fun k=>by unfold tailL;rw [bt_drop]
  have hl:=tailL_length s n
  rw [runeL_N,e0,ek 1,ek 2,ek 3,hl]
  have hx:=(s[n]'hn).toNat_lt
  have hc:∀ k,(k<s.size - n∧bt s.data.toList (n+k) / 64=2) ↔ (n+k<s.size∧bt s.data.toList (n+k) / 64=2):=fun k=>by constructor <;> rintro ⟨h1,h2⟩ <;> exact ⟨by omega,h2⟩
  have b0:=(s[n]'hn).toNat
  by_cases r0:(s[n]'hn).toNat<128
  · rw [rN_one r0]
    exact refRune_one s n w hs hn _ rfl ⟨by omega,r0⟩
  · by_cases r1:(s[n]'hn).toNat<194
    · rw [rN_none (.inl ⟨by omega,r1⟩) hx]
      exact refRune_c s n w hs hn _ rfl ⟨by omega,r1⟩
    · by_cases r2:(s[n]'hn).toNat<224
      · by_cases c1:n+1<s.size∧bt s.data.toList (n+1) / 64=2
        · rw [rN_d1 ⟨by omega,r2⟩ ((hc 1).2 c1),bt_get8 s (n+1) c1.1]
          exact refRune_d1 s n w hs hn _ _ rfl ⟨by omega,r2⟩ (cont_yes c1) c1.1 rfl
        · rw [rN_d0 ⟨by omega,r2⟩ (fun h=>c1 ((hc 1).1 h))]
          exact refRune_d0 s n w hs hn _ rfl ⟨by omega,r2⟩ (cont_no c1)
      · by_cases r3:(s[n]'hn).toNat<240
        · by_cases c1:n+1<s.size∧bt s.data.toList (n+1) / 64=2
          · by_cases c2:n+2<s.size∧bt s.data.toList (n+2) / 64=2
            · obtain ⟨p1,p2⟩:=rN_e2 (b3:=bt s.data.toList (n+3)) (show 224≤(s[n]'hn).toNat∧(s[n]'hn).toNat<240 from ⟨by omega,r3⟩) ((hc 1).2 c1) ((hc 2).2 c2)
              rw [p1,p2,bt_get8 s (n+1) c1.1,bt_get8 s (n+2) c2.1]
              exact refRune_e2 s n w hs hn _ _ _ rfl ⟨by omega,r3⟩ (cont_yes c1) (cont_yes c2) c1.1 rfl c2.1 rfl
            · rw [rN_e0 ⟨by omega,r3⟩ (fun h=>c2 ((hc 2).1 h.2))]
              exact refRune_e1 s n w hs hn _ rfl ⟨by omega,r3⟩ (cont_yes c1) (cont_no c2)
          · rw [rN_e0 ⟨by omega,r3⟩ (fun h=>c1 ((hc 1).1 h.1))]
            exact refRune_e0 s n w hs hn _ rfl ⟨by omega,r3⟩ (cont_no c1)
        · by_cases r4:(s[n]'hn).toNat<245
          · by_cases c1:n+1<s.size∧bt s.data.toList (n+1) / 64=2
            · by_cases c2:n+2<s.size∧bt s.data.toList (n+2) / 64=2
              · by_cases c3:n+3<s.size∧bt s.data.toList (n+3) / 64=2
                · obtain ⟨p1,p2⟩:=rN_f3 (show 240≤(s[n]'hn).toNat∧(s[n]'hn).toNat<245 from ⟨by omega,r4⟩) ((hc 1).2 c1) ((hc 2).2 c2) ((hc 3).2 c3)
                  rw [p1,p2,bt_get8 s (n+1) c1.1,bt_get8 s (n+2) c2.1,bt_get8 s (n+3) c3.1]
                  exact refRune_f3 s n w hs hn _ _ _ _ rfl ⟨by omega,r4⟩ (cont_yes c1) (cont_yes c2) (cont_yes c3) c1.1 rfl c2.1 rfl c3.1 rfl
                · rw [rN_f0 ⟨by omega,r4⟩ (fun h=>c3 ((hc 3).1 h.2.2))]
                  exact refRune_f2 s n w hs hn _ rfl ⟨by omega,r4⟩ (cont_yes c1) (cont_yes c2) (cont_no c3)
              · rw [rN_f0 ⟨by omega,r4⟩ (fun h=>c2 ((hc 2).1 h.2.1))]
                exact refRune_f1 s n w hs hn _ rfl ⟨by omega,r4⟩ (cont_yes c1) (cont_no c2)
            · rw [rN_f0 ⟨by omega,r4⟩ (fun h=>c1 ((hc 1).1 h.1))]
              exact refRune_f0 s n w hs hn _ rfl ⟨by omega,r4⟩ (cont_no c1)
          · rw [rN_none (.inr (by omega)) hx]
            exact refRune_z s n w hs hn _ rfl ⟨by omega,by omega⟩

def QR (s:ByteArray) (B:Nat) (w:World) (k:Nat) (v a:Value) (wr:World):Prop :=
  ∃ pos acc,s.size - pos≤k∧a=.int .i64 ((pos:Nat):Int)∧acc++runesL (tailL s pos)=runesL s.data.toList∧acc.length≤pos∧pos≤s.size∧wr.ownsRow B 21 1 v acc.length (rv acc)∧Below B w wr
theorem QR.step {s:ByteArray} {B:Nat} {w wr w':World} {k pos:Nat} {acc:List Int} {v v':Value} {o:Obj} (hp:pos<s.size) (hk:s.size - pos≤k+1) (ha:acc++runesL (tailL s pos)=runesL s.data.toList) (hl:acc.length≤pos)
    (ho:wr.ownsRow B 21 1 v acc.length (rv acc)) (hb:Below B w wr) (hB:B≤wr.heap.size)
    (h1:w'.ownsRow B 21 1 v' (acc.length+1) (rv acc++[.int .i32 (runeL (tailL s pos)).1])) (h2:(wr.alloc o).grownBy w' v.ownBlock):QR s B w k v' (.int .i64 ((pos+(runeL (tailL s pos)).2:Nat):Int)) w':=by
  have hw:=runeL_width (tailL s pos) (tailL_ne hp)
  rw [tailL_length] at hw
  refine ⟨pos+(runeL (tailL s pos)).2,acc++[(runeL (tailL s pos)).1],by omega,rfl,?_,by simp;omega,by omega,?_,?_⟩
  · rw [← ha,runesL_cons (tailL_ne hp),tailL_drop];simp
  · simpa [rv] using h1
  · exact (hb.alloc hB o).grown h2 (by simp;omega) (fun g hg=>(ho.lt g hg).1)
theorem refRunes_any (s:ByteArray) (w:World) (hs:s.size≤1000000) :
    Calls Tryz.prog 159 #[.string s] w (RunesPost (runesL s.data.toList) w):=by
  have hst:QR s w.heap.size w s.size (.slice none 0 0) (.int .i64 0) w :=
    ⟨0,[],by omega,rfl,by rw [tailL_zero];rfl,Nat.le_refl _,Nat.zero_le _,World.ownsRow_nil _ _ _ _,Below.refl _ _⟩
  have HST:=Lib.hid hst;clear hst
  have HUN:=Lib.hid (fun W (h:Below w.heap.size w W)=>h.size)
  generalize hB:w.heap.size=B at *
  have HB:=Lib.hid hB;clear hB
  go_enter Tryz.func159,Tryz.ntmps159
  go_wp2
  go_loopg [3,4] s.size (fun k v a wr=>QR s B w k v a wr)
  case atStart=>exact HST.out
  case round =>
    obtain ⟨pos,acc,hk,rfl,ha,hl,hps,ho,hb⟩:=hrel
    have HA:=Lib.hid ha;have HO:=Lib.hid ho;have HBL:=Lib.hid hb
    clear ha ho hb
    by_cases hp:pos<s.size
    · obtain ⟨k,rfl⟩:∃ k,gk=k+1:=⟨gk - 1,by omega⟩
      have hw:=runeL_width (tailL s pos) (tailL_ne hp)
      rw [tailL_length] at hw
      have KR:=Lib.hid ((refRune_in s pos wr hs hp).mono fun _ _ h=>h.below)
      have hpz:(pos:Int)<(s.size:Int):=by omega
      have HS:=Lib.hid (fun W o v' W' p1 p2 p3=>QR.step (s:=s) (B:=B) (w:=w) (wr:=W) (k:=k) (v:=u3) (v':=v') (o:=o) (w':=W') hp hk HA.out hl p1 p2 (HUN.out W p2) p3)
      generalize hd:(runeL (tailL s pos)).1=x at *
      generalize hm:(runeL (tailL s pos)).2=m at *
      clear hd hm
      go_wp2_with fail
      refine KR.out.mono ?_
      rintro r w1 ⟨rfl,h1⟩
      have ho1:=Lib.hid (own_below HO.out h1)
      have hb1:=Lib.hid (HBL.out.trans (h1.mono (HUN.out _ HBL.out)))
      clear h1
      go_wp2_with (at_builtin;refine wpl_app _ rfl _ _ rfl B _ acc.length (rv acc) rfl (ho1.out.alloc _) w1.heap.size x rfl (by simp) (by omega) (by have:=HUN.out _ hb1.out;simp;omega) ?_)
      intro v' w4 ho4 hg4
      have hr1:=HS.out w1 _ v' w4 ho1.out hb1.out ho4 hg4
      rw [Int.natCast_add] at hr1
      have HR:=Lib.hid hr1;clear hr1
      clear ho4 hg4
      go_wp2
      go_roundg k
      case rel=>exact HR.out
      case measure=>omega
    · have hpz:¬ (pos:Int)<(s.size:Int):=by omega
      have hac:acc=runesL s.data.toList:=by rw [← HA.out,tailL_end (by omega),runesL_nil,List.append_nil]
      have HR:=Lib.hid (show RunesPost (runesL s.data.toList) w (.returned u3) wr from ⟨_,rfl,by rw [HB.out,← hac];exact HO.out,by rw [HB.out];exact HBL.out⟩)
      clear hac
      go_wp2
      go_ret
      exact HR.out
theorem valid_get {l:List UInt8}:validL l=true ↔ ∀ i,i<(runesL l).length→0≤(runesL l).getD i 0:=by
  unfold validL
  rw [List.all_eq_true]
  constructor
  · intro h i hi
    have:=h (runesL l)[i] (List.getElem_mem hi)
    simpa [List.getD,hi] using this
  · intro h r hr
    obtain ⟨i,hi,rfl⟩:=List.getElem_of_mem hr
    have:=h i hi
    simpa [List.getD,hi] using this
def PR (X:List Int) (w:World) (k:Nat) (v:Value) (wr:World):Prop:=∃ i,X.length - i≤k∧i≤X.length∧v=.int .i64 ((i:Nat):Int)∧(∀ j,j<i→0≤X.getD j 0)∧wr=w
theorem refValid_any (s:ByteArray) (w:World) (hs:s.size≤1000000) :
    Calls Tryz.prog 118 #[.string s] w fun e w'=>e=.returned (.bool (validL s.data.toList))∧Below w.heap.size w w':=by
  have KR:=Lib.hid (refRunes_any s w hs)
  have hlen:=runesL_le s.data.toList
  have hsz:s.data.toList.length=s.size:=by simp
  rw [hsz] at hlen
  have HV:=Lib.hid (valid_get (l:=s.data.toList))
  clear hsz
  go_enter Tryz.func118,Tryz.ntmps118
  go_wp2_with fail
  refine KR.out.mono ?_
  rintro r w1 ⟨v,rfl,ho,hb⟩
  obtain ⟨ad,cap,rfl,hc,hr⟩:=own_rk ho
  have HR:=Lib.hid hr;have HB:=Lib.hid hb;have HC:=Lib.hid hc
  clear ho hr hb hc
  generalize hX:runesL s.data.toList=X at *
  have HX:=Lib.hid hX;clear hX
  go_wp2
  go_loopg [4] X.length (fun k v wr=>PR X w1 k v wr)
  case atStart=>exact ⟨0,by omega,Nat.zero_le _,rfl,fun j hj=>by omega,rfl⟩
  case round =>
    obtain ⟨i,hk,hi,rfl,hpos,rfl⟩:=hrel
    have HP:=Lib.hid hpos;clear hpos
    by_cases hp:i<X.length
    · obtain ⟨k,rfl⟩:∃ k,gk=k+1:=⟨gk - 1,by omega⟩
      obtain ⟨b1,o1,hd1,_,c1⟩:=HR.out i hp
      subst hd1
      have hpz:(i:Int)<(X.length:Int):=by omega
      have HS:=Lib.hid (fun (h:0≤X.getD i 0) j (hj:j<i+1)=>(by
        by_cases e:j=i
        · subst e;exact h
        · exact HP.out j (by omega):0≤X.getD j 0))
      have HF:=Lib.hid (fun (h:¬ 0≤X.getD i 0)=>(by
        cases hv:validL s.data.toList
        · rfl
        · exact absurd (HV.out.1 hv i hp) h:validL s.data.toList=false))
      generalize X.getD i 0=y at *
      by_cases hy:y<0
      · have HF2:=Lib.hid (HF.out (by omega))
        have hyb:decide (y<0)=true:=decide_eq_true hy
        go_wp2
        go_ret
        exact ⟨by rw [HF2.out];rfl,HB.out⟩
      · have HS2:=Lib.hid (HS.out (by omega))
        have hyb:decide (y<0)=false:=decide_eq_false hy
        go_wp2
        go_roundg k
        case rel=>exact ⟨i+1,by omega,by omega,by go_num,HS2.out,rfl⟩
        case measure=>omega
    · have hpz:¬ (i:Int)<(X.length:Int):=by omega
      have HF2:=Lib.hid (HV.out.2 (fun j hj=>HP.out j (by omega)))
      go_wp2
      go_ret
      exact ⟨by rw [HF2.out];rfl,HB.out⟩
end Go.Proofs.YtnacbakcalcgaaaGreatDoor
namespace Go.Proofs.YtnacbakcalcgaaaGreatDoor
open Go.RowKit Go.Shelf
theorem rd_leqSC {P:Program} (w:World) (ev:Operand→Value) (o:Oper) (ty ty':TypeId) (x y:Operand) (s t:ByteArray) (ho:o.op=.binOp .leq ty x y ty') (hx:ev x=.string s) (hy:ev y=.string t) (h:Op.bytesLess s.toList t.toList=false) (h2:(s.toList == t.toList)=false) :
    (execOp ev o).run P w=.ok (.value (.bool false)) w:=by
  simp [execOp,ho,hx,hy,go_sem,binOp,Op.stringOp,h,h2]
theorem box_cellsJC {W:World} {b:Nat} {c:Array Value} {t:TypeId} (h:W.heap[b]? = some (.cells c t)) (i:Nat) (v:Value) (hv:c[i]? = some v):W.cell? ⟨b,i,none⟩=some v∧W.frozen? ⟨b,i,none⟩=false:=by
  simp [World.cell?,World.frozen?,h,hv]
theorem refZero_yesC (ma:Option Addr) (mc:Nat) (w:World):Calls Tryz.prog 117 #[.agg #[.bool false,.slice ma 0 mc,.int .i64 0]] w (BoolBelow true w):=by
  have HB:=Lib.hid ((Below.refl w.heap.size w).alloc (Nat.le_refl _) (.cells #[.bool false,.slice ma 0 mc,.int .i64 0] 25))
  go_enter Tryz.func117,Tryz.ntmps117
  go_wp2
  go_ret
  exact BoolBelow.mk rfl HB.out
end Go.Proofs.YtnacbakcalcgaaaGreatDoor
