/- Texts of the claim. -/
import Derived.Test.YtijaphbccnadbaaGreatDoorUi
import Derived.Deep.LoopGhost
set_option linter.unusedVariables false
set_option linter.unusedSimpArgs false
set_option maxHeartbeats 2000000
set_option maxRecDepth 100000
namespace Go.Proofs.YtijaphbccnadbaaGreatDoor
open Go.RowKit Go.Shelf
def okN (s:ByteArray):Bool:=decide (s.size≤2000) && validL s.data.toList
def ltS (a b:ByteArray):Bool:=Op.bytesLess a.toList b.toList
theorem ltS_yes {x y:ByteArray} (h:ltS y x=true):Op.bytesLess x.toList y.toList=false∧(x.toList == y.toList)=false:=by
  refine ⟨?_,?_⟩
  · cases h2:Op.bytesLess x.toList y.toList
    · rfl
    · have:=bytesLess_tr _ _ _ h h2;rw [bytesLess_irr] at this;cases this
  · rw [beq_eq_false_iff_ne];intro e
    unfold ltS at h;rw [e,bytesLess_irr] at h;cases h
theorem ltS_no {x y:ByteArray} (h:ltS y x=false):Op.bytesLess x.toList y.toList=true∨(Op.bytesLess x.toList y.toList=false∧(x.toList == y.toList)=true):=by
  rcases bytesLess_tot x.toList y.toList with h1 | h1 | h1
  · exact .inl h1
  · exact .inr ⟨by rw [h1,bytesLess_irr],by rw [h1];simp⟩
  · unfold ltS at h;rw [h1] at h;cases h
def nameAt (l:List ByteArray) (i:Nat):Bool:=okN (l.getD i ByteArray.empty) && (decide (i=0) || ltS (l.getD (i - 1) ByteArray.empty) (l.getD i ByteArray.empty))
def risesB (l:List ByteArray):Bool:=(List.range l.length).all (nameAt l)
theorem risesB_iff {l:List ByteArray}:risesB l=true ↔ ∀ i,i<l.length→nameAt l i=true:=by
  unfold risesB;rw [List.all_eq_true];simp
theorem risesB_no {l:List ByteArray} {i:Nat} (hi:i<l.length) (h:nameAt l i=false):risesB l=false:=by
  cases hb:risesB l
  · rfl
  · rw [risesB_iff.1 hb i hi] at h;cases h
def NR (l:List ByteArray) (w:World) (k:Nat) (i:Value) (wr:World):Prop :=
  ∃ j:Nat,j≤l.length∧l.length - j≤k∧i=.int .i64 (j:Int)∧(∀ q,q<j→nameAt l q=true)∧Below w.heap.size w wr
theorem namesRise_any (ad:Option Addr) (n cap:Nat) (l:List ByteArray) (w:World) (hl:l.length=n) (hcap:n≤cap) (hm:n≤1000000000000000) (hr:RdV w ad (sv l)) (hz:∀ s∈l,s.size≤maxLen) (hT:UT w) :
    Calls Tryz.prog 92 #[.slice ad n cap] w (BoolBelow (risesB l) w):=by
  have HL:=Lib.hid hl
  have HRD:=Lib.hid (fun W (h:Below w.heap.size w W)=>hr.on h)
  have HZ:=Lib.hid hz
  have HUT:=Lib.hid (fun W (h:Below w.heap.size w W)=>hT.below h)
  clear hl hr hz hT
  have HST:=Lib.hid (show NR l w n (.int .i64 0) w from ⟨0,Nat.zero_le _,by rw [HL.out];omega,rfl,fun q h=>by omega,Below.refl _ _⟩)
  go_enter Tryz.func92,Tryz.ntmps92
  go_wp2
  go_loopg [7] n (fun k i wr=>NR l w k i wr)
  case atStart=>exact HST.out
  case round =>
    obtain ⟨j,hj,hk,rfl,hpre,hb⟩:=hrel
    rw [HL.out] at hj hk
    have HP:=Lib.hid hpre;have HB:=Lib.hid hb
    clear hpre hb
    by_cases hlt:j<n
    · obtain ⟨k,rfl⟩:∃ k,gk=k+1:=⟨gk - 1,by omega⟩
      have hjz:(j:Int)<(n:Int):=by omega
      have hjl:j<l.length:=by rw [HL.out];exact hlt
      obtain ⟨b,o,rfl,hbl,hc⟩:=HRD.out wr HB.out j (by rw [sv_len];exact hjl)
      rw [sv_get _ _ hjl] at hc
      have hz:=HZ.out (l.getD j ByteArray.empty) (by simp [List.getD,hjl])
      have HNX:=Lib.hid (fun W (h:Below w.heap.size w W) (hn:nameAt l j=true)=>(show NR l w k (.int .i64 ((j:Int)+1)) W from
        ⟨j+1,by rw [HL.out];omega,by rw [HL.out];omega,rfl,fun q hq=>by
          by_cases e:q=j
          · subst e;exact hn
          · exact HP.out q (by omega),h⟩))
      have HNO:=Lib.hid (fun (hn:nameAt l j=false)=>risesB_no hjl hn)
      have KV:=Lib.hid (fun W (h:Below w.heap.size w W)=>valid_any (l.getD j ByteArray.empty) W hz (HUT.out W h))
      have HPR:=Lib.hid (fun W (h:Below w.heap.size w W) (h0:0<j)=>(by
        obtain ⟨b',o',e,_,hc⟩:=HRD.out W h (j - 1) (by rw [sv_len];omega)
        cases e
        rw [sv_get _ _ (by omega)] at hc;exact hc:W.cell? ⟨b,o+(j - 1),none⟩=some (.string (l.getD (j - 1) ByteArray.empty))))
      have HNA:=Lib.hid (show nameAt l j=(okN (l.getD j ByteArray.empty) && (decide (j=0) || ltS (l.getD (j - 1) ByteArray.empty) (l.getD j ByteArray.empty))) from rfl)
      have hz2:=HZ.out
      generalize l.getD j ByteArray.empty=x at *
      clear hz2
      unfold maxLen at hz
      by_cases hs:x.size≤2000
      · have d1:¬ (2000:Int)<(x.size:Int):=by omega
        cases hv:validL x.data.toList
        · have HF:=Lib.hid (HNO.out (by rw [HNA.out];unfold okN;rw [hv];simp))
          rw [hv] at KV
          clear hv
          go_wp2_with fail
          refine (KV.out _ HB.out).mono ?_
          rintro r w1 ⟨rfl,h1⟩
          have H1:=Lib.hid (below_on HB.out h1);clear h1
          go_wp2
          go_ret
          rw [HF.out]
          exact BoolBelow.mk rfl H1.out
        · have HOK:=Lib.hid (show okN x=true by unfold okN;rw [hv,decide_eq_true hs];rfl)
          rw [hv] at KV
          clear hv
          by_cases h0:j=0
          · have HY:=Lib.hid (HNO.out)
            have HT:=Lib.hid (show nameAt l j=true by rw [HNA.out,HOK.out,decide_eq_true h0];rfl)
            have d2:¬ 0<(j:Int):=by omega
            clear h0
            go_wp2_with fail
            refine (KV.out _ HB.out).mono ?_
            rintro r w1 ⟨rfl,h1⟩
            have H1:=Lib.hid (HNX.out _ (below_on HB.out h1) HT.out);clear h1
            go_wp2
            go_roundg k
            case rel=>exact H1.out
            case measure=>omega
          · have d2:0<(j:Int):=by omega
            have hj0:0<j:=by omega
            have hj1:(1:Int)≤(j:Int):=by omega
            obtain ⟨j',rfl⟩:∃ j',j=j'+1:=⟨j - 1,by omega⟩
            generalize hy:l.getD (j'+1 - 1) ByteArray.empty=y at *
            have hne:decide (j'+1=0)=false:=decide_eq_false (by omega)
            rw [hne,Bool.false_or] at HNA
            clear hne hy
            cases hc:ltS y x
            · have HF:=Lib.hid (HNO.out (by rw [HNA.out,HOK.out,hc];rfl))
              rcases ltS_no hc with e1 | ⟨e1,e2⟩
              all_goals
                clear hc
                go_wp2_with fail
                refine (KV.out _ HB.out).mono ?_
                rintro r w1 ⟨rfl,h1⟩
                have H1:=Lib.hid (below_on HB.out h1);clear h1
                have hc1:=HPR.out w1 H1.out hj0
                simp only [Nat.add_sub_cancel] at hc1
                go_wp2
                go_ret
                rw [HF.out]
                exact BoolBelow.mk rfl H1.out
            · obtain ⟨e1,e2⟩:=ltS_yes hc
              have HT:=Lib.hid (show nameAt l (j'+1)=true by rw [HNA.out,HOK.out,hc];rfl)
              clear hc
              go_wp2_with fail
              refine (KV.out _ HB.out).mono ?_
              rintro r w1 ⟨rfl,h1⟩
              have H1:=Lib.hid (below_on HB.out h1)
              have hc1:=HPR.out w1 H1.out hj0
              simp only [Nat.add_sub_cancel] at hc1
              have H2:=Lib.hid (HNX.out _ H1.out HT.out);clear h1
              go_wp2
              go_roundg k
              case rel=>exact H2.out
              case measure=>omega
      · have d1:(2000:Int)<(x.size:Int):=by omega
        have HF:=Lib.hid (HNO.out (by rw [HNA.out];unfold okN;rw [decide_eq_false hs];rfl))
        clear hs
        go_wp2
        go_ret
        rw [HF.out]
        exact BoolBelow.mk rfl HB.out
    · have hjz:¬ (j:Int)<(n:Int):=by omega
      have HF:=Lib.hid (show risesB l=true from risesB_iff.2 (fun q hq=>HP.out q (by rw [HL.out] at hq;omega)))
      go_wp2
      go_ret
      rw [HF.out]
      exact BoolBelow.mk rfl HB.out
end Go.Proofs.YtijaphbccnadbaaGreatDoor
