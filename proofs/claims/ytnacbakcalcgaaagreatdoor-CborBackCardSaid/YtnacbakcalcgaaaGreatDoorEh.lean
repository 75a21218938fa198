/- Texts of the claim. -/
import Derived.Test.YtnacbakcalcgaaaGreatDoorEg
import Derived.Lib.Bytealg
import Derived.Lib.ItoaNum
import Derived.Lib.Repeat
set_option linter.unusedVariables false
set_option linter.unusedSimpArgs false
set_option maxHeartbeats 200000
set_option maxRecDepth 100000
namespace Go.Proofs.YtnacbakcalcgaaaGreatDoor
open Go.RowKit
open Go.RowKit
open Go.RowKit
open Go.RowKit
def chkB (neg:Bool) (xs:List Nat) (e:Int):Bool :=
  if xs.length=0 then !neg && decide (e=0) else decide (xs.length≤90∧xs.getD (xs.length - 1) 0 ≠ 0∧-1200≤e∧e≤1200∧val xs % 10 ≠ 0)
theorem chkB_nil {neg:Bool} {e:Int}:chkB neg [] e=(!neg && decide (e=0)):=rfl
theorem chkB_zero {neg:Bool} {e:Int} (h:chkB neg [] e=true):neg=false∧e=0:=by
  simpa [chkB] using h
theorem chkB_some {neg:Bool} {xs:List Nat} {e:Int} (h0:xs ≠ []) (h:chkB neg xs e=true):xs.length≤90∧xs.getD (xs.length - 1) 0 ≠ 0∧-1200≤e∧e≤1200∧val xs % 10 ≠ 0:=by
  unfold chkB at h
  rw [if_neg (fun h1=>h0 (List.eq_nil_of_length_eq_zero h1))] at h
  exact of_decide_eq_true h
theorem chkB_bounds {neg:Bool} {xs:List Nat} {e:Int} (h:chkB neg xs e=true):xs.length≤90∧-1200≤e∧e≤1200:=by
  by_cases h0:xs=[]
  · subst h0;obtain ⟨_,rfl⟩:=chkB_zero h;exact ⟨by simp,by omega,by omega⟩
  · obtain ⟨a,_,b,c,_⟩:=chkB_some h0 h;exact ⟨a,b,c⟩
theorem chkB_limbs {neg:Bool} {xs:List Nat} {e:Int} (ho:Okl xs) (h:chkB neg xs e=true):limbs (val xs)=xs:=by
  by_cases h0:xs=[]
  · subst h0;exact limbs_zero
  · refine limbs_val ho fun n hn=>?_
    have:=(chkB_some h0 h).2.1
    rw [hn] at this
    exact this
theorem chkB_mk {neg:Bool} {N:Nat} {e:Int} (h0:N % 10 ≠ 0) (h1:(limbs N).length≤90) (h2:-1200≤e) (h3:e≤1200):chkB neg (limbs N) e=true:=by
  have hne:N ≠ 0:=by intro h;rw [h] at h0;exact h0 rfl
  have hl:(limbs N).length ≠ 0:=fun h=>hne ((limbs_nil_iff N).1 (List.eq_nil_of_length_eq_zero h))
  unfold chkB
  rw [if_neg hl]
  refine decide_eq_true ⟨h1,?_,h2,h3,by rw [val_limbs];exact h0⟩
  obtain ⟨t,ht⟩:∃ t,(limbs N).length=t+1:=⟨(limbs N).length - 1,by omega⟩
  rw [ht]
  exact limbs_top ht
def trimF:Nat→Nat→Nat
  | 0,_=>0
  | f+1,N=>if N % 10=0 then trimF f (N / 10)+1 else 0
def trimK (N:Nat):Nat:=trimF N N
def trimM (N:Nat):Nat:=N / tenN (trimK N)
theorem trimF_spec:∀ (f N:Nat),N≤f→N ≠ 0→N=N / tenN (trimF f N)*tenN (trimF f N)∧N / tenN (trimF f N) % 10 ≠ 0
  | 0,N,h,h0=>by omega
  | f+1,N,h,h0=>by
    unfold trimF
    by_cases h1:N % 10=0
    · rw [if_pos h1]
      obtain ⟨a,b⟩:=trimF_spec f (N / 10) (by omega) (by omega)
      have e:tenN (trimF f (N / 10)+1)=10*tenN (trimF f (N / 10)):=by rw [tenN_succ,Nat.mul_comm]
      rw [e,← Nat.div_div_eq_div_mul]
      refine ⟨?_,b⟩
      generalize N / 10 / tenN (trimF f (N / 10))=Q at *
      have h2:N=10*(N / 10):=by omega
      rw [Nat.mul_left_comm,← a]
      exact h2
    · rw [if_neg h1,tenN_zero]
      exact ⟨by simp,by simpa using h1⟩
theorem trim_spec {N:Nat} (h:N ≠ 0):N=trimM N*tenN (trimK N)∧trimM N % 10 ≠ 0:=trimF_spec N N (Nat.le_refl _) h
theorem trim_unique {N m k:Nat} (h:N=m*tenN k) (hm:m % 10 ≠ 0):trimM N=m∧trimK N=k:=by
  have hne:N ≠ 0:=by
    rw [h];exact Nat.mul_ne_zero (fun h0=>by rw [h0] at hm;exact hm rfl) (tenN_ne _)
  obtain ⟨a,b⟩:=trim_spec hne
  exact ten_unique (by rw [← a];exact h) b hm
def takes (l:List Nat) (c:Nat):Bool:=l.head? == some c
def rest (l:List Nat) (c:Nat):List Nat:=if takes l c then l.tail else l
def wholeBad (d:List Nat):Prop:=d=[]∨(1<d.length∧d.head? = some 48)
instance (d : List Nat) : Decidable (wholeBad d) := by unfold wholeBad; infer_instance
end Go.Proofs.YtnacbakcalcgaaaGreatDoor
