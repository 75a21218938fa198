/- Texts of the claim. -/
import Derived.Test.YtnacbakcalcgaaaGreatDoorVu
set_option linter.unusedVariables false
set_option linter.unusedSimpArgs false
set_option maxHeartbeats 200000
set_option maxRecDepth 100000
namespace Go.Proofs.YtnacbakcalcgaaaGreatDoor
open Go.RowKit Go.Lib Go.Sort




def CohC (t:MT):Prop:=∀ s,t.sub s→s.m.length=s.c.mn∧Okl s.m∧s.k.length=s.c.kn∧s.v.length=s.c.vn
theorem CohC.own {t:MT} (h:CohC t):t.m.length=t.c.mn∧Okl t.m∧t.k.length=t.c.kn∧t.v.length=t.c.vn:=h t t.sub_refl
theorem CohC.part {t u:MT} (h:CohC t) (hu:u∈t.v):CohC u:=fun s hs=>h s (MT.sub_v hu hs)
def SndC (t:MT) (d:Nat):Prop:=∀ x∈t.pre d,x.1≤64∧soundB x.2=true
theorem SndC.own {t:MT} {d:Nat} (h:SndC t d):d≤64∧soundB t=true:=h (d,t) (by rw [MT.pre_eq];simp)
theorem SndC.part {t u:MT} {d:Nat} (h:SndC t d) (hu:u∈t.v):SndC u (d+1):=fun x hx=>h x (by rw [MT.pre_eq];exact List.mem_cons_of_mem _ (MT.mem_preL.2 ⟨u,hu,hx⟩))



end Go.Proofs.YtnacbakcalcgaaaGreatDoor
namespace Go.Proofs.YtnacbakcalcgaaaGreatDoor
open Go.RowKit



end Go.Proofs.YtnacbakcalcgaaaGreatDoor
