/- Texts of the claim. -/
import Derived.Test.YtnacbakcalcgaaaGreatDoorIo
set_option linter.unusedSimpArgs false
set_option linter.unusedVariables false
set_option maxHeartbeats 200000
set_option maxRecDepth 100000
namespace Go.Proofs.YtnacbakcalcgaaaGreatDoor
section
variable {P : Program} {ops : Array Oper} {Q : Exit → Act → World → Prop} {S : World → Prop}
end
section
variable {P : Program} {ops : Array Oper} {Q : Exit → Act → World → Prop} {S : Array Bool → World → Prop}
end
section
variable {P : Program} {ops : Array Oper} {Q : Exit → Act → World → Prop} {S : Array Bool → World → Prop}
end
end Go.Proofs.YtnacbakcalcgaaaGreatDoor
namespace Go.Proofs.YtnacbakcalcgaaaGreatDoor
open Go.RowKit Go.Shelf
section
variable {P : Program} {ops : Array Oper} {Q : Exit → Act → World → Prop} {S : Array Bool → World → Prop}
end
end Go.Proofs.YtnacbakcalcgaaaGreatDoor
namespace Go.Proofs.YtnacbakcalcgaaaGreatDoor
section
variable {P : Program}
end
end Go.Proofs.YtnacbakcalcgaaaGreatDoor
namespace Go.Proofs.YtnacbakcalcgaaaGreatDoor
open Go.RowKit Go.Lib Go.Sort Go.Shelf
theorem cellOf {W:World} {b:Nat} {c:Array Value} {t:TypeId} (h:W.heap[b]? = some (.cells c t)) (i:Nat) {v:Value} (hv:c[i]? = some v):W.cell? ⟨b,i,none⟩=some v:=by
  simp [World.cell?,h,hv]
theorem freeOf {W:World} {b:Nat} {c:Array Value} {t:TypeId} (h:W.heap[b]? = some (.cells c t)) (i:Nat):W.frozen? ⟨b,i,none⟩=false:=by
  simp [World.frozen?,h]
theorem set_otherC {w:World} {b i:Nat} {v:Value} {k:Nat} (h:k ≠ b):(w.setCell ⟨b,i,none⟩ v).heap[k]? = w.heap[k]?:=Below.heap_setCell _ _ _ _ (by simpa using h)
def ValN (w:World) (r:MT ⊕ Int) (e:Ending) (w':World):Prop:=match r with
  | .inl t=>∃ t':MT,e=.returned t'.c.val∧t'.bare=t∧Ind (fun k=>k<w.heap.size) w' (fun W=>Rep W t')∧Below w.heap.size w w'
  | .inr x=>e=.panicked [{ v:=.iface 32 (.int .i64 x),recovered:=false }]∧Below w.heap.size w w'
theorem ValN.yes {w w':World} {r:MT ⊕ Int} {e:Ending} {t:MT} (t':MT) (h:r=.inl t) (he:e=.returned t'.c.val) (hb:t'.bare=t) (hi:Ind (fun k=>k<w.heap.size) w' (fun W=>Rep W t')) (hw:Below w.heap.size w w'):ValN w r e w':=by
  subst h;exact ⟨t',he,hb,hi,hw⟩
theorem ValN.no {w w':World} {r:MT ⊕ Int} {x:Int} (h:r=.inr x) (hw:Below w.heap.size w w'):ValN w r (.panicked [{ v:=.iface 32 (.int .i64 x),recovered:=false }]) w':=by
  subst h;exact ⟨rfl,hw⟩
def BdR (r:Option (Bool × Nat × Int)):Prop:=∀ p,r=some p→(limbs p.2.1).length≤90∧-1200≤p.2.2∧p.2.2≤1200
theorem mkN_bd (neg:Bool) (N:Nat) (e:Int):BdR (mkN neg N e):=by
  intro p h
  unfold mkN at h
  split at h
  · simp only [Option.some.injEq] at h
    subst h
    simp [limbs_zero]
  · split at h
    · rename_i hb
      simp only [Option.some.injEq] at h
      subst h
      exact hb
    · cases h
theorem exactN_bd (width:Int) (x:Nat):BdR (exactN width x):=by
  intro p h
  unfold exactN at h
  split at h
  · simp only [Option.some.injEq] at h
    subst h
    simp only
    unfold exMW exEW
    cases hlo:layOf width with
    | none=>simp [limbs_zero]
    | some q =>
      obtain ⟨e,f⟩:=q
      simp only
      by_cases hk:kindF e f x=1
      · rw [if_pos hk,if_pos hk]
        have:=ex_bounds (layOf_lay hlo) hk
        exact ⟨this.2.2.1,this.2.2.2.1,this.2.2.2.2⟩
      · rw [if_neg hk,if_neg hk];simp [limbs_zero]
  · cases h
theorem numT_bareC (neg:Bool) (ad:Option Addr) (n cap:Nat) (x:Int) (m:List Nat):(numT neg ad n cap x m).bare=numT neg none n 0 x m:=by rw [MT.bare_eq];rfl
end Go.Proofs.YtnacbakcalcgaaaGreatDoor
