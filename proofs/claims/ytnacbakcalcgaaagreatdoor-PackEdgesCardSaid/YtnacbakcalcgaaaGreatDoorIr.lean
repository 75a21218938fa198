/- Texts of the claim. -/
import Derived.Test.YtnacbakcalcgaaaGreatDoorIq
set_option linter.unusedVariables false
set_option linter.unusedSimpArgs false
set_option maxHeartbeats 200000
set_option maxRecDepth 100000
namespace Go.Proofs.YtnacbakcalcgaaaGreatDoor
open Go.RowKit Go.Lib Go.Sort
def pickUC (us:List MT) (S:List Nat):List MT:=S.map fun p=>us.getD p (leafT 0 false ⟨#[]⟩)
theorem pickUC_c (us:List MT) (S:List Nat) (h:∀ p∈S,p<us.length):pickC (us.map MT.c) S=(pickUC us S).map MT.c:=by
  unfold pickC pickUC
  rw [List.map_map]
  apply List.map_congr_left
  intro p hp
  have:=h p hp
  simp [List.getD,this]
theorem pickUC_mem {us:List MT} {S:List Nat} (h:∀ p∈S,p<us.length) {x:MT} (hx:x∈pickUC us S):x∈us:=by
  unfold pickUC at hx
  obtain ⟨p,hp,rfl⟩:=List.mem_map.1 hx
  have:=h p hp
  simp [List.getD,this]
theorem pickUC_bare (us:List MT) (S:List Nat) (h:∀ p∈S,p<us.length):(pickUC us S).map MT.bare=S.map fun i=>(us.map MT.bare).getD i (leafT 0 false ⟨#[]⟩):=by
  unfold pickUC
  rw [List.map_map]
  apply List.map_congr_left
  intro p hp
  have:=h p hp
  simp [List.getD,this]
theorem obj_bareC {N:List ByteArray} {us:List MT} {k:Nat} (g1 g2:Nat) (hN:N.length=k) (hu:us.length=k) :
    (MT.mk (objC g1 g2 k) [] (pickB N (srt Op.bytesLess (keyB N) 0 k)) (pickUC us (srt Op.bytesLess (keyB N) 0 k))).bare =
      bobjC ((sortC N).map fun i=>N.getD i ByteArray.empty) ((sortC N).map fun i=>(us.map MT.bare).getD i (leafT 0 false ⟨#[]⟩)):=by
  have e:srt Op.bytesLess (keyB N) 0 k=sortC N:=by unfold sortC;rw [hN];rfl
  rw [MT.bare_eq,e]
  have hS:∀ p∈sortC N,p<us.length:=fun p hp=>by rw [← e] at hp;have:=srt_mem.1 hp;omega
  have hl:(sortC N).length=k:=by rw [← e,srt_len]
  show MT.mk (objC g1 g2 k).bare [] (pickB N (sortC N)) ((pickUC us (sortC N)).map MT.bare)=_
  rw [pickUC_bare us _ hS]
  unfold bobjC objT
  rw [List.length_map,List.length_map,hl]
  rfl
def obW:RC (List ByteArray × List MT)→RC MT
  | .inr x=>.inr x
  | .inl ((ks,us),r,n)=>if ks.Nodup then .inl (bobjC ((sortC ks).map fun i=>ks.getD i ByteArray.empty) ((sortC ks).map fun i=>us.getD i (leafT 0 false ⟨#[]⟩)),r,n) else .inr 2
theorem ValV.on {w0:World} {g d d0 n0:Nat} {l:List Nat} {r:RC MT} {w w1 w':World} {e:Ending} (h:StC w0 g l d0 n0 w w1) (hs:w.heap.size≤w1.heap.size) (h2:ValV w0 g d r w1 e w'):ValV w0 g d r w e w':=by
  unfold ValV at *
  cases r with
  | inr x=>exact ThrowC.on h h2
  | inl p =>
    obtain ⟨t',h3,h4,h5,h6⟩:=h2
    exact ⟨t',h3,h4,h5.to (Nat.le_refl _) (fun _ _ _=>rfl) (fun k _ (h:k<w.heap.size)=>Nat.lt_of_lt_of_le h hs) (fun _ h=>h),h.trans h6⟩
def liftN (n:Nat) (l:List Nat):MT ⊕ Int→RC MT
  | .inr x=>.inr x
  | .inl t=>.inl (t,l,n)
theorem ValN.val {w0:World} {g d n:Nat} {l:List Nat} {r:MT ⊕ Int} {w w':World} {e:Ending} (hr:RdC w0 g l d n w) (h:ValN w r e w'):ValV w0 g d (liftN n l r) w e w':=by
  unfold ValN at h
  unfold ValV
  cases r with
  | inr x=>exact ⟨h.1,_,_,_,StC.of_below hr h.2⟩
  | inl t =>
    obtain ⟨t',h3,h4,h5,h6⟩:=h
    exact ⟨t',h3,h4,h5,StC.of_below hr h6⟩

end Go.Proofs.YtnacbakcalcgaaaGreatDoor
