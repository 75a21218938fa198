/- Texts of the claim. -/
import Derived.Test.YtijaphbccnadbaaGreatDoorUC
import Derived.Test.YtijaphbccnadbaaGreatDoorUL
set_option linter.unusedVariables false
set_option linter.unusedSimpArgs false
set_option maxHeartbeats 2000000
set_option maxRecDepth 100000
namespace Go.Proofs.YtijaphbccnadbaaGreatDoor
open Go.RowKit Go.Sort
theorem is_yes (neg:Bool) (ad:Option Addr) (n cap:Nat) (xs:List Nat) (e:Int) (w:World) (hn:xs.length=n) (hcap:n≤cap) (hm:n≤100000000) (ho:Okl xs) (hr:Rd w ad xs) (h:chkB neg xs e=true) :
    Calls Tryz.prog 69 #[.agg #[.bool neg,.slice ad n cap,.int .i64 e]] w (NumBelow neg (.slice ad n cap) e w):=by
  have hbl:Below w.heap.size w ((w.alloc (.cells #[.bool neg,.slice ad n cap,.int .i64 e] 24)).alloc (.cells #[.bool false,.slice none 0 0,.int .i64 0] 24)):=((Below.refl _ _).alloc (Nat.le_refl _) _).alloc (by simp) _
  have HB:=Lib.hid hbl
  have K:=Lib.hid (refCheck_any neg ad n cap xs e _ hn hcap hm ho (hr.below hbl))
  clear hbl
  have H:=Lib.hid h;clear h
  have HN:=Lib.hid hn;clear hn
  go_enter Tryz.func69,Tryz.ntmps69
  go_wp2_with fail
  refine K.out.mono ?_
  rintro r w' ⟨rfl,hb⟩
  rw [H.out]
  obtain ⟨hc,hf⟩:=bcell hb
  have hz:w.heap.size+1<w'.heap.size:=by have:=hb.size;simp at this;omega
  have HB2:=Lib.hid hb;clear hb
  go_wp2
  have HB3:=HB.out.trans (HB2.out.mono (by simp;omega))
  exact bodyPost_ret (v:=.agg #[.bool neg,.slice ad n cap,.int .i64 e]) (by simp [results,Tryz.results69,go_sem,hc,hf,hz]) rfl ⟨rfl,((HB3.setCell (by simp) _).setCell (by simp) _).setCell (by simp) _⟩
theorem box3_cells {w:World} {g:Nat} {x0 x1 x2:Value} (hz:g<w.heap.size) (c0:w.cell? ⟨g,0,none⟩=some x0) (c1:w.cell? ⟨g,1,none⟩=some x1) (c2:w.cell? ⟨g,2,none⟩=some x2) (v0 v1 v2:Value) (b:Array Value) (t:TypeId) :
    ((((w.setCell ⟨g,0,none⟩ v0).setCell ⟨g,1,none⟩ v1).setCell ⟨g,2,none⟩ v2).alloc (.cells b t)).cell? ⟨g,0,none⟩=some v0∧((((w.setCell ⟨g,0,none⟩ v0).setCell ⟨g,1,none⟩ v1).setCell ⟨g,2,none⟩ v2).alloc (.cells b t)).cell? ⟨g,1,none⟩=some v1∧((((w.setCell ⟨g,0,none⟩ v0).setCell ⟨g,1,none⟩ v1).setCell ⟨g,2,none⟩ v2).alloc (.cells b t)).cell? ⟨g,2,none⟩=some v2:=by
  have hb:=below_box (((w.setCell ⟨g,0,none⟩ v0).setCell ⟨g,1,none⟩ v1).setCell ⟨g,2,none⟩ v2) b t
  have hs:g<(((w.setCell ⟨g,0,none⟩ v0).setCell ⟨g,1,none⟩ v1).setCell ⟨g,2,none⟩ v2).heap.size:=by simpa [World.setCell] using hz
  refine ⟨?_,?_,?_⟩
  · rw [hb.cell (p:=⟨g,0,none⟩) hs];simp [go_sem,c0,c1,c2]
  · rw [hb.cell (p:=⟨g,1,none⟩) hs];simp [go_sem,c0,c1,c2]
  · rw [hb.cell (p:=⟨g,2,none⟩) hs];simp [go_sem,c0,c1,c2]

end Go.Proofs.YtijaphbccnadbaaGreatDoor
