/- Texts of the claim. -/
import Derived.Test.YtnacbakcalcgaaaGreatDoorHK
set_option linter.unusedVariables false
set_option linter.unusedSimpArgs false
set_option maxHeartbeats 80000000
set_option maxRecDepth 100000
namespace Go.Proofs.YtnacbakcalcgaaaGreatDoor
open Go.RowKit Go.Shelf
theorem nidx0 (w:World):Sem.run Tryz.prog (Instr.index 114 (.agg #[.int .i64 0,.int .i64 1,.int .i64 2,.int .i64 3,.int .i64 4,.int .i64 5,.int .i64 6,.int .i64 8,.int .i64 9]) (.int .i64 0)) w=Result.ok (.int .i64 0) w:=by kernel_rfl
theorem nidx1 (w:World):Sem.run Tryz.prog (Instr.index 114 (.agg #[.int .i64 0,.int .i64 1,.int .i64 2,.int .i64 3,.int .i64 4,.int .i64 5,.int .i64 6,.int .i64 8,.int .i64 9]) (.int .i64 1)) w=Result.ok (.int .i64 1) w:=by kernel_rfl
theorem nidx2 (w:World):Sem.run Tryz.prog (Instr.index 114 (.agg #[.int .i64 0,.int .i64 1,.int .i64 2,.int .i64 3,.int .i64 4,.int .i64 5,.int .i64 6,.int .i64 8,.int .i64 9]) (.int .i64 2)) w=Result.ok (.int .i64 2) w:=by kernel_rfl
theorem nidx3 (w:World):Sem.run Tryz.prog (Instr.index 114 (.agg #[.int .i64 0,.int .i64 1,.int .i64 2,.int .i64 3,.int .i64 4,.int .i64 5,.int .i64 6,.int .i64 8,.int .i64 9]) (.int .i64 3)) w=Result.ok (.int .i64 3) w:=by kernel_rfl
theorem nidx4 (w:World):Sem.run Tryz.prog (Instr.index 114 (.agg #[.int .i64 0,.int .i64 1,.int .i64 2,.int .i64 3,.int .i64 4,.int .i64 5,.int .i64 6,.int .i64 8,.int .i64 9]) (.int .i64 4)) w=Result.ok (.int .i64 4) w:=by kernel_rfl
theorem nidx5 (w:World):Sem.run Tryz.prog (Instr.index 114 (.agg #[.int .i64 0,.int .i64 1,.int .i64 2,.int .i64 3,.int .i64 4,.int .i64 5,.int .i64 6,.int .i64 8,.int .i64 9]) (.int .i64 5)) w=Result.ok (.int .i64 5) w:=by kernel_rfl
theorem nidx6 (w:World):Sem.run Tryz.prog (Instr.index 114 (.agg #[.int .i64 0,.int .i64 1,.int .i64 2,.int .i64 3,.int .i64 4,.int .i64 5,.int .i64 6,.int .i64 8,.int .i64 9]) (.int .i64 6)) w=Result.ok (.int .i64 6) w:=by kernel_rfl
theorem nidx7 (w:World):Sem.run Tryz.prog (Instr.index 114 (.agg #[.int .i64 0,.int .i64 1,.int .i64 2,.int .i64 3,.int .i64 4,.int .i64 5,.int .i64 6,.int .i64 8,.int .i64 9]) (.int .i64 7)) w=Result.ok (.int .i64 8) w:=by kernel_rfl
theorem nidx8 (w:World):Sem.run Tryz.prog (Instr.index 114 (.agg #[.int .i64 0,.int .i64 1,.int .i64 2,.int .i64 3,.int .i64 4,.int .i64 5,.int .i64 6,.int .i64 8,.int .i64 9]) (.int .i64 8)) w=Result.ok (.int .i64 9) w:=by kernel_rfl
theorem madeV_any (d:Nat) (hd:d≤10) (ih:∀ d',d=d'+1→∀ (v:Value) (w:World),IntsV w v→Calls Tryz.prog 45 #[v,.int .i64 (d':Int)] w (MadeP d' v w)) (n c:Nat) (bl ol:Nat) (w:World) (hI:IntsV w (.slice (some ⟨bl,ol,none⟩) n c)) (hn0:1≤n) :
    Calls Tryz.prog 45 #[.slice (some ⟨bl,ol,none⟩) n c,.int .i64 (d:Int)] w (MadeP d (.slice (some ⟨bl,ol,none⟩) n c) w):=by
  obtain ⟨wA,hwA⟩:∃ W,w.alloc (.cells #[.int .i64 0,.bool false,.bool false,.slice none 0 0,.int .i64 0,.string ⟨#[]⟩,.slice none 0 0,.slice none 0 0] 29)=W:=⟨_,rfl⟩
  have hbA:Below w.heap.size w wA:=by rw [← hwA];exact (Below.refl _ _).alloc (Nat.le_refl _) _
  have hsA:wA.heap.size=w.heap.size+1:=by rw [← hwA];simp
  have HBA:=Lib.hid hbA;have HSA:=Lib.hid hsA
  have HB4:=Lib.hid (show BoxT wA w.heap.size (leafC 0 false ⟨#[]⟩) by rw [← hwA];exact heap_alloc_new w _)
  have HII:=Lib.hid (fun W (h:Below w.heap.size w W)=>(hI.on h:IntsV W (.slice (some ⟨bl,ol,none⟩) n c)))
  obtain ⟨x,hx,hc⟩:∃ x:Int,(-9223372036854775808≤x∧x≤9223372036854775807)∧wA.cell? ⟨bl,ol,none⟩=some (.int .i64 x):=by
    obtain ⟨a,n',c',xs,e,h2,h3,h4,h5,h6⟩:=hI.on hbA
    cases e
    cases xs with
    | nil=>simp at h3;omega
    | cons x xs =>
      refine ⟨x,h6 x (by simp),?_⟩
      obtain ⟨b,o,e,_,h⟩:=h2 0 (by simp)
      cases e
      simpa [iz] using h
  obtain ⟨hnc,hn6⟩:n≤c∧n≤1000000:=by
    obtain ⟨a,n',c',xs,e,h2,h3,h4,h5,h6⟩:=hI
    cases e
    exact ⟨h4,h5⟩
  have HT1:=Lib.hid (show c ≠ 1→∀ W,IntsV W (.slice (some ⟨bl,ol,none⟩) n c)→IntsV W (.slice (some ⟨bl,ol+1,none⟩) (n - 1) (c - 1)) from fun h W hW=>intsV_tail hn0 hW h)
  have HT2:=Lib.hid (show ∀ W,IntsV W (.slice (some ⟨bl,ol,none⟩) n c)→IntsV W (.slice (some ⟨bl,ol,none⟩) 0 0) from fun W hW=>intsV_last hW)
  have hn2:((n:Int) == 0)=false:=by rw [beq_eq_false_iff_ne];omega
  have hn1:(0:Int)<(n:Int):=by omega
  have hn3:(1:Int)≤(n:Int):=by omega
  have hcc:(1:Int)≤(c:Int):=by omega
  have KP:=Lib.hid (fun W=>place_big x 1073741824 W hx (by decide))
  have IH:=Lib.hid ih
  clear hI hbA hsA hx ih
  generalize hvv0:Value.slice (some ⟨bl,ol,none⟩) n c=v0 at HII HT1 HT2 ⊢
  have HV0:=Lib.hid hvv0
  clear hvv0
  rw [← HV0.out]
  generalize hMP:MadeP d (.slice (some ⟨bl,ol,none⟩) n c) w=MP
  rw [HV0.out] at hMP
  have HMP:=Lib.hid hMP
  clear hMP
  go_enter Tryz.func45,Tryz.ntmps45
  go_wp2_with fail
  refine (KP.out _).mono ?_
  rintro r w0 ⟨rfl,rfl⟩
  obtain ⟨vv,hvv,hv30⟩:∃ vv:Nat,x % 1073741824=(vv:Int)∧vv<1073741824:=⟨(x % 1073741824).toNat,by omega,by omega⟩
  rw [hvv]
  clear hvv hwA
  go_upto_region 4 with fail
  go_cut [0] (fun v wx=>(∀ W,IntsV W v0→IntsV W v)∧wx=w0)
  case first =>
    by_cases hc1:c=1
    · obtain rfl:n=1:=by omega
      subst hc1
      go_wp2_with fail
      go_meet
      exact ⟨HT2.out,rfl⟩
    · have hcb:(c == 1)=false:=by rw [beq_eq_false_iff_ne];exact hc1
      go_wp2_with fail
      go_meet
      exact ⟨HT1.out hc1,rfl⟩
  case rest =>
    obtain ⟨hl1,rfl⟩:=hcut
    have HL1:=Lib.hid hl1
    clear hl1 hc hnc hn6 hn2 hn1 hn3 hcc HT1 HT2 KP
    have hvar:=HB4.out.var
    unfold Var at hvar
    obtain ⟨⟨g0,g1,g2,g3,g4,g5,g6,g7⟩,f0,f1,f2,f3,f4,f5,f6,f7⟩:=hvar
    simp only [leafC] at g0 g1 g2 g3 g4 g5 g6 g7
    have KN:=Lib.hid (fun W=>(by have:=number_any (vv / 12) (by omega) W;rwa [show ((vv / 12:Nat):Int)=(vv:Int) / 12 by omega] at this:Calls Tryz.prog 78 #[.int .i64 ((vv:Int) / 12)] W (NumPost W)))
    have hvz:(vv:Int)<1073741824:=by omega
    have hr:(vv:Int) % 12=0∨(vv:Int) % 12=1∨(vv:Int) % 12=2∨(vv:Int) % 12=3∨(vv:Int) % 12=4∨(vv:Int) % 12=5∨(vv:Int) % 12=6∨(vv:Int) % 12=7∨(vv:Int) % 12=8∨(vv:Int) % 12=9∨(vv:Int) % 12=10∨(vv:Int) % 12=11:=by omega
    by_cases hd0:d=0
    · subst hd0
      rcases hr with hr | hr | hr | hr | hr | hr | hr | hr | hr | hr | hr | hr
      iterate 2
        · skip
          have hbx:=(put0_box HB4.out (c:=(leafC 1 (false) ⟨#[]⟩))).cells
          unfold put0 leafC at hbx
          simp only at hbx
          obtain ⟨e0,e1,e2,e3,e4,e5,e6,e7⟩:=hbx
          have HF:=Lib.hid (made_leaf (d:=0) (v0:=v0) (u0:=u0) 1 (false) ⟨#[]⟩ HBA.out HL1.out (by decide) (by first | decide | decide +kernel) (by first | rfl | decide +kernel))
          unfold put0 leafC Cel.val at HF
          simp only at HF
          rw [HMP.out] at HF
          go_wp2_with fail
          exact bodyPost_ret (v:=.tuple #[.agg #[.int .i64 1,.bool (false),.bool false,.slice none 0 0,.int .i64 0,.string ⟨#[]⟩,.slice none 0 0,.slice none 0 0],u0]) (by simp [results,Tryz.results45,go_sem,e0,e1,e2,e3,e4,e5,e6,e7]) rfl HF.out
        · skip
          have hbx:=(put0_box HB4.out (c:=(leafC 2 ((vv:Int) / 12 % 2 == 1) ⟨#[]⟩))).cells
          unfold put0 leafC at hbx
          simp only at hbx
          obtain ⟨e0,e1,e2,e3,e4,e5,e6,e7⟩:=hbx
          have HF:=Lib.hid (made_leaf (d:=0) (v0:=v0) (u0:=u0) 2 ((vv:Int) / 12 % 2 == 1) ⟨#[]⟩ HBA.out HL1.out (by decide) (by first | decide | decide +kernel) (by first | rfl | decide +kernel))
          unfold put0 leafC Cel.val at HF
          simp only at HF
          rw [HMP.out] at HF
          go_wp2_with fail
          exact bodyPost_ret (v:=.tuple #[.agg #[.int .i64 2,.bool ((vv:Int) / 12 % 2 == 1),.bool false,.slice none 0 0,.int .i64 0,.string ⟨#[]⟩,.slice none 0 0,.slice none 0 0],u0]) (by simp [results,Tryz.results45,go_sem,e0,e1,e2,e3,e4,e5,e6,e7]) rfl HF.out
        iterate 2
          · skip
            go_wp2_with fail
            refine (KN.out _).mono ?_
            rintro r wn ⟨ng,an,nn,cn,xn,en,rfl,hnew,hbn⟩
            have hb4:=HB4.out.on (hbn.block _ HB4.out.lt)
            have hvar:=hb4.var
            unfold Var at hvar
            obtain ⟨⟨g0,g1,g2,g3,g4,g5,g6,g7⟩,f0,f1,f2,f3,f4,f5,f6,f7⟩:=hvar
            simp only [leafC] at g0 g1 g2 g3 g4 g5 g6 g7
            have hbx:=(put0_box hb4 (c:=numC ng an nn cn en)).cells
            unfold put0 numC at hbx
            simp only at hbx
            obtain ⟨e0,e1,e2,e3,e4,e5,e6,e7⟩:=hbx
            rw [HSA.out] at hnew
            have HF:=Lib.hid (made_num (d:=0) (v0:=v0) (u0:=u0) (HBA.out.trans (hbn.mono HBA.out.size)) HL1.out hnew)
            unfold put0 numC Cel.val at HF
            simp only at HF
            rw [HMP.out] at HF
            clear hnew hbn hb4
            go_wp2_with fail
            exact bodyPost_ret (v:=.tuple #[.agg #[.int .i64 3,.bool false,.bool ng,.slice an nn cn,.int .i64 en,.string ⟨#[]⟩,.slice none 0 0,.slice none 0 0],u0]) (by simp [results,Tryz.results45,go_sem,e0,e1,e2,e3,e4,e5,e6,e7]) rfl HF.out
        · skip
          have hj:(vv:Int) / 12 % 9=0∨(vv:Int) / 12 % 9=1∨(vv:Int) / 12 % 9=2∨(vv:Int) / 12 % 9=3∨(vv:Int) / 12 % 9=4∨(vv:Int) / 12 % 9=5∨(vv:Int) / 12 % 9=6∨(vv:Int) / 12 % 9=7∨(vv:Int) / 12 % 9=8:=by omega
          rcases hj with hj | hj | hj | hj | hj | hj | hj | hj | hj
          · have hbx:=(put0_box HB4.out (c:=(leafC 4 (false) ByteArray.empty))).cells
            unfold put0 leafC at hbx
            simp only at hbx
            obtain ⟨e0,e1,e2,e3,e4,e5,e6,e7⟩:=hbx
            have HF:=Lib.hid (made_leaf (d:=0) (v0:=v0) (u0:=u0) 4 (false) ByteArray.empty HBA.out HL1.out (by decide) (by first | decide | decide +kernel) (by first | rfl | decide +kernel))
            unfold put0 leafC Cel.val at HF
            simp only at HF
            rw [HMP.out] at HF
            go_wp2_with fail
            rw [nidx0]
            go_wp2_with fail
            exact bodyPost_ret (v:=.tuple #[.agg #[.int .i64 4,.bool (false),.bool false,.slice none 0 0,.int .i64 0,.string ByteArray.empty,.slice none 0 0,.slice none 0 0],u0]) (by simp [results,Tryz.results45,go_sem,e0,e1,e2,e3,e4,e5,e6,e7]) rfl HF.out
          · have hbx:=(put0_box HB4.out (c:=(leafC 4 (false) ((⟨#[97,98,99,34,92,10,195,169,122]⟩:ByteArray).extract 0 1)))).cells
            unfold put0 leafC at hbx
            simp only at hbx
            obtain ⟨e0,e1,e2,e3,e4,e5,e6,e7⟩:=hbx
            have HF:=Lib.hid (made_leaf (d:=0) (v0:=v0) (u0:=u0) 4 (false) ((⟨#[97,98,99,34,92,10,195,169,122]⟩:ByteArray).extract 0 1) HBA.out HL1.out (by decide) (by first | decide | decide +kernel) (by first | rfl | decide +kernel))
            unfold put0 leafC Cel.val at HF
            simp only at HF
            rw [HMP.out] at HF
            go_wp2_with fail
            rw [nidx1]
            go_wp2_with fail
            exact bodyPost_ret (v:=.tuple #[.agg #[.int .i64 4,.bool (false),.bool false,.slice none 0 0,.int .i64 0,.string ((⟨#[97,98,99,34,92,10,195,169,122]⟩:ByteArray).extract 0 1),.slice none 0 0,.slice none 0 0],u0]) (by simp [results,Tryz.results45,go_sem,e0,e1,e2,e3,e4,e5,e6,e7]) rfl HF.out
          · have hbx:=(put0_box HB4.out (c:=(leafC 4 (false) ((⟨#[97,98,99,34,92,10,195,169,122]⟩:ByteArray).extract 0 2)))).cells
            unfold put0 leafC at hbx
            simp only at hbx
            obtain ⟨e0,e1,e2,e3,e4,e5,e6,e7⟩:=hbx
            have HF:=Lib.hid (made_leaf (d:=0) (v0:=v0) (u0:=u0) 4 (false) ((⟨#[97,98,99,34,92,10,195,169,122]⟩:ByteArray).extract 0 2) HBA.out HL1.out (by decide) (by first | decide | decide +kernel) (by first | rfl | decide +kernel))
            unfold put0 leafC Cel.val at HF
            simp only at HF
            rw [HMP.out] at HF
            go_wp2_with fail
            rw [nidx2]
            go_wp2_with fail
            exact bodyPost_ret (v:=.tuple #[.agg #[.int .i64 4,.bool (false),.bool false,.slice none 0 0,.int .i64 0,.string ((⟨#[97,98,99,34,92,10,195,169,122]⟩:ByteArray).extract 0 2),.slice none 0 0,.slice none 0 0],u0]) (by simp [results,Tryz.results45,go_sem,e0,e1,e2,e3,e4,e5,e6,e7]) rfl HF.out
          · have hbx:=(put0_box HB4.out (c:=(leafC 4 (false) ((⟨#[97,98,99,34,92,10,195,169,122]⟩:ByteArray).extract 0 3)))).cells
            unfold put0 leafC at hbx
            simp only at hbx
            obtain ⟨e0,e1,e2,e3,e4,e5,e6,e7⟩:=hbx
            have HF:=Lib.hid (made_leaf (d:=0) (v0:=v0) (u0:=u0) 4 (false) ((⟨#[97,98,99,34,92,10,195,169,122]⟩:ByteArray).extract 0 3) HBA.out HL1.out (by decide) (by first | decide | decide +kernel) (by first | rfl | decide +kernel))
            unfold put0 leafC Cel.val at HF
            simp only at HF
            rw [HMP.out] at HF
            go_wp2_with fail
            rw [nidx3]
            go_wp2_with fail
            exact bodyPost_ret (v:=.tuple #[.agg #[.int .i64 4,.bool (false),.bool false,.slice none 0 0,.int .i64 0,.string ((⟨#[97,98,99,34,92,10,195,169,122]⟩:ByteArray).extract 0 3),.slice none 0 0,.slice none 0 0],u0]) (by simp [results,Tryz.results45,go_sem,e0,e1,e2,e3,e4,e5,e6,e7]) rfl HF.out
          · have hbx:=(put0_box HB4.out (c:=(leafC 4 (false) ((⟨#[97,98,99,34,92,10,195,169,122]⟩:ByteArray).extract 0 4)))).cells
            unfold put0 leafC at hbx
            simp only at hbx
            obtain ⟨e0,e1,e2,e3,e4,e5,e6,e7⟩:=hbx
            have HF:=Lib.hid (made_leaf (d:=0) (v0:=v0) (u0:=u0) 4 (false) ((⟨#[97,98,99,34,92,10,195,169,122]⟩:ByteArray).extract 0 4) HBA.out HL1.out (by decide) (by first | decide | decide +kernel) (by first | rfl | decide +kernel))
            unfold put0 leafC Cel.val at HF
            simp only at HF
            rw [HMP.out] at HF
            go_wp2_with fail
            rw [nidx4]
            go_wp2_with fail
            exact bodyPost_ret (v:=.tuple #[.agg #[.int .i64 4,.bool (false),.bool false,.slice none 0 0,.int .i64 0,.string ((⟨#[97,98,99,34,92,10,195,169,122]⟩:ByteArray).extract 0 4),.slice none 0 0,.slice none 0 0],u0]) (by simp [results,Tryz.results45,go_sem,e0,e1,e2,e3,e4,e5,e6,e7]) rfl HF.out
          · have hbx:=(put0_box HB4.out (c:=(leafC 4 (false) ((⟨#[97,98,99,34,92,10,195,169,122]⟩:ByteArray).extract 0 5)))).cells
            unfold put0 leafC at hbx
            simp only at hbx
            obtain ⟨e0,e1,e2,e3,e4,e5,e6,e7⟩:=hbx
            have HF:=Lib.hid (made_leaf (d:=0) (v0:=v0) (u0:=u0) 4 (false) ((⟨#[97,98,99,34,92,10,195,169,122]⟩:ByteArray).extract 0 5) HBA.out HL1.out (by decide) (by first | decide | decide +kernel) (by first | rfl | decide +kernel))
            unfold put0 leafC Cel.val at HF
            simp only at HF
            rw [HMP.out] at HF
            go_wp2_with fail
            rw [nidx5]
            go_wp2_with fail
            exact bodyPost_ret (v:=.tuple #[.agg #[.int .i64 4,.bool (false),.bool false,.slice none 0 0,.int .i64 0,.string ((⟨#[97,98,99,34,92,10,195,169,122]⟩:ByteArray).extract 0 5),.slice none 0 0,.slice none 0 0],u0]) (by simp [results,Tryz.results45,go_sem,e0,e1,e2,e3,e4,e5,e6,e7]) rfl HF.out
          · have hbx:=(put0_box HB4.out (c:=(leafC 4 (false) ((⟨#[97,98,99,34,92,10,195,169,122]⟩:ByteArray).extract 0 6)))).cells
            unfold put0 leafC at hbx
            simp only at hbx
            obtain ⟨e0,e1,e2,e3,e4,e5,e6,e7⟩:=hbx
            have HF:=Lib.hid (made_leaf (d:=0) (v0:=v0) (u0:=u0) 4 (false) ((⟨#[97,98,99,34,92,10,195,169,122]⟩:ByteArray).extract 0 6) HBA.out HL1.out (by decide) (by first | decide | decide +kernel) (by first | rfl | decide +kernel))
            unfold put0 leafC Cel.val at HF
            simp only at HF
            rw [HMP.out] at HF
            go_wp2_with fail
            rw [nidx6]
            go_wp2_with fail
            exact bodyPost_ret (v:=.tuple #[.agg #[.int .i64 4,.bool (false),.bool false,.slice none 0 0,.int .i64 0,.string ((⟨#[97,98,99,34,92,10,195,169,122]⟩:ByteArray).extract 0 6),.slice none 0 0,.slice none 0 0],u0]) (by simp [results,Tryz.results45,go_sem,e0,e1,e2,e3,e4,e5,e6,e7]) rfl HF.out
          · have hbx:=(put0_box HB4.out (c:=(leafC 4 (false) ((⟨#[97,98,99,34,92,10,195,169,122]⟩:ByteArray).extract 0 8)))).cells
            unfold put0 leafC at hbx
            simp only at hbx
            obtain ⟨e0,e1,e2,e3,e4,e5,e6,e7⟩:=hbx
            have HF:=Lib.hid (made_leaf (d:=0) (v0:=v0) (u0:=u0) 4 (false) ((⟨#[97,98,99,34,92,10,195,169,122]⟩:ByteArray).extract 0 8) HBA.out HL1.out (by decide) (by first | decide | decide +kernel) (by first | rfl | decide +kernel))
            unfold put0 leafC Cel.val at HF
            simp only at HF
            rw [HMP.out] at HF
            go_wp2_with fail
            rw [nidx7]
            go_wp2_with fail
            exact bodyPost_ret (v:=.tuple #[.agg #[.int .i64 4,.bool (false),.bool false,.slice none 0 0,.int .i64 0,.string ((⟨#[97,98,99,34,92,10,195,169,122]⟩:ByteArray).extract 0 8),.slice none 0 0,.slice none 0 0],u0]) (by simp [results,Tryz.results45,go_sem,e0,e1,e2,e3,e4,e5,e6,e7]) rfl HF.out
          · have hbx:=(put0_box HB4.out (c:=(leafC 4 (false) ((⟨#[97,98,99,34,92,10,195,169,122]⟩:ByteArray).extract 0 9)))).cells
            unfold put0 leafC at hbx
            simp only at hbx
            obtain ⟨e0,e1,e2,e3,e4,e5,e6,e7⟩:=hbx
            have HF:=Lib.hid (made_leaf (d:=0) (v0:=v0) (u0:=u0) 4 (false) ((⟨#[97,98,99,34,92,10,195,169,122]⟩:ByteArray).extract 0 9) HBA.out HL1.out (by decide) (by first | decide | decide +kernel) (by first | rfl | decide +kernel))
            unfold put0 leafC Cel.val at HF
            simp only at HF
            rw [HMP.out] at HF
            go_wp2_with fail
            rw [nidx8]
            go_wp2_with fail
            exact bodyPost_ret (v:=.tuple #[.agg #[.int .i64 4,.bool (false),.bool false,.slice none 0 0,.int .i64 0,.string ((⟨#[97,98,99,34,92,10,195,169,122]⟩:ByteArray).extract 0 9),.slice none 0 0,.slice none 0 0],u0]) (by simp [results,Tryz.results45,go_sem,e0,e1,e2,e3,e4,e5,e6,e7]) rfl HF.out
        · skip
          have hj:(vv:Int) / 12 % 5=0∨(vv:Int) / 12 % 5=1∨(vv:Int) / 12 % 5=2∨(vv:Int) / 12 % 5=3∨(vv:Int) / 12 % 5=4:=by omega
          rcases hj with hj | hj | hj | hj | hj
          · have hbx:=(put0_box HB4.out (c:=(leafC 5 (false) ByteArray.empty))).cells
            unfold put0 leafC at hbx
            simp only at hbx
            obtain ⟨e0,e1,e2,e3,e4,e5,e6,e7⟩:=hbx
            have HF:=Lib.hid (made_leaf (d:=0) (v0:=v0) (u0:=u0) 5 (false) ByteArray.empty HBA.out HL1.out (by decide) (by first | decide | decide +kernel) (by first | rfl | decide +kernel))
            unfold put0 leafC Cel.val at HF
            simp only at HF
            rw [HMP.out] at HF
            go_wp2_with fail
            exact bodyPost_ret (v:=.tuple #[.agg #[.int .i64 5,.bool (false),.bool false,.slice none 0 0,.int .i64 0,.string ByteArray.empty,.slice none 0 0,.slice none 0 0],u0]) (by simp [results,Tryz.results45,go_sem,e0,e1,e2,e3,e4,e5,e6,e7]) rfl HF.out
          · have hbx:=(put0_box HB4.out (c:=(leafC 5 (false) ((⟨#[0,255,97,98]⟩:ByteArray).extract 0 1)))).cells
            unfold put0 leafC at hbx
            simp only at hbx
            obtain ⟨e0,e1,e2,e3,e4,e5,e6,e7⟩:=hbx
            have HF:=Lib.hid (made_leaf (d:=0) (v0:=v0) (u0:=u0) 5 (false) ((⟨#[0,255,97,98]⟩:ByteArray).extract 0 1) HBA.out HL1.out (by decide) (by first | decide | decide +kernel) (by first | rfl | decide +kernel))
            unfold put0 leafC Cel.val at HF
            simp only at HF
            rw [HMP.out] at HF
            go_wp2_with fail
            exact bodyPost_ret (v:=.tuple #[.agg #[.int .i64 5,.bool (false),.bool false,.slice none 0 0,.int .i64 0,.string ((⟨#[0,255,97,98]⟩:ByteArray).extract 0 1),.slice none 0 0,.slice none 0 0],u0]) (by simp [results,Tryz.results45,go_sem,e0,e1,e2,e3,e4,e5,e6,e7]) rfl HF.out
          · have hbx:=(put0_box HB4.out (c:=(leafC 5 (false) ((⟨#[0,255,97,98]⟩:ByteArray).extract 0 2)))).cells
            unfold put0 leafC at hbx
            simp only at hbx
            obtain ⟨e0,e1,e2,e3,e4,e5,e6,e7⟩:=hbx
            have HF:=Lib.hid (made_leaf (d:=0) (v0:=v0) (u0:=u0) 5 (false) ((⟨#[0,255,97,98]⟩:ByteArray).extract 0 2) HBA.out HL1.out (by decide) (by first | decide | decide +kernel) (by first | rfl | decide +kernel))
            unfold put0 leafC Cel.val at HF
            simp only at HF
            rw [HMP.out] at HF
            go_wp2_with fail
            exact bodyPost_ret (v:=.tuple #[.agg #[.int .i64 5,.bool (false),.bool false,.slice none 0 0,.int .i64 0,.string ((⟨#[0,255,97,98]⟩:ByteArray).extract 0 2),.slice none 0 0,.slice none 0 0],u0]) (by simp [results,Tryz.results45,go_sem,e0,e1,e2,e3,e4,e5,e6,e7]) rfl HF.out
          · have hbx:=(put0_box HB4.out (c:=(leafC 5 (false) ((⟨#[0,255,97,98]⟩:ByteArray).extract 0 3)))).cells
            unfold put0 leafC at hbx
            simp only at hbx
            obtain ⟨e0,e1,e2,e3,e4,e5,e6,e7⟩:=hbx
            have HF:=Lib.hid (made_leaf (d:=0) (v0:=v0) (u0:=u0) 5 (false) ((⟨#[0,255,97,98]⟩:ByteArray).extract 0 3) HBA.out HL1.out (by decide) (by first | decide | decide +kernel) (by first | rfl | decide +kernel))
            unfold put0 leafC Cel.val at HF
            simp only at HF
            rw [HMP.out] at HF
            go_wp2_with fail
            exact bodyPost_ret (v:=.tuple #[.agg #[.int .i64 5,.bool (false),.bool false,.slice none 0 0,.int .i64 0,.string ((⟨#[0,255,97,98]⟩:ByteArray).extract 0 3),.slice none 0 0,.slice none 0 0],u0]) (by simp [results,Tryz.results45,go_sem,e0,e1,e2,e3,e4,e5,e6,e7]) rfl HF.out
          · have hbx:=(put0_box HB4.out (c:=(leafC 5 (false) ((⟨#[0,255,97,98]⟩:ByteArray).extract 0 4)))).cells
            unfold put0 leafC at hbx
            simp only at hbx
            obtain ⟨e0,e1,e2,e3,e4,e5,e6,e7⟩:=hbx
            have HF:=Lib.hid (made_leaf (d:=0) (v0:=v0) (u0:=u0) 5 (false) ((⟨#[0,255,97,98]⟩:ByteArray).extract 0 4) HBA.out HL1.out (by decide) (by first | decide | decide +kernel) (by first | rfl | decide +kernel))
            unfold put0 leafC Cel.val at HF
            simp only at HF
            rw [HMP.out] at HF
            go_wp2_with fail
            exact bodyPost_ret (v:=.tuple #[.agg #[.int .i64 5,.bool (false),.bool false,.slice none 0 0,.int .i64 0,.string ((⟨#[0,255,97,98]⟩:ByteArray).extract 0 4),.slice none 0 0,.slice none 0 0],u0]) (by simp [results,Tryz.results45,go_sem,e0,e1,e2,e3,e4,e5,e6,e7]) rfl HF.out
    · have hdz:¬ (d:Int)≤0:=by omega
      rcases hr with hr | hr | hr | hr | hr | hr | hr | hr | hr | hr | hr | hr
      · skip
        have hbx:=(put0_box HB4.out (c:=(leafC 1 (false) ⟨#[]⟩))).cells
        unfold put0 leafC at hbx
        simp only at hbx
        obtain ⟨e0,e1,e2,e3,e4,e5,e6,e7⟩:=hbx
        have HF:=Lib.hid (made_leaf (d:=d) (v0:=v0) (u0:=u0) 1 (false) ⟨#[]⟩ HBA.out HL1.out (by decide) (by first | decide | decide +kernel) (by first | rfl | decide +kernel))
        unfold put0 leafC Cel.val at HF
        simp only at HF
        rw [HMP.out] at HF
        go_wp2_with fail
        exact bodyPost_ret (v:=.tuple #[.agg #[.int .i64 1,.bool (false),.bool false,.slice none 0 0,.int .i64 0,.string ⟨#[]⟩,.slice none 0 0,.slice none 0 0],u0]) (by simp [results,Tryz.results45,go_sem,e0,e1,e2,e3,e4,e5,e6,e7]) rfl HF.out
      · skip
        have hbx:=(put0_box HB4.out (c:=(leafC 2 ((vv:Int) / 12 % 2 == 1) ⟨#[]⟩))).cells
        unfold put0 leafC at hbx
        simp only at hbx
        obtain ⟨e0,e1,e2,e3,e4,e5,e6,e7⟩:=hbx
        have HF:=Lib.hid (made_leaf (d:=d) (v0:=v0) (u0:=u0) 2 ((vv:Int) / 12 % 2 == 1) ⟨#[]⟩ HBA.out HL1.out (by decide) (by first | decide | decide +kernel) (by first | rfl | decide +kernel))
        unfold put0 leafC Cel.val at HF
        simp only at HF
        rw [HMP.out] at HF
        go_wp2_with fail
        exact bodyPost_ret (v:=.tuple #[.agg #[.int .i64 2,.bool ((vv:Int) / 12 % 2 == 1),.bool false,.slice none 0 0,.int .i64 0,.string ⟨#[]⟩,.slice none 0 0,.slice none 0 0],u0]) (by simp [results,Tryz.results45,go_sem,e0,e1,e2,e3,e4,e5,e6,e7]) rfl HF.out
      iterate 2
        · skip
          go_wp2_with fail
          refine (KN.out _).mono ?_
          rintro r wn ⟨ng,an,nn,cn,xn,en,rfl,hnew,hbn⟩
          have hb4:=HB4.out.on (hbn.block _ HB4.out.lt)
          have hvar:=hb4.var
          unfold Var at hvar
          obtain ⟨⟨g0,g1,g2,g3,g4,g5,g6,g7⟩,f0,f1,f2,f3,f4,f5,f6,f7⟩:=hvar
          simp only [leafC] at g0 g1 g2 g3 g4 g5 g6 g7
          have hbx:=(put0_box hb4 (c:=numC ng an nn cn en)).cells
          unfold put0 numC at hbx
          simp only at hbx
          obtain ⟨e0,e1,e2,e3,e4,e5,e6,e7⟩:=hbx
          rw [HSA.out] at hnew
          have HF:=Lib.hid (made_num (d:=d) (v0:=v0) (u0:=u0) (HBA.out.trans (hbn.mono HBA.out.size)) HL1.out hnew)
          unfold put0 numC Cel.val at HF
          simp only at HF
          rw [HMP.out] at HF
          clear hnew hbn hb4
          go_wp2_with fail
          exact bodyPost_ret (v:=.tuple #[.agg #[.int .i64 3,.bool false,.bool ng,.slice an nn cn,.int .i64 en,.string ⟨#[]⟩,.slice none 0 0,.slice none 0 0],u0]) (by simp [results,Tryz.results45,go_sem,e0,e1,e2,e3,e4,e5,e6,e7]) rfl HF.out
      · skip
        have hj:(vv:Int) / 12 % 9=0∨(vv:Int) / 12 % 9=1∨(vv:Int) / 12 % 9=2∨(vv:Int) / 12 % 9=3∨(vv:Int) / 12 % 9=4∨(vv:Int) / 12 % 9=5∨(vv:Int) / 12 % 9=6∨(vv:Int) / 12 % 9=7∨(vv:Int) / 12 % 9=8:=by omega
        rcases hj with hj | hj | hj | hj | hj | hj | hj | hj | hj
        · have hbx:=(put0_box HB4.out (c:=(leafC 4 (false) ByteArray.empty))).cells
          unfold put0 leafC at hbx
          simp only at hbx
          obtain ⟨e0,e1,e2,e3,e4,e5,e6,e7⟩:=hbx
          have HF:=Lib.hid (made_leaf (d:=d) (v0:=v0) (u0:=u0) 4 (false) ByteArray.empty HBA.out HL1.out (by decide) (by first | decide | decide +kernel) (by first | rfl | decide +kernel))
          unfold put0 leafC Cel.val at HF
          simp only at HF
          rw [HMP.out] at HF
          go_wp2_with fail
          rw [nidx0]
          go_wp2_with fail
          exact bodyPost_ret (v:=.tuple #[.agg #[.int .i64 4,.bool (false),.bool false,.slice none 0 0,.int .i64 0,.string ByteArray.empty,.slice none 0 0,.slice none 0 0],u0]) (by simp [results,Tryz.results45,go_sem,e0,e1,e2,e3,e4,e5,e6,e7]) rfl HF.out
        · have hbx:=(put0_box HB4.out (c:=(leafC 4 (false) ((⟨#[97,98,99,34,92,10,195,169,122]⟩:ByteArray).extract 0 1)))).cells
          unfold put0 leafC at hbx
          simp only at hbx
          obtain ⟨e0,e1,e2,e3,e4,e5,e6,e7⟩:=hbx
          have HF:=Lib.hid (made_leaf (d:=d) (v0:=v0) (u0:=u0) 4 (false) ((⟨#[97,98,99,34,92,10,195,169,122]⟩:ByteArray).extract 0 1) HBA.out HL1.out (by decide) (by first | decide | decide +kernel) (by first | rfl | decide +kernel))
          unfold put0 leafC Cel.val at HF
          simp only at HF
          rw [HMP.out] at HF
          go_wp2_with fail
          rw [nidx1]
          go_wp2_with fail
          exact bodyPost_ret (v:=.tuple #[.agg #[.int .i64 4,.bool (false),.bool false,.slice none 0 0,.int .i64 0,.string ((⟨#[97,98,99,34,92,10,195,169,122]⟩:ByteArray).extract 0 1),.slice none 0 0,.slice none 0 0],u0]) (by simp [results,Tryz.results45,go_sem,e0,e1,e2,e3,e4,e5,e6,e7]) rfl HF.out
        · have hbx:=(put0_box HB4.out (c:=(leafC 4 (false) ((⟨#[97,98,99,34,92,10,195,169,122]⟩:ByteArray).extract 0 2)))).cells
          unfold put0 leafC at hbx
          simp only at hbx
          obtain ⟨e0,e1,e2,e3,e4,e5,e6,e7⟩:=hbx
          have HF:=Lib.hid (made_leaf (d:=d) (v0:=v0) (u0:=u0) 4 (false) ((⟨#[97,98,99,34,92,10,195,169,122]⟩:ByteArray).extract 0 2) HBA.out HL1.out (by decide) (by first | decide | decide +kernel) (by first | rfl | decide +kernel))
          unfold put0 leafC Cel.val at HF
          simp only at HF
          rw [HMP.out] at HF
          go_wp2_with fail
          rw [nidx2]
          go_wp2_with fail
          exact bodyPost_ret (v:=.tuple #[.agg #[.int .i64 4,.bool (false),.bool false,.slice none 0 0,.int .i64 0,.string ((⟨#[97,98,99,34,92,10,195,169,122]⟩:ByteArray).extract 0 2),.slice none 0 0,.slice none 0 0],u0]) (by simp [results,Tryz.results45,go_sem,e0,e1,e2,e3,e4,e5,e6,e7]) rfl HF.out
        · have hbx:=(put0_box HB4.out (c:=(leafC 4 (false) ((⟨#[97,98,99,34,92,10,195,169,122]⟩:ByteArray).extract 0 3)))).cells
          unfold put0 leafC at hbx
          simp only at hbx
          obtain ⟨e0,e1,e2,e3,e4,e5,e6,e7⟩:=hbx
          have HF:=Lib.hid (made_leaf (d:=d) (v0:=v0) (u0:=u0) 4 (false) ((⟨#[97,98,99,34,92,10,195,169,122]⟩:ByteArray).extract 0 3) HBA.out HL1.out (by decide) (by first | decide | decide +kernel) (by first | rfl | decide +kernel))
          unfold put0 leafC Cel.val at HF
          simp only at HF
          rw [HMP.out] at HF
          go_wp2_with fail
          rw [nidx3]
          go_wp2_with fail
          exact bodyPost_ret (v:=.tuple #[.agg #[.int .i64 4,.bool (false),.bool false,.slice none 0 0,.int .i64 0,.string ((⟨#[97,98,99,34,92,10,195,169,122]⟩:ByteArray).extract 0 3),.slice none 0 0,.slice none 0 0],u0]) (by simp [results,Tryz.results45,go_sem,e0,e1,e2,e3,e4,e5,e6,e7]) rfl HF.out
        · have hbx:=(put0_box HB4.out (c:=(leafC 4 (false) ((⟨#[97,98,99,34,92,10,195,169,122]⟩:ByteArray).extract 0 4)))).cells
          unfold put0 leafC at hbx
          simp only at hbx
          obtain ⟨e0,e1,e2,e3,e4,e5,e6,e7⟩:=hbx
          have HF:=Lib.hid (made_leaf (d:=d) (v0:=v0) (u0:=u0) 4 (false) ((⟨#[97,98,99,34,92,10,195,169,122]⟩:ByteArray).extract 0 4) HBA.out HL1.out (by decide) (by first | decide | decide +kernel) (by first | rfl | decide +kernel))
          unfold put0 leafC Cel.val at HF
          simp only at HF
          rw [HMP.out] at HF
          go_wp2_with fail
          rw [nidx4]
          go_wp2_with fail
          exact bodyPost_ret (v:=.tuple #[.agg #[.int .i64 4,.bool (false),.bool false,.slice none 0 0,.int .i64 0,.string ((⟨#[97,98,99,34,92,10,195,169,122]⟩:ByteArray).extract 0 4),.slice none 0 0,.slice none 0 0],u0]) (by simp [results,Tryz.results45,go_sem,e0,e1,e2,e3,e4,e5,e6,e7]) rfl HF.out
        · have hbx:=(put0_box HB4.out (c:=(leafC 4 (false) ((⟨#[97,98,99,34,92,10,195,169,122]⟩:ByteArray).extract 0 5)))).cells
          unfold put0 leafC at hbx
          simp only at hbx
          obtain ⟨e0,e1,e2,e3,e4,e5,e6,e7⟩:=hbx
          have HF:=Lib.hid (made_leaf (d:=d) (v0:=v0) (u0:=u0) 4 (false) ((⟨#[97,98,99,34,92,10,195,169,122]⟩:ByteArray).extract 0 5) HBA.out HL1.out (by decide) (by first | decide | decide +kernel) (by first | rfl | decide +kernel))
          unfold put0 leafC Cel.val at HF
          simp only at HF
          rw [HMP.out] at HF
          go_wp2_with fail
          rw [nidx5]
          go_wp2_with fail
          exact bodyPost_ret (v:=.tuple #[.agg #[.int .i64 4,.bool (false),.bool false,.slice none 0 0,.int .i64 0,.string ((⟨#[97,98,99,34,92,10,195,169,122]⟩:ByteArray).extract 0 5),.slice none 0 0,.slice none 0 0],u0]) (by simp [results,Tryz.results45,go_sem,e0,e1,e2,e3,e4,e5,e6,e7]) rfl HF.out
        · have hbx:=(put0_box HB4.out (c:=(leafC 4 (false) ((⟨#[97,98,99,34,92,10,195,169,122]⟩:ByteArray).extract 0 6)))).cells
          unfold put0 leafC at hbx
          simp only at hbx
          obtain ⟨e0,e1,e2,e3,e4,e5,e6,e7⟩:=hbx
          have HF:=Lib.hid (made_leaf (d:=d) (v0:=v0) (u0:=u0) 4 (false) ((⟨#[97,98,99,34,92,10,195,169,122]⟩:ByteArray).extract 0 6) HBA.out HL1.out (by decide) (by first | decide | decide +kernel) (by first | rfl | decide +kernel))
          unfold put0 leafC Cel.val at HF
          simp only at HF
          rw [HMP.out] at HF
          go_wp2_with fail
          rw [nidx6]
          go_wp2_with fail
          exact bodyPost_ret (v:=.tuple #[.agg #[.int .i64 4,.bool (false),.bool false,.slice none 0 0,.int .i64 0,.string ((⟨#[97,98,99,34,92,10,195,169,122]⟩:ByteArray).extract 0 6),.slice none 0 0,.slice none 0 0],u0]) (by simp [results,Tryz.results45,go_sem,e0,e1,e2,e3,e4,e5,e6,e7]) rfl HF.out
        · have hbx:=(put0_box HB4.out (c:=(leafC 4 (false) ((⟨#[97,98,99,34,92,10,195,169,122]⟩:ByteArray).extract 0 8)))).cells
          unfold put0 leafC at hbx
          simp only at hbx
          obtain ⟨e0,e1,e2,e3,e4,e5,e6,e7⟩:=hbx
          have HF:=Lib.hid (made_leaf (d:=d) (v0:=v0) (u0:=u0) 4 (false) ((⟨#[97,98,99,34,92,10,195,169,122]⟩:ByteArray).extract 0 8) HBA.out HL1.out (by decide) (by first | decide | decide +kernel) (by first | rfl | decide +kernel))
          unfold put0 leafC Cel.val at HF
          simp only at HF
          rw [HMP.out] at HF
          go_wp2_with fail
          rw [nidx7]
          go_wp2_with fail
          exact bodyPost_ret (v:=.tuple #[.agg #[.int .i64 4,.bool (false),.bool false,.slice none 0 0,.int .i64 0,.string ((⟨#[97,98,99,34,92,10,195,169,122]⟩:ByteArray).extract 0 8),.slice none 0 0,.slice none 0 0],u0]) (by simp [results,Tryz.results45,go_sem,e0,e1,e2,e3,e4,e5,e6,e7]) rfl HF.out
        · have hbx:=(put0_box HB4.out (c:=(leafC 4 (false) ((⟨#[97,98,99,34,92,10,195,169,122]⟩:ByteArray).extract 0 9)))).cells
          unfold put0 leafC at hbx
          simp only at hbx
          obtain ⟨e0,e1,e2,e3,e4,e5,e6,e7⟩:=hbx
          have HF:=Lib.hid (made_leaf (d:=d) (v0:=v0) (u0:=u0) 4 (false) ((⟨#[97,98,99,34,92,10,195,169,122]⟩:ByteArray).extract 0 9) HBA.out HL1.out (by decide) (by first | decide | decide +kernel) (by first | rfl | decide +kernel))
          unfold put0 leafC Cel.val at HF
          simp only at HF
          rw [HMP.out] at HF
          go_wp2_with fail
          rw [nidx8]
          go_wp2_with fail
          exact bodyPost_ret (v:=.tuple #[.agg #[.int .i64 4,.bool (false),.bool false,.slice none 0 0,.int .i64 0,.string ((⟨#[97,98,99,34,92,10,195,169,122]⟩:ByteArray).extract 0 9),.slice none 0 0,.slice none 0 0],u0]) (by simp [results,Tryz.results45,go_sem,e0,e1,e2,e3,e4,e5,e6,e7]) rfl HF.out
      · skip
        have hj:(vv:Int) / 12 % 5=0∨(vv:Int) / 12 % 5=1∨(vv:Int) / 12 % 5=2∨(vv:Int) / 12 % 5=3∨(vv:Int) / 12 % 5=4:=by omega
        rcases hj with hj | hj | hj | hj | hj
        · have hbx:=(put0_box HB4.out (c:=(leafC 5 (false) ByteArray.empty))).cells
          unfold put0 leafC at hbx
          simp only at hbx
          obtain ⟨e0,e1,e2,e3,e4,e5,e6,e7⟩:=hbx
          have HF:=Lib.hid (made_leaf (d:=d) (v0:=v0) (u0:=u0) 5 (false) ByteArray.empty HBA.out HL1.out (by decide) (by first | decide | decide +kernel) (by first | rfl | decide +kernel))
          unfold put0 leafC Cel.val at HF
          simp only at HF
          rw [HMP.out] at HF
          go_wp2_with fail
          exact bodyPost_ret (v:=.tuple #[.agg #[.int .i64 5,.bool (false),.bool false,.slice none 0 0,.int .i64 0,.string ByteArray.empty,.slice none 0 0,.slice none 0 0],u0]) (by simp [results,Tryz.results45,go_sem,e0,e1,e2,e3,e4,e5,e6,e7]) rfl HF.out
        · have hbx:=(put0_box HB4.out (c:=(leafC 5 (false) ((⟨#[0,255,97,98]⟩:ByteArray).extract 0 1)))).cells
          unfold put0 leafC at hbx
          simp only at hbx
          obtain ⟨e0,e1,e2,e3,e4,e5,e6,e7⟩:=hbx
          have HF:=Lib.hid (made_leaf (d:=d) (v0:=v0) (u0:=u0) 5 (false) ((⟨#[0,255,97,98]⟩:ByteArray).extract 0 1) HBA.out HL1.out (by decide) (by first | decide | decide +kernel) (by first | rfl | decide +kernel))
          unfold put0 leafC Cel.val at HF
          simp only at HF
          rw [HMP.out] at HF
          go_wp2_with fail
          exact bodyPost_ret (v:=.tuple #[.agg #[.int .i64 5,.bool (false),.bool false,.slice none 0 0,.int .i64 0,.string ((⟨#[0,255,97,98]⟩:ByteArray).extract 0 1),.slice none 0 0,.slice none 0 0],u0]) (by simp [results,Tryz.results45,go_sem,e0,e1,e2,e3,e4,e5,e6,e7]) rfl HF.out
        · have hbx:=(put0_box HB4.out (c:=(leafC 5 (false) ((⟨#[0,255,97,98]⟩:ByteArray).extract 0 2)))).cells
          unfold put0 leafC at hbx
          simp only at hbx
          obtain ⟨e0,e1,e2,e3,e4,e5,e6,e7⟩:=hbx
          have HF:=Lib.hid (made_leaf (d:=d) (v0:=v0) (u0:=u0) 5 (false) ((⟨#[0,255,97,98]⟩:ByteArray).extract 0 2) HBA.out HL1.out (by decide) (by first | decide | decide +kernel) (by first | rfl | decide +kernel))
          unfold put0 leafC Cel.val at HF
          simp only at HF
          rw [HMP.out] at HF
          go_wp2_with fail
          exact bodyPost_ret (v:=.tuple #[.agg #[.int .i64 5,.bool (false),.bool false,.slice none 0 0,.int .i64 0,.string ((⟨#[0,255,97,98]⟩:ByteArray).extract 0 2),.slice none 0 0,.slice none 0 0],u0]) (by simp [results,Tryz.results45,go_sem,e0,e1,e2,e3,e4,e5,e6,e7]) rfl HF.out
        · have hbx:=(put0_box HB4.out (c:=(leafC 5 (false) ((⟨#[0,255,97,98]⟩:ByteArray).extract 0 3)))).cells
          unfold put0 leafC at hbx
          simp only at hbx
          obtain ⟨e0,e1,e2,e3,e4,e5,e6,e7⟩:=hbx
          have HF:=Lib.hid (made_leaf (d:=d) (v0:=v0) (u0:=u0) 5 (false) ((⟨#[0,255,97,98]⟩:ByteArray).extract 0 3) HBA.out HL1.out (by decide) (by first | decide | decide +kernel) (by first | rfl | decide +kernel))
          unfold put0 leafC Cel.val at HF
          simp only at HF
          rw [HMP.out] at HF
          go_wp2_with fail
          exact bodyPost_ret (v:=.tuple #[.agg #[.int .i64 5,.bool (false),.bool false,.slice none 0 0,.int .i64 0,.string ((⟨#[0,255,97,98]⟩:ByteArray).extract 0 3),.slice none 0 0,.slice none 0 0],u0]) (by simp [results,Tryz.results45,go_sem,e0,e1,e2,e3,e4,e5,e6,e7]) rfl HF.out
        · have hbx:=(put0_box HB4.out (c:=(leafC 5 (false) ((⟨#[0,255,97,98]⟩:ByteArray).extract 0 4)))).cells
          unfold put0 leafC at hbx
          simp only at hbx
          obtain ⟨e0,e1,e2,e3,e4,e5,e6,e7⟩:=hbx
          have HF:=Lib.hid (made_leaf (d:=d) (v0:=v0) (u0:=u0) 5 (false) ((⟨#[0,255,97,98]⟩:ByteArray).extract 0 4) HBA.out HL1.out (by decide) (by first | decide | decide +kernel) (by first | rfl | decide +kernel))
          unfold put0 leafC Cel.val at HF
          simp only at HF
          rw [HMP.out] at HF
          go_wp2_with fail
          exact bodyPost_ret (v:=.tuple #[.agg #[.int .i64 5,.bool (false),.bool false,.slice none 0 0,.int .i64 0,.string ((⟨#[0,255,97,98]⟩:ByteArray).extract 0 4),.slice none 0 0,.slice none 0 0],u0]) (by simp [results,Tryz.results45,go_sem,e0,e1,e2,e3,e4,e5,e6,e7]) rfl HF.out
      iterate 3
        · skip
          have hi1:(d:Int)≤10:=by omega
          obtain ⟨d',hd'⟩:∃ d',d=d'+1:=⟨d - 1,by omega⟩
          have KI:=Lib.hid (fun v W h=>(by have:=IH.out d' hd' v W h;rwa [show (d':Int)=(d:Int) - 1 by omega] at this:Calls Tryz.prog 45 #[v,.int .i64 ((d:Int) - 1)] W (MadeP d' v W)))
          have hd1:(1:Int)≤(d:Int):=by omega
          obtain ⟨m,hm,hm3⟩:∃ m:Nat,(vv:Int) / 12 % 4=(m:Int)∧m≤3:=⟨vv / 12 % 4,by omega,by omega⟩
          obtain ⟨W8,hW8⟩:∃ x,wc.alloc (.cells #[.int .i64 6,.bool false,.bool false,.slice none 0 0,.int .i64 0,.string ⟨#[]⟩,.slice none 0 0,.slice none 0 0] 29)=x:=⟨_,rfl⟩
          have hb8:Below wc.heap.size wc W8:=by rw [← hW8];exact (Below.refl _ _).alloc (Nat.le_refl _) _
          have hs8:W8.heap.size=w.heap.size+1+1:=by rw [← hW8,World.size_alloc,HSA.out]
          have hx8:BoxT W8 wc.heap.size (arrC none 0 0):=by
            have:=heap_alloc_new wc (.cells #[.int .i64 6,.bool false,.bool false,.slice none 0 0,.int .i64 0,.string ⟨#[]⟩,.slice none 0 0,.slice none 0 0] 29)
            rw [hW8] at this
            exact this
          have hsa:=HSA.out
          have HB8:=Lib.hid (HBA.out.trans (hb8.mono HBA.out.size))
          have H4:=Lib.hid (fun W (h:But wc.heap.size W8 W)=>(HB4.out.on (hb8.block _ HB4.out.lt)).on (h.block _ (by omega) (by omega)))
          have HIW:=Lib.hid (fun W (h:But wc.heap.size W8 W)=>HII.out W (HB8.out.trans (h.below (by omega) HB8.out.size)))
          have HS8:=Lib.hid hs8
          have HA0:=Lib.hid (show ArS W8 wc.heap.size [] none 0 W8 from ⟨But.refl _ _,by omega,hx8,⟨rfl,.inl ⟨rfl,rfl⟩⟩,fun W _ _=>nofun⟩)
          have Hd:=Lib.hid hd'
          have HW8:=Lib.hid hW8
          clear hW8 hsa hd' hb8 hs8 hx8 g0 g1 g2 g3 g4 g5 g6 g7 f0 f1 f2 f3 f4 f5 f6 f7 KN
          go_wp2_with fail
          rw [HW8.out]
          go_loopg [0,9] m (fun g u iv wr=>ARL W8 wc.heap.size v0 d' m g u iv wr)
          case atStart=>exact ⟨[],none,0,Nat.zero_le _,by simp,rfl,HL1.out,HA0.out,nofun⟩
          case round =>
            obtain ⟨us,va,vc,hum,hug,rfl,htl,hAS,hfit⟩:=hrel
            have HAS:=Lib.hid hAS;have HFIT:=Lib.hid hfit;have HTL:=Lib.hid htl
            clear hAS hfit htl
            obtain ⟨y0,y1,y2,y3,y4,y5,y6,y7⟩:=HAS.out.box.cells
            simp only [arrC] at y0 y1 y2 y3 y4 y5 y6 y7
            by_cases hlt:us.length<m
            · obtain ⟨g,rfl⟩:∃ k,gk=k+1:=⟨gk - 1,by omega⟩
              have hltz:(us.length:Int)<(m:Int):=by omega
              have hu3:(us.length:Int)≤3:=by omega
              have hII:=HTL.out wr (HIW.out wr HAS.out.but)
              clear y0 y1 y2 y3 y4 y5 y6 y7
              go_wp2_with fail
              refine (KI.out _ _ hII).mono ?_
              rintro r w1 ⟨x,u2,rfl,hxi,hxf,hxt,hx1⟩
              have HXI:=Lib.hid hxi;have HXF:=Lib.hid hxf;have HX1:=Lib.hid hx1
              have HXT:=Lib.hid (fun W h=>hxt W (HTL.out W h))
              have hby:=HAS.out.box.on (hx1.block _ HAS.out.box.lt)
              obtain ⟨y0,y1,y2,y3,y4,y5,y6,y7⟩:=hby.cells
              simp only [arrC] at y0 y1 y2 y3 y4 y5 y6 y7
              have hbyl:=hby.lt
              clear hxi hxf hx1 hxt hby hII
              obtain ⟨cx,hcx⟩:∃ c,x.c=c:=⟨_,rfl⟩
              have HCX:=Lib.hid hcx
              rw [hcx]
              clear hcx
              obtain ⟨zk,zb,zneg,zma,zmn,zmc,ze,zs,zka,zkn,zkc,zva,zvn,zvc⟩:=cx
              unfold Cel.val
              obtain ⟨W3,hW3⟩:∃ x,(w1.alloc (.cells #[.int .i64 zk,.bool zb,.bool zneg,.slice zma zmn zmc,.int .i64 ze,.string zs,.slice zka zkn zkc,.slice zva zvn zvc] 29)).alloc (.cells #[.int .i64 zk,.bool zb,.bool zneg,.slice zma zmn zmc,.int .i64 ze,.string zs,.slice zka zkn zkc,.slice zva zvn zvc] 29)=x:=⟨_,rfl⟩
              have h13:Below w1.heap.size w1 W3:=by rw [← hW3];exact below_two _ _ _
              have HOW:=Lib.hid (own_onN HAS.out.ow (HX1.out.trans (h13.mono HX1.out.size)))
              have hrd:RdV W3 (some ⟨w1.heap.size+1,0,none⟩) [.int .i64 zk,.bool zb,.bool zneg,.slice zma zmn zmc,.int .i64 ze,.string zs,.slice zka zkn zkc,.slice zva zvn zvc]:=by rw [← hW3];exact rdv_two _ _ _ _
              have HRD:=Lib.hid hrd;have H13:=Lib.hid h13
              have HBS:=Lib.hid (Nat.le_trans HAS.out.but.size (Nat.le_trans HX1.out.size h13.size))
              have HSZ3:=Lib.hid (show W3.heap.size=w1.heap.size+1+1 by rw [← hW3];simp)
              have HW3:=Lib.hid hW3
              clear hrd h13 hW3
              go_wp2_with (at_builtin;rw [HW3.out];refine wpl_appT rfl _ _ rfl W8.heap.size (.slice va us.length vc) us.length (flat (us.map MT.c)) rfl HOW.out ⟨w1.heap.size+1,0,none⟩ 1 ⟨zk,zb,zneg,zma,zmn,zmc,ze,zs,zka,zkn,zkc,zva,zvn,zvc⟩ rfl HRD.out (by omega) HBS.out ?_)
              intro g2 cap w5 ho5 hg5 hor
              have hbx5:=HAS.out.mid HX1.out H13.out hg5
              have HN:=Lib.hid (HAS.out.step (x:=x) HX1.out HXI.out H13.out (by rw [HCX.out];exact ho5) hg5 hor)
              obtain ⟨y0,y1,y2,y3,y4,y5,y6,y7⟩:=hbx5.cells
              simp only [arrC] at y0 y1 y2 y3 y4 y5 y6 y7
              have y8:=hbx5.free 7
              have HF:=Lib.hid (show ARL W8 wc.heap.size v0 d' m g u2 (.int .i64 ((us.length:Int)+1)) _ from ⟨us++[x],some ⟨g2,0,none⟩,cap,by simp;omega,by simp;omega,by simp,HXT.out,HN.out,fun y hy=>by
                rcases List.mem_append.1 hy with hy | hy
                · exact HFIT.out y hy
                · rw [List.mem_singleton.1 hy];exact HXF.out⟩)
              clear hbx5 ho5 hg5 hor
              go_wp2
              go_roundg g
              case rel=>exact HF.out
              case measure=>omega
            · have hltz:¬ (us.length:Int)<(m:Int):=by omega
              have h4:=H4.out wr HAS.out.but
              have hvar:=h4.var
              unfold Var at hvar
              obtain ⟨⟨g0,g1,g2,g3,g4,g5,g6,g7⟩,f0,f1,f2,f3,f4,f5,f6,f7⟩:=hvar
              simp only [leafC] at g0 g1 g2 g3 g4 g5 g6 g7
              have hbx:=(put0_box h4 (c:=arrC va us.length vc)).cells
              unfold put0 arrC at hbx
              simp only at hbx
              obtain ⟨e0,e1,e2,e3,e4,e5,e6,e7⟩:=hbx
              have HF:=Lib.hid (arr_end Hd.out HB8.out (by have:=HSA.out;omega) HTL.out HAS.out (by omega) HFIT.out)
              unfold put0 arrC Cel.val at HF
              simp only at HF
              rw [HMP.out] at HF
              clear h4
              go_wp2_with fail
              exact bodyPost_ret (v:=.tuple #[.agg #[.int .i64 6,.bool false,.bool false,.slice none 0 0,.int .i64 0,.string ⟨#[]⟩,.slice none 0 0,.slice va us.length vc],_]) (by simp [results,Tryz.results45,go_sem,e0,e1,e2,e3,e4,e5,e6,e7]) rfl HF.out
      iterate 3
        · skip
          have hi1:(d:Int)≤10:=by omega
          obtain ⟨d',hd'⟩:∃ d',d=d'+1:=⟨d - 1,by omega⟩
          have KI:=Lib.hid (fun v W h=>(by have:=IH.out d' hd' v W h;rwa [show (d':Int)=(d:Int) - 1 by omega] at this:Calls Tryz.prog 45 #[v,.int .i64 ((d:Int) - 1)] W (MadeP d' v W)))
          have hd1:(1:Int)≤(d:Int):=by omega
          obtain ⟨m,hm,hm3⟩:∃ m:Nat,(vv:Int) / 12 % 4=(m:Int)∧m≤3:=⟨vv / 12 % 4,by omega,by omega⟩
          obtain ⟨W8,hW8⟩:∃ x,wc.alloc (.cells #[.int .i64 7,.bool false,.bool false,.slice none 0 0,.int .i64 0,.string ⟨#[]⟩,.slice none 0 0,.slice none 0 0] 29)=x:=⟨_,rfl⟩
          have hb8:Below wc.heap.size wc W8:=by rw [← hW8];exact (Below.refl _ _).alloc (Nat.le_refl _) _
          have hs8:W8.heap.size=w.heap.size+1+1:=by rw [← hW8,World.size_alloc,HSA.out]
          have hx8:BoxT W8 wc.heap.size (objC7 none 0 0 none 0 0):=by
            have:=heap_alloc_new wc (.cells #[.int .i64 7,.bool false,.bool false,.slice none 0 0,.int .i64 0,.string ⟨#[]⟩,.slice none 0 0,.slice none 0 0] 29)
            rw [hW8] at this
            exact this
          have hsa:=HSA.out
          have HB8:=Lib.hid (HBA.out.trans (hb8.mono HBA.out.size))
          have H4:=Lib.hid (fun W (h:But wc.heap.size W8 W)=>(HB4.out.on (hb8.block _ HB4.out.lt)).on (h.block _ (by omega) (by omega)))
          have HIW:=Lib.hid (fun W (h:But wc.heap.size W8 W)=>HII.out W (HB8.out.trans (h.below (by omega) HB8.out.size)))
          have HS8:=Lib.hid hs8
          have HA0:=Lib.hid (show ObS W8 wc.heap.size d' 0 (objT none 0 0 none 0 0 [] []) W8 from ⟨But.refl _ _,by omega,hx8,⟨none,0,none,0,rfl⟩,rfl,rfl,Nat.le_refl _,fun i j _ h=>by simp [objT,MT.k] at h,nofun,nofun,fun W _ _=>objT_rep rfl (Nat.le_refl _) (by decide) (RdV.nil _ _) nofun rfl (Nat.le_refl _) (by decide) (RdV.nil _ _) nofun⟩)
          have Hd:=Lib.hid hd'
          have HW8:=Lib.hid hW8
          have hvv30:vv≤1073741824:=by omega
          have hv48:vv / 48≤1073741824:=by omega
          have HVV:=Lib.hid (And.intro hvv30 hv48)
          clear hvv30 hv48 hW8 hsa hd' hb8 hs8 hx8 g0 g1 g2 g3 g4 g5 g6 g7 f0 f1 f2 f3 f4 f5 f6 f7 KN
          go_wp2_with fail
          rw [HW8.out]
          go_loopg [0,13] m (fun g u iv wr=>OBL W8 wc.heap.size v0 d' m g u iv wr)
          case atStart=>exact ⟨0,_,Nat.zero_le _,by omega,rfl,HL1.out,HA0.out⟩
          case round =>
            obtain ⟨i,t,him,hig,rfl,htl,hOB⟩:=hrel
            have HOB:=Lib.hid hOB;have HTL:=Lib.hid htl
            clear hOB htl
            obtain ⟨ka,kc,va,vc,htc⟩:=HOB.out.obj
            have HTC:=Lib.hid htc
            clear htc
            by_cases hlt:i<m
            · obtain ⟨g,rfl⟩:∃ k,gk=k+1:=⟨gk - 1,by omega⟩
              have hltz:(i:Int)<(m:Int):=by omega
              have hu3:(i:Int)≤3:=by omega
              have hII:=HTL.out wr (HIW.out wr HOB.out.but)
              go_wp2_with fail
              refine (KI.out _ _ hII).mono ?_
              rintro r w1 ⟨x,u2,rfl,hxi,hxf,hxt,hx1⟩
              have HXF:=Lib.hid hxf;have HX1:=Lib.hid hx1
              have HXI2:=Lib.hid (hxi.to (Nat.le_refl _) (fun _ _ _=>rfl) (fun k hk (hy:k<W8.heap.size)=>show k<wr.heap.size from Nat.lt_of_lt_of_le hy HOB.out.but.size) (fun _ h=>h):Ind (fun k=>k<W8.heap.size) w1 (fun W=>Rep W x))
              have HXT:=Lib.hid (fun W h=>hxt W (HTL.out W h))
              clear hxi hxf hx1 hxt hII
              obtain ⟨cx,hcx⟩:∃ c,x.c=c:=⟨_,rfl⟩
              have HCX:=Lib.hid hcx
              rw [hcx]
              clear hcx
              obtain ⟨zk,zb,zneg,zma,zmn,zmc,ze,zs,zka,zkn,zkc,zva,zvn,zvc⟩:=cx
              obtain ⟨W2,hW2⟩:∃ y,w1.alloc (.cells #[.int .i64 zk,.bool zb,.bool zneg,.slice zma zmn zmc,.int .i64 ze,.string zs,.slice zka zkn zkc,.slice zva zvn zvc] 29)=y:=⟨_,rfl⟩
              have hb12:Below w1.heap.size w1 W2:=by rw [← hW2];exact (Below.refl _ _).alloc (Nat.le_refl _) _
              have HB12:=Lib.hid hb12
              have HB2:=Lib.hid (HX1.out.trans (hb12.mono HX1.out.size))
              have hxb:BoxT W2 w1.heap.size ⟨zk,zb,zneg,zma,zmn,zmc,ze,zs,zka,zkn,zkc,zva,zvn,zvc⟩:=by rw [← hW2];exact heap_alloc_new w1 _
              have HXB:=Lib.hid (fun W (h:Below W2.heap.size W2 W)=>hxb.on (h.block _ hxb.lt))
              have htb:BoxT W2 wc.heap.size (objC7 ka t.k.length kc va t.k.length vc):=by rw [← HTC.out];exact HOB.out.box.on (HB2.out.block _ HOB.out.box.lt)
              have HTB:=Lib.hid (fun W (h:Below W2.heap.size W2 W)=>htb.on (h.block _ htb.lt))
              have HW2:=Lib.hid hW2
              clear hb12 hxb htb hW2
              unfold Cel.val
              go_wp2_with fail
              rw [HW2.out]
              have hvv30:=HVV.out.1
              have hv48:=HVV.out.2
              have hi1000:i≤1000:=by omega
              have hi100:i≤100:=by omega
              have hi3000:3*i≤1073741824:=by omega
              have hvi:vv / 48+3*i≤1073741824:=by omega
              have hj8:((vv / 48+3*i) % 8)<8:=Nat.mod_lt _ (by decide)
              have hnsz:(nms8.getD ((vv / 48+3*i) % 8) ByteArray.empty).size≤maxLen:=by
                have h1:=nms8_ok _ hj8
                unfold okN at h1
                rw [Bool.and_eq_true,decide_eq_true_eq] at h1
                exact Nat.le_trans h1.1 (by decide)
              refine wp_norm (fun J hJ=>?_)
              have HJ:=Lib.hid hJ
              clear hJ
              refine rl_start (S:=fun L W=>True∧(L.getD 12 false=false→Below W2.heap.size W2 W)) (by kernel_rfl) ⟨trivial,fun _=>below_drew (Below.refl _ _)⟩ (fun hC hS=>?_)
              refine rl_loadM 0 _ 29 (.tmp 12) wc.heap.size 0 ((objC7 ka t.k.length kc va t.k.length vc).cells) _ (some 118) rfl (by kernel_rfl) (by kernel_rfl) (by kernel_rfl) (by kernel_rfl) (fun _ _ _ h=>h) (fun L W=>si1 0 12 rfl _) (by kernel_rfl) rfl (by kernel_rfl) Tryz.underlying29 rfl (by kernel_rfl) (fun L W hC h1 hS=>box_range (HTB.out W (hS.2 (cl_no hC 0 12 _ rfl (by kernel_rfl) h1)))) hC hS (fun hC hS=>?_)
              refine rl_pure 2 _ (.int .i64 (vv:Int)) (some 120) rfl (by kernel_rfl) (by kernel_rfl) (by kernel_rfl) (by kernel_rfl) (fun _ _ _ h=>h) (fun L W=>si1 2 12 rfl _) (by kernel_rfl) (fun w=>by kernel_rfl) hC hS (fun hC hS=>?_)
              refine rl_pure 3 _ (.int .i64 ((vv / 48:Nat):Int)) (some 121) rfl (by kernel_rfl) (by kernel_rfl) (by kernel_rfl) (by kernel_rfl) (fun _ _ _ h=>h) (fun L W=>si1 3 12 rfl _) (by kernel_rfl) (fun w=>rl_arith w _ _ .quo _ _ _ _ _ _ _ rfl (by kernel_rfl) (by kernel_rfl) (ar_quo w _ vv 48 hvv30 (by decide) (by decide))) hC hS (fun hC hS=>?_)
              refine rl_pure 4 _ (.int .i64 (i:Int)) (some 122) rfl (by kernel_rfl) (by kernel_rfl) (by kernel_rfl) (by kernel_rfl) (fun _ _ _ h=>h) (fun L W=>si1 4 12 rfl _) (by kernel_rfl) (fun w=>by kernel_rfl) hC hS (fun hC hS=>?_)
              refine rl_pure 5 _ (.int .i64 ((3*i:Nat):Int)) (some 123) rfl (by kernel_rfl) (by kernel_rfl) (by kernel_rfl) (by kernel_rfl) (fun _ _ _ h=>h) (fun L W=>si1 5 12 rfl _) (by kernel_rfl) (fun w=>rl_arith w _ _ .mul _ _ _ _ _ _ _ rfl (by kernel_rfl) (by kernel_rfl) (ar_mul w _ 3 i (by decide) hi1000)) hC hS (fun hC hS=>?_)
              refine rl_pure 6 _ (.int .i64 ((vv / 48+3*i:Nat):Int)) (some 124) rfl (by kernel_rfl) (by kernel_rfl) (by kernel_rfl) (by kernel_rfl) (fun _ _ _ h=>h) (fun L W=>si1 6 12 rfl _) (by kernel_rfl) (fun w=>rl_arith w _ _ .add _ _ _ _ _ _ _ rfl (by kernel_rfl) (by kernel_rfl) (ar_add w _ (vv / 48) (3*i) hv48 hi3000)) hC hS (fun hC hS=>?_)
              refine rl_pure 7 _ (.int .i64 ((((vv / 48+3*i) % 8):Nat):Int)) (some 125) rfl (by kernel_rfl) (by kernel_rfl) (by kernel_rfl) (by kernel_rfl) (fun _ _ _ h=>h) (fun L W=>si1 7 12 rfl _) (by kernel_rfl) (fun w=>rl_arith w _ _ .rem _ _ _ _ _ _ _ rfl (by kernel_rfl) (by kernel_rfl) (ar_rem w _ (vv / 48+3*i) 8 hvi (by decide) (by decide))) hC hS (fun hC hS=>?_)
              refine rl_loadM 10 _ 29 (.tmp 14) w1.heap.size 0 ([.int .i64 zk,.bool zb,.bool zneg,.slice zma zmn zmc,.int .i64 ze,.string zs,.slice zka zkn zkc,.slice zva zvn zvc]) _ (some 128) rfl (by kernel_rfl) (by kernel_rfl) (by kernel_rfl) (by kernel_rfl) (fun _ _ _ h=>h) (fun L W=>si1 10 12 rfl _) (by kernel_rfl) rfl (by kernel_rfl) Tryz.underlying29 rfl (by kernel_rfl) (fun L W hC h1 hS=>box_range (HXB.out W (hS.2 (cl_no hC 10 12 _ rfl (by kernel_rfl) h1)))) hC hS (fun hC hS=>?_)
              refine rl_all [1] (by kernel_rfl) (by simp) hC (rl_one _ ?_)
              refine rl_call 1 _ 79 _ _ _ _ #[] (some 119) rfl (by kernel_rfl) (by kernel_rfl) rfl (by kernel_rfl) Tryz.func79 (by kernel_rfl) (by kernel_rfl) (by kernel_rfl) (names_any _) ?_
              rintro r' w' ⟨rfl,rfl⟩
              refine ⟨_,rfl,?_⟩
              have hbn:Below W2.heap.size W2 (W2.drew.alloc (.cells (sv nms8).toArray 9)):=(below_drew (Below.refl W2.heap.size W2)).alloc (below_drew (Below.refl W2.heap.size W2)).size _
              have hln:=heap_alloc_new W2.drew (.cells (sv nms8).toArray 9)
              generalize W2.drew.alloc (.cells (sv nms8).toArray 9)=W5 at hbn hln ⊢
              generalize W2.drew.heap.size=gN at hln ⊢
              refine rl_and ⟨trivial,fun _=>hbn⟩ (fun hS hC=>?_)
              refine rl_pure 8 _ (.pointer (some ⟨gN,0+((vv / 48+3*i) % 8),none⟩)) (some 126) rfl (by kernel_rfl) (by kernel_rfl) (by kernel_rfl) (by kernel_rfl) (fun _ _ _ h=>h) (fun L W=>si1 8 12 rfl _) (by kernel_rfl) (fun w=>rl_idx w _ _ _ _ _ 9 gN 0 8 8 ((vv / 48+3*i) % 8) ((vv / 48+3*i) % 8) 1 rfl (by kernel_rfl) (by kernel_rfl) Tryz.underlying26 (by kernel_rfl) hj8 (Nat.mul_one _)) hC hS (fun hC hS=>?_)
              refine rl_all [9] (by kernel_rfl) (by simp) hC (rl_one _ ?_)
              refine rl_val 9 _ (.string (nms8.getD ((vv / 48+3*i) % 8) ByteArray.empty)) W5 (some 127) rfl (by kernel_rfl) (by kernel_rfl) (rl_ldrun W5 _ _ 9 (.tmp 126) ⟨gN,0+((vv / 48+3*i) % 8),none⟩ _ _ rfl (by kernel_rfl) Tryz.underlying9 rfl (sv_at (rd_lit W5 gN _ _ hln) ((vv / 48+3*i) % 8) hj8)) ?_
              refine rl_and ⟨trivial,fun _=>hbn⟩ (fun hS hC=>?_)
              have hbr5:Below wr.heap.size wr W5:=HB2.out.trans (hbn.mono HB2.out.size)
              obtain ⟨p,q,hsp⟩:=spl_ex HOB.out.ris (nms8.getD ((vv / 48+3*i) % 8) ByteArray.empty)
              have KS:=refSet_any t x (nms8.getD ((vv / 48+3*i) % 8) ByteArray.empty) p q (fun k=>k<W8.heap.size) W5 (fun k (hk:k<W8.heap.size)=>Nat.lt_of_lt_of_le hk (Nat.le_trans HOB.out.but.size hbr5.size)) (HOB.out.ind.below hbr5) ((HXI2.out.below HB12.out).below hbn) (HOB.out.o7 hi100) hsp hnsz
              rw [HTC.out,HCX.out] at KS
              refine rl_all [11] (by kernel_rfl) (by simp) hC (rl_one _ ?_)
              refine rl_call 11 _ 24 _ _ _ _ #[(objC7 ka t.k.length kc va t.k.length vc).val,.string (nms8.getD ((vv / 48+3*i) % 8) ByteArray.empty),Cel.val ⟨zk,zb,zneg,zma,zmn,zmc,ze,zs,zka,zkn,zkc,zva,zvn,zvc⟩] (some 129) rfl (by kernel_rfl) (by kernel_rfl) rfl (by kernel_rfl) Tryz.func24 (by kernel_rfl) (by kernel_rfl) (by kernel_rfl) KS ?_
              rintro r' W6 hpost
              have hb6:Below W5.heap.size W5 W6:=by obtain ⟨_,_,_,_,_,_,_,h⟩:=hpost;exact h
              obtain ⟨u,rfl,hob,hbox⟩:=HOB.out.step (nms8_sm _ hj8) hsp HXF.out hbr5 hpost
              refine ⟨_,rfl,?_⟩
              refine rl_and ⟨trivial,fun _=>hbn.trans (hb6.mono hbn.size)⟩ (fun hS hC=>?_)
              refine rl_all [12] (by kernel_rfl) (by simp) hC (rl_one _ ?_)
              refine rl_storeT 12 _ 29 (.tmp 12) (.tmp 129) wc.heap.size u.c t.c (TypeDesc.struct #[]) rfl (by kernel_rfl) (by kernel_rfl) rfl (by kernel_rfl) (by kernel_rfl) (by kernel_rfl) hbox ?_
              refine rl_and ⟨trivial,fun h=>Bool.noConfusion (show true=false from h)⟩ (fun hS hC=>?_)
              refine rl_done (by kernel_rfl) ?_ _
              have HF:=Lib.hid (show OBL W8 wc.heap.size v0 d' m g u2 (.int .i64 ((i:Int)+1)) _ from ⟨i+1,u,by omega,by omega,rfl,HXT.out,hob⟩)
              generalize put0 W6 wc.heap.size u.c=wn at HF ⊢
              clear hS hC hob hbox hb6 hpost KS hln hbn hbr5
              refine HJ.out _ _ ?_
              clear HJ
              simp only [Act.put,List.setIfInBounds_toArray,List.set_cons_zero,List.set_cons_succ]
              go_wp2_with fail
              go_roundg g
              case rel=>exact HF.out
              case measure=>omega
            · have hltz:¬ (i:Int)<(m:Int):=by omega
              have h4:=H4.out wr HOB.out.but
              have hvar:=h4.var
              unfold Var at hvar
              obtain ⟨⟨g0,g1,g2,g3,g4,g5,g6,g7⟩,f0,f1,f2,f3,f4,f5,f6,f7⟩:=hvar
              simp only [leafC] at g0 g1 g2 g3 g4 g5 g6 g7
              have hyb:=HOB.out.box
              rw [HTC.out] at hyb
              obtain ⟨y0,y1,y2,y3,y4,y5,y6,y7⟩:=hyb.cells
              simp only [objC7] at y0 y1 y2 y3 y4 y5 y6 y7
              have hbx:=(put0_box h4 (c:=(objC7 ka t.k.length kc va t.k.length vc))).cells
              unfold put0 objC7 at hbx
              simp only at hbx
              obtain ⟨e0,e1,e2,e3,e4,e5,e6,e7⟩:=hbx
              have HF:=Lib.hid (by have:=obj_end Hd.out HB8.out (by have:=HSA.out;omega) HTL.out HOB.out (by omega);rw [HTC.out] at this;exact this)
              unfold put0 objC7 Cel.val at HF
              simp only at HF
              rw [HMP.out] at HF
              clear h4 hyb
              go_wp2_with fail
              exact bodyPost_ret (v:=.tuple #[.agg #[.int .i64 7,.bool false,.bool false,.slice none 0 0,.int .i64 0,.string ⟨#[]⟩,.slice ka t.k.length kc,.slice va t.k.length vc],_]) (by simp [results,Tryz.results45,go_sem,e0,e1,e2,e3,e4,e5,e6,e7]) rfl HF.out
end Go.Proofs.YtnacbakcalcgaaaGreatDoor
