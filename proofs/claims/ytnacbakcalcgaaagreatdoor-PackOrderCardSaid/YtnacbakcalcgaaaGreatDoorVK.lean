/- Texts of the claim. -/
import Derived.Test.YtnacbakcalcgaaaGreatDoorVJ
import Derived.Test.YtnacbakcalcgaaaGreatDoorTie
import Derived.LaidMore
import Derived.Lay
import Derived.Lib.LaidU8T
import Derived.Lib.SmallJoins
set_option linter.unusedVariables false
set_option linter.unusedSimpArgs false
set_option maxHeartbeats 8000000
set_option maxRecDepth 100000
namespace Go.Proofs.YtnacbakcalcgaaaGreatDoor
open Go.RowKit Go.Lib Go.Sort
theorem pkV_head {f n:Nat} {l:List Nat} {x:Int} (h:pkHead l=.inr x):pkValue (f+1) l n=.inr x:=by rw [pkValue,h]
theorem pkV_limit {f n:Nat} {l r:List Nat} {h0:HdM} (h:pkHead l=.inl (h0,r)) (h2:n=2000∨f=0):pkValue (f+1) l n=.inr 4:=by rw [pkValue,h];simp only;rw [if_pos h2]
theorem pkV_on {f n:Nat} {l r:List Nat} {h0:HdM} (h:pkHead l=.inl (h0,r)) (h2:¬ (n=2000∨f=0)):pkValue (f+1) l n=pkBehind (pkValue f) h0 r (n+1):=by rw [pkValue,h];simp only;rw [if_neg h2]
theorem nd_itemsP {V:List Nat→Nat→RC MT} (hN:NdC V):∀ (f:Nat) (us:List MT) (l:List Nat) (n:Nat) (p:List MT × List Nat × Nat),n≤2000→pkItems V f us l n=.inl p→p.2.2≤2000:=by
  intro f
  induction f with
  | zero=>intro us l n p hn e;simp only [pkItems,Sum.inl.injEq] at e;rw [← e];exact hn
  | succ f ih =>
    intro us l n p hn e
    rw [pkItems] at e
    split at e
    · cases e
    · rename_i t r n2 hv
      exact ih _ _ _ _ (hN _ _ _ hn hv) e
theorem nd_membersP {V:List Nat→Nat→RC MT} (hN:NdC V):∀ (f:Nat) (ks:List ByteArray) (us:List MT) (l:List Nat) (n:Nat) (p:(List ByteArray × List MT) × List Nat × Nat),n≤2000→pkMembers V f ks us l n=.inl p→p.2.2≤2000:=by
  intro f
  induction f with
  | zero=>intro ks us l n p hn e;simp only [pkMembers,Sum.inl.injEq] at e;rw [← e];exact hn
  | succ f ih =>
    intro ks us l n p hn e
    rw [pkMembers] at e
    split at e
    · cases e
    · split at e
      · cases e
      · rename_i t r n2 hv
        exact ih _ _ _ _ _ (hN _ _ _ hn hv) e
theorem nd_behindP {V:List Nat→Nat→RC MT} (hN:NdC V) (h:HdM) (l:List Nat) (n:Nat) (p:MT × List Nat × Nat) (hn:n≤2000) (e:pkBehind V h l n=.inl p):p.2.2≤2000:=by
  unfold pkBehind at e
  split at e
  · cases e;exact hn
  split at e
  · cases e;exact hn
  split at e
  · cases e;exact hn
  split at e
  · cases e;exact hn
  split at e
  · cases e;exact hn
  split at e
  · split at e
    · cases e
    · cases e;exact hn
  split at e
  · split at e
    · cases e
    · cases e;exact hn
  split at e
  · split at e
    · cases e
    · cases e;exact hn
  split at e
  · split at e
    · cases e
    · cases e;exact hn
  split at e
  · unfold pkArr at e
    split at e
    · cases e
    · split at e
      · cases e
      · rename_i hi
        cases e
        exact nd_itemsP hN _ _ _ _ _ hn hi
  split at e
  · unfold pkObj at e
    split at e
    · cases e
    · split at e
      · cases e
      · rename_i hi
        split at e
        · cases e
          exact nd_membersP hN _ _ _ _ _ _ hn hi
        · cases e
  · cases e
theorem nd_valueP:∀ f,NdC (pkValue f):=by
  intro f
  induction f with
  | zero=>intro l n p _ e;cases e
  | succ f ih =>
    intro l n p hn e
    rw [pkValue] at e
    split at e
    · cases e
    · split at e
      · cases e
      · rename_i hnf
        exact nd_behindP ih _ _ _ _ (by omega) e
theorem value_pk {w0:World} (hU:UT w0) {g d f:Nat} (hdf:d+f=64) (hV:f ≠ 0→ValPC w0 g (d+1) (pkValue f)):ValPC w0 g d (pkValue (f+1)):=by
  intro w l n hn hr
  have hg:=hr.lt
  have hlow:=hr.env.size
  have hne2:¬ w.heap.size=g:=by omega
  obtain ⟨W1,hW1⟩:∃ V,w.alloc (.cells #[.int .i64 0,.bool false,.bool false,.slice none 0 0,.int .i64 0,.string ⟨#[]⟩,.slice none 0 0,.slice none 0 0] 29)=V:=⟨_,rfl⟩
  have hb1:Below w.heap.size w W1:=by rw [← hW1];exact (Below.refl _ _).alloc (Nat.le_refl _) _
  have H1:=Lib.hid (StP.of_below hr hb1)
  have HN1:=Lib.hid (show W1.heap[w.heap.size]? = some (.cells #[.int .i64 0,.bool false,.bool false,.slice none 0 0,.int .i64 0,.string ⟨#[]⟩,.slice none 0 0,.slice none 0 0] 29) by rw [← hW1];exact heap_alloc_new w _)
  have HS1:=Lib.hid (show w.heap.size<W1.heap.size by rw [← hW1];simp)
  have HW1:=Lib.hid hW1
  have KH:=Lib.hid (head_pk H1.out.rd)
  have HV:=Lib.hid hV
  have HU:=Lib.hid hU
  obtain ⟨R,hR⟩:∃ R,pkValue (f+1) l n=R:=⟨_,rfl⟩
  rw [hR]
  have HR:=Lib.hid hR
  clear hr hb1 hV hR hW1 hU
  go_enter Tryz.func57,Tryz.ntmps57
  go_wp2_with fail
  rw [HW1.out]
  refine KH.out.mono ?_
  intro r w1 hp
  cases hh:pkHead l with
  | inr x =>
    rw [hh] at hp
    obtain ⟨rfl,l',d',n',h1⟩:=hp
    have H2:=Lib.hid (H1.out.trans h1)
    have HE:=Lib.hid (HR.out.symm.trans (pkV_head hh))
    clear h1 hh KH
    go_wp2_with fail
    exact ⟨rfl,ValP.no HE.out (ThrowP.mk H2.out)⟩
  | inl q =>
    obtain ⟨⟨m,k⟩,r2⟩:=q
    rw [hh] at hp
    obtain ⟨rfl,h1⟩:=hp
    have hok:=pkHead_ok H1.out.rd.ok hh
    have HM:=Lib.hid hok.k;have HKB:=Lib.hid hok.n
    have HBX1:=Lib.hid ((h1.oth.block w.heap.size HS1.out hne2).trans HN1.out)
    have HS2:=Lib.hid (Nat.lt_of_lt_of_le HS1.out h1.oth.size)
    obtain ⟨W2,hW2⟩:∃ V,w1.alloc (.cells #[.int .i64 (m:Int),.int .u64 (k:Int)] 129)=V:=⟨_,rfl⟩
    have hb2:Below w1.heap.size w1 W2:=by rw [← hW2];exact (Below.refl _ _).alloc (Nat.le_refl _) _
    have hq2:W2.heap[w1.heap.size]? = some (.cells #[.int .i64 (m:Int),.int .u64 (k:Int)] 129):=by rw [← hW2];exact heap_alloc_new w1 _
    have h2:=(H1.out.trans h1).more hb2
    have H2:=Lib.hid h2
    have HBX2:=Lib.hid ((hb2.block _ HS2.out).trans HBX1.out)
    have hg1:g<w1.heap.size:=h1.rd.lt
    have c1:=h2.rd.c1
    have c2:=h2.rd.c2
    have f1:=h2.rd.fz 1
    have f2:=h2.rd.fz 2
    have HW2:=Lib.hid hW2
    have hmv:hmV (m,k)=.agg #[.int .i64 (m:Int),.int .u64 (k:Int)]:=rfl
    rw [hmv]
    clear hok KH h1 hb2 h2 hW2 hmv
    go_upto_region 2 with fail
    rw [HW2.out]
    by_cases hn2:n=2000
    · have e2:((n:Int) == 2000)=true:=by rw [beq_iff_eq];omega
      have HE:=Lib.hid (HR.out.symm.trans (pkV_limit hh (.inl hn2)))
      clear hn2 hh
      go_wp2_with fail
      exact ⟨rfl,ValP.no HE.out (ThrowP.mk H2.out)⟩
    · have e2:((n:Int) == 2000)=false:=by rw [beq_eq_false_iff_ne];omega
      by_cases hf:f=0
      · have e3:((d:Int) == 64)=true:=by rw [beq_iff_eq];omega
        have HE:=Lib.hid (HR.out.symm.trans (pkV_limit hh (.inr hf)))
        clear hn2 hf hh
        go_wp2_with fail
        exact ⟨rfl,ValP.no HE.out (ThrowP.mk H2.out)⟩
      · have e3:((d:Int) == 64)=false:=by rw [beq_eq_false_iff_ne];omega
        have hnf:¬ (n=2000∨f=0):=fun h=>h.elim hn2 hf
        have HE0:=Lib.hid (HR.out.symm.trans (pkV_on hh hnf))
        obtain ⟨W3,hW3⟩:∃ V,(W2.setCell ⟨g,2,none⟩ (.int .i64 ((n:Int)+1))).setCell ⟨g,1,none⟩ (.int .i64 ((d:Int)+1))=V:=⟨_,rfl⟩
        have H3:Hid (StP w0 g r2 (d+1) (n+1) W2 W3):=Lib.hid (by rw [← hW3];exact ((StP.refl H2.out.rd).nodes (n+1) (by simp)).depth (d+1) (by simp))
        have c1b:(W2.setCell ⟨g,2,none⟩ (.int .i64 ((n:Int)+1))).cell? ⟨g,1,none⟩=some (.int .i64 (d:Int)):=by rw [World.cell?_setCell_other (h:=by simp)];exact c1
        have f1b:(W2.setCell ⟨g,2,none⟩ (.int .i64 ((n:Int)+1))).frozen? ⟨g,1,none⟩=false:=by rw [World.frozen?_setCell];exact f1
        have hbz:W3.heap[w.heap.size]? = some (.cells #[.int .i64 0,.bool false,.bool false,.slice none 0 0,.int .i64 0,.string ⟨#[]⟩,.slice none 0 0,.slice none 0 0] 29):=by rw [← hW3,set_otherC hne2,set_otherC hne2];exact HBX2.out
        have hbh:W3.heap[w1.heap.size]? = some (.cells #[.int .i64 (m:Int),.int .u64 (k:Int)] 129):=by
          have hx:w1.heap.size ≠ g:=by omega
          rw [← hW3,set_otherC hx,set_otherC hx];exact hq2
        have HBX3:=Lib.hid hbz
        have x0:W3.cell? ⟨w1.heap.size,0,none⟩=some (.int .i64 (m:Int)):=cellOf hbh 0 rfl
        have x1:W3.cell? ⟨w1.heap.size,1,none⟩=some (.int .u64 (k:Int)):=cellOf hbh 1 rfl
        have KB:=Lib.hid (behind_pk HU.out (pkValue f) (HV.out hf) (nd_valueP f) H3.out.rd m k HM.out HKB.out (by omega))
        rw [← HE0.out] at KB
        have s1:IntKind.i64.wrap ((n:Int)+1)=(n:Int)+1:=IntWalk.i64_in _ (by omega)
        have s2:IntKind.i64.wrap ((d:Int)+1)=(d:Int)+1:=IntWalk.i64_in _ (by omega)
        have s3:IntKind.i64.wrap ((d:Int)+1 - 1)=(d:Int):=by rw [show (d:Int)+1 - 1=(d:Int) by omega];exact IntWalk.i64_in _ (by omega)
        have HW3:=Lib.hid hW3
        clear hn2 hf hnf hbz hbh hW3 hh
        go_upto_region 6 with fail
        rw [HW3.out]
        unfold hmV at KB
        go_wp2_with fail
        refine KB.out.mono ?_
        intro r4 w4 hp
        clear HR HE0 KB
        cases R with
        | inr x =>
          obtain ⟨rfl,l',d',n',h4⟩:=hp
          have H5:=Lib.hid ((H2.out.trans H3.out).trans h4)
          clear h4
          go_wp2_with fail
          exact ⟨rfl,ValP.no rfl (ThrowP.mk H5.out)⟩
        | inl q =>
          obtain ⟨t,r5,n5⟩:=q
          obtain ⟨t',rfl,hbare,hin,h4⟩:=hp
          have HBR:=Lib.hid hbare
          have HIN:=Lib.hid hin
          generalize hc:t'.c=c at *
          obtain ⟨k0,b0,ng,ma,mn,mc,ex,st,ka,kn,kc,va,vn,vc⟩:=c
          have HC:=Lib.hid hc
          obtain ⟨W5,hW5⟩:∃ V,w4.alloc (.cells #[.int .i64 k0,.bool b0,.bool ng,.slice ma mn mc,.int .i64 ex,.string st,.slice ka kn kc,.slice va vn vc] 29)=V:=⟨_,rfl⟩
          have h5:Below w4.heap.size w4 W5:=by rw [← hW5];exact (Below.refl _ _).alloc (Nat.le_refl _) _
          have hq5:W5.heap[w4.heap.size]? = some (.cells #[.int .i64 k0,.bool b0,.bool ng,.slice ma mn mc,.int .i64 ex,.string st,.slice ka kn kc,.slice va vn vc] 29):=by rw [← hW5];exact heap_alloc_new w4 _
          have hst5:=(H2.out.trans H3.out).trans h4 |>.more h5
          have hbx4:=(h4.oth.block w.heap.size (Array.getElem?_eq_some_iff.1 HBX3.out).1 hne2).trans HBX3.out
          have hbx5:=(h5.block w.heap.size (Array.getElem?_eq_some_iff.1 hbx4).1).trans hbx4
          have hzz:w.heap.size<W3.heap.size:=(Array.getElem?_eq_some_iff.1 HBX3.out).1
          have hg3:g<W3.heap.size:=H3.out.rd.lt
          have hng:¬ w4.heap.size=g:=by have:=h4.rd.lt;omega
          have hgn:¬ g=w4.heap.size:=fun e=>hng e.symm
          have c1d:=hst5.rd.c1
          have f1d:=hst5.rd.fz 1
          obtain ⟨W6,hW6⟩:∃ V,W5.setCell ⟨g,1,none⟩ (.int .i64 (d:Int))=V:=⟨_,rfl⟩
          have H6:=Lib.hid (show StP w0 g r5 d n5 w W6 by rw [← hW6];exact hst5.depth d rfl)
          have hbx6:W6.heap[w.heap.size]? = some (.cells #[.int .i64 0,.bool false,.bool false,.slice none 0 0,.int .i64 0,.string ⟨#[]⟩,.slice none 0 0,.slice none 0 0] 29):=by rw [← hW6,set_otherC hne2];exact hbx5
          have hbn:W6.heap[w4.heap.size]? = some (.cells #[.int .i64 k0,.bool b0,.bool ng,.slice ma mn mc,.int .i64 ex,.string st,.slice ka kn kc,.slice va vn vc] 29):=by rw [← hW6,set_otherC hng];exact hq5
          have hin6:Ind (fun k=>k<W3.heap.size) W6 (fun W=>Rep W t'):=HIN.out.to (by rw [← hW6];simp only [World.setCell,Array.size_modify];exact h5.size) (fun q hq hx=>by
            have:q ≠ g:=by omega
            rw [← hW6,set_otherC this];exact h5.block q hq) (fun _ _ h=>h) (fun _ h=>h)
          have HFIN:=Lib.hid (val_finP H6.out (b:=w.heap.size) (Nat.le_refl _) hne2 hlow hzz hin6 (.int .i64 k0) (.bool b0) (.bool ng) (.slice ma mn mc) (.int .i64 ex) (.string st) (.slice ka kn kc) (.slice va vn vc))
          have x0:W6.cell? ⟨w4.heap.size,0,none⟩=some (.int .i64 k0):=cellOf hbn 0 rfl
          have x1:W6.cell? ⟨w4.heap.size,1,none⟩=some (.bool b0):=cellOf hbn 1 rfl
          have x2:W6.cell? ⟨w4.heap.size,2,none⟩=some (.bool ng):=cellOf hbn 2 rfl
          have x3:W6.cell? ⟨w4.heap.size,3,none⟩=some (.slice ma mn mc):=cellOf hbn 3 rfl
          have x4:W6.cell? ⟨w4.heap.size,4,none⟩=some (.int .i64 ex):=cellOf hbn 4 rfl
          have x5:W6.cell? ⟨w4.heap.size,5,none⟩=some (.string st):=cellOf hbn 5 rfl
          have x6:W6.cell? ⟨w4.heap.size,6,none⟩=some (.slice ka kn kc):=cellOf hbn 6 rfl
          have x7:W6.cell? ⟨w4.heap.size,7,none⟩=some (.slice va vn vc):=cellOf hbn 7 rfl
          have y0:W6.cell? ⟨w.heap.size,0,none⟩=some (.int .i64 0):=cellOf hbx6 0 rfl
          have z0:=freeOf hbx6 0
          have y1:W6.cell? ⟨w.heap.size,1,none⟩=some (.bool false):=cellOf hbx6 1 rfl
          have z1:=freeOf hbx6 1
          have y2:W6.cell? ⟨w.heap.size,2,none⟩=some (.bool false):=cellOf hbx6 2 rfl
          have z2:=freeOf hbx6 2
          have y3:W6.cell? ⟨w.heap.size,3,none⟩=some (.slice none 0 0):=cellOf hbx6 3 rfl
          have z3:=freeOf hbx6 3
          have y4:W6.cell? ⟨w.heap.size,4,none⟩=some (.int .i64 0):=cellOf hbx6 4 rfl
          have z4:=freeOf hbx6 4
          have y5:W6.cell? ⟨w.heap.size,5,none⟩=some (.string ⟨#[]⟩):=cellOf hbx6 5 rfl
          have z5:=freeOf hbx6 5
          have y6:W6.cell? ⟨w.heap.size,6,none⟩=some (.slice none 0 0):=cellOf hbx6 6 rfl
          have z6:=freeOf hbx6 6
          have y7:W6.cell? ⟨w.heap.size,7,none⟩=some (.slice none 0 0):=cellOf hbx6 7 rfl
          have z7:=freeOf hbx6 7
          have hn8:¬ w4.heap.size=w.heap.size:=by have:=h4.oth.size;omega
          have hn9:¬ w.heap.size=w4.heap.size:=fun e=>hn8 e.symm
          have HW5:=Lib.hid hW5;have HW6:=Lib.hid hW6
          unfold Cel.val
          clear h4 h5 hst5 hbx4 hbx5 hbx6 hin6 hbn hq5 hin hbare c1 c2 f1 f2 c1b f1b hW5 hW6 hc
          go_upto_region 7 with fail
          rw [HW5.out]
          go_upto_region 8 with fail
          rw [HW6.out]
          go_wp2_with fail
          refine bodyPost_ret (v:=.agg #[.int .i64 k0,.bool b0,.bool ng,.slice ma mn mc,.int .i64 ex,.string st,.slice ka kn kc,.slice va vn vc]) (by simp [results,Tryz.results57,go_sem,y0,y1,y2,y3,y4,y5,y6,y7]) rfl ?_
          exact ValP.yes t' rfl (by rw [HC.out];rfl) HBR.out HFIN.out.1 HFIN.out.2
theorem value_allP {w0:World} (hU:UT w0) {g:Nat}:∀ f d,d+f=64→ValPC w0 g d (pkValue (f+1)):=by
  intro f
  induction f with
  | zero=>intro d h;exact value_pk hU h (fun h=>absurd rfl h)
  | succ f ih=>intro d h;exact value_pk hU h (fun _=>ih (d+1) (by omega))
/-- The closure that catches: what was thrown becomes the answer. -/
theorem catch_thrownP (g h : Nat) (v0 v1 v2 v3 v4 v5 v6 v7 u : Value) (x : Int) (older : List PanicEntry) (w : World) (n1 : g ≠ h)
    (c0 : w.cell? ⟨g, 0, none⟩ = some v0) (f0 : w.frozen? ⟨g, 0, none⟩ = false)
    (c1 : w.cell? ⟨g, 1, none⟩ = some v1) (f1 : w.frozen? ⟨g, 1, none⟩ = false)
    (c2 : w.cell? ⟨g, 2, none⟩ = some v2) (f2 : w.frozen? ⟨g, 2, none⟩ = false)
    (c3 : w.cell? ⟨g, 3, none⟩ = some v3) (f3 : w.frozen? ⟨g, 3, none⟩ = false)
    (c4 : w.cell? ⟨g, 4, none⟩ = some v4) (f4 : w.frozen? ⟨g, 4, none⟩ = false)
    (c5 : w.cell? ⟨g, 5, none⟩ = some v5) (f5 : w.frozen? ⟨g, 5, none⟩ = false)
    (c6 : w.cell? ⟨g, 6, none⟩ = some v6) (f6 : w.frozen? ⟨g, 6, none⟩ = false)
    (c7 : w.cell? ⟨g, 7, none⟩ = some v7) (f7 : w.frozen? ⟨g, 7, none⟩ = false)
    (ch : w.cell? ⟨h, 0, none⟩ = some u) (fh : w.frozen? ⟨h, 0, none⟩ = false) :
    CallsD Tryz.prog 56 #[.pointer (some ⟨g, 0, none⟩), .pointer (some ⟨h, 0, none⟩)] (.panicking ({ v := .iface 32 (.int .i64 x), recovered := false } :: older)) w fun e u' w' =>
      e = .returned (.tuple #[]) ∧ u' = .panicking ({ v := .iface 32 (.int .i64 x), recovered := true } :: older) ∧
        w' = (((((((((w.setCell ⟨g, 0, none⟩ (.int .i64 0)).setCell ⟨g, 1, none⟩ (.bool false)).setCell ⟨g, 2, none⟩ (.bool false)).setCell ⟨g, 3, none⟩ (.slice none 0 0)).setCell ⟨g, 4, none⟩ (.int .i64 0)).setCell ⟨g, 5, none⟩ (.string ⟨#[]⟩)).setCell ⟨g, 6, none⟩ (.slice none 0 0)).setCell ⟨g, 7, none⟩ (.slice none 0 0)).setCell ⟨h, 0, none⟩ (.int .i64 x)).drew := by
  refine callsD_of_wpS Tryz.func56 rfl fun c₀ cs hu => ?_
  apply wpS_seq
  apply wpS_region
  simp [wpOpsS, go_sem, recoverD, hu, Tryz.ntmps56, Exit.thenS]
  apply wpS_seq
  apply wpS_region
  simp [wpOpsS, go_sem, Exit.thenS]
  refine wpS_cond (t := true) (by simp [Act.eval, Array.replicate]) ?_
  simp only [if_true]
  refine wpS_of_wp ?_
  change Code.wp _ _ _ { tmps := #[.pointer (some ⟨g, 0, none⟩), .pointer (some ⟨h, 0, none⟩), .iface 32 (.int .i64 x), .iface 32 (.int .i64 x), .iface 32 (.int .i64 x), .bool true, undef, undef, undef], defers := [] } w
  have hne1 : ¬ h = g := fun hh => n1 hh.symm
  have hta := assert_errnoC x
  go_region
  exact ⟨rfl, _, rfl, .tuple #[], by simp [results, Tryz.results56, go_sem], rfl, rfl, rfl⟩
theorem catch_idleP (p q:Addr) (w:World) :
    CallsD Tryz.prog 56 #[.pointer (some p),.pointer (some q)] .returning w fun e u' w'=>e=.returned (.tuple #[])∧u'=.returning∧w'=w:=by
  refine callsD_of_wpS Tryz.func56 rfl fun c₀ cs hu=>?_
  apply wpS_seq
  apply wpS_region
  simp [wpOpsS,go_sem,recoverD,hu,Tryz.ntmps56,Exit.thenS]
  apply wpS_seq
  apply wpS_region
  simp [wpOpsS,go_sem,Exit.thenS]
  refine wpS_cond (t:=false) (by simp [Act.eval,Array.replicate]) ?_
  simp only [Bool.false_eq_true,if_false]
  refine wpS_of_wp (wp_skip ?_)
  cases c₀
  simp_all [bodyPostS,results,Tryz.results56]
theorem decode_longP (ad:Option Addr) (n cap:Nat) (w:World) (hbig:32768<n) :
    Calls Tryz.prog 27 #[.slice ad n cap] w (DecC (.inr 4) w):=by
  have hmf:∀ (fn:Fn) (first cap:Array Value) (w:World),(Instr.makeFunc fn first cap).run Tryz.prog w=.ok (.func fn first cap) w:=fun _ _ _ _=>rfl
  generalize hW:(w.alloc (.cells #[.int .i64 0,.bool false,.bool false,.slice none 0 0,.int .i64 0,.string ⟨#[]⟩,.slice none 0 0,.slice none 0 0] 29)).alloc (.cells #[.int .i64 0] 32)=W
  have hb0:Below w.heap.size w W:=by
    rw [← hW];exact ((Below.refl _ _).alloc (Nat.le_refl _) _).alloc (by simp) _
  have q0:W.heap[w.heap.size]? = some (.cells #[.int .i64 0,.bool false,.bool false,.slice none 0 0,.int .i64 0,.string ⟨#[]⟩,.slice none 0 0,.slice none 0 0] 29):=by rw [← hW];exact (Below.heap_alloc _ _ _ (by simp)).trans (heap_alloc_new w _)
  have q1:W.heap[w.heap.size+1]? = some (.cells #[.int .i64 0] 32):=by
    rw [← hW];have:=heap_alloc_new (w.alloc (.cells #[.int .i64 0,.bool false,.bool false,.slice none 0 0,.int .i64 0,.string ⟨#[]⟩,.slice none 0 0,.slice none 0 0] 29)) (.cells #[.int .i64 0] 32);simpa using this
  have a0:World.cell? W ⟨w.heap.size,0,none⟩=some (.int .i64 0):=cellOf q0 0 rfl
  have af0:=freeOf q0 0
  have a1:World.cell? W ⟨w.heap.size,1,none⟩=some (.bool false):=cellOf q0 1 rfl
  have af1:=freeOf q0 1
  have a2:World.cell? W ⟨w.heap.size,2,none⟩=some (.bool false):=cellOf q0 2 rfl
  have af2:=freeOf q0 2
  have a3:World.cell? W ⟨w.heap.size,3,none⟩=some (.slice none 0 0):=cellOf q0 3 rfl
  have af3:=freeOf q0 3
  have a4:World.cell? W ⟨w.heap.size,4,none⟩=some (.int .i64 0):=cellOf q0 4 rfl
  have af4:=freeOf q0 4
  have a5:World.cell? W ⟨w.heap.size,5,none⟩=some (.string ⟨#[]⟩):=cellOf q0 5 rfl
  have af5:=freeOf q0 5
  have a6:World.cell? W ⟨w.heap.size,6,none⟩=some (.slice none 0 0):=cellOf q0 6 rfl
  have af6:=freeOf q0 6
  have a7:World.cell? W ⟨w.heap.size,7,none⟩=some (.slice none 0 0):=cellOf q0 7 rfl
  have af7:=freeOf q0 7
  have b0:W.cell? ⟨w.heap.size+1,0,none⟩=some (.int .i64 0):=cellOf q1 0 rfl
  have bf0:=freeOf q1 0
  have hgt:decide ((32768:Int)<(n:Int))=true:=decide_eq_true (by omega)
  have HB:=Lib.hid hb0
  have hW2:=Lib.hid hW
  clear hW hb0 q0 q1
  go_enter_defers Tryz.func27,Tryz.ntmps27
  go_wp2_with fail
  rw [hW2.out]
  go_wp2
  refine leaves_cons (f:=56) (args:=#[.pointer (some ⟨w.heap.size,0,none⟩),.pointer (some ⟨w.heap.size+1,0,none⟩)]) (by simp) (by simp [go_sem]) ?_
  refine (catch_thrownP w.heap.size (w.heap.size+1) _ _ _ _ _ _ _ _ _ 4 [] _ (by omega) a0 af0 a1 af1 a2 af2 a3 af3 a4 af4 a5 af5 a6 af6 a7 af7 b0 bf0).mono ?_
  rintro e u' w'' ⟨rfl,rfl,rfl⟩
  simp [Leaves,settle,results,Tryz.results27,go_sem,a0,a1,a2,a3,a4,a5,a6,a7,b0]
  exact DecC.no rfl rfl ((((((((((HB.out.setCell (by simp) _).setCell (by simp) _).setCell (by simp) _).setCell (by simp) _).setCell (by simp) _).setCell (by simp) _).setCell (by simp) _).setCell (by simp) _).setCell (by simp) _).drew)
theorem decode_shortP (ad:Option Addr) (n cap:Nat) (l:List Nat) (w:World) (hln:l.length=n) (hl:n≤32768) (hc:n≤cap) (hok:Okb l) (hr:RdV w ad (bc l)) (hsh:Shp ad cap) (R:RC MT)
    (hV:∀ W,RdP w (w.heap.size+1+1) l 0 0 W→Calls Tryz.prog 57 #[.pointer (some ⟨(w.heap.size+1+1),0,none⟩)] W (ValP w (w.heap.size+1+1) 0 R W)) :
    Calls Tryz.prog 27 #[.slice ad n cap] w (DecC (finC R) w):=by
  have hmf:∀ (fn:Fn) (first cap:Array Value) (w:World),(Instr.makeFunc fn first cap).run Tryz.prog w=.ok (.func fn first cap) w:=fun _ _ _ _=>rfl
  generalize hW:((w.alloc (.cells #[.int .i64 0,.bool false,.bool false,.slice none 0 0,.int .i64 0,.string ⟨#[]⟩,.slice none 0 0,.slice none 0 0] 29)).alloc (.cells #[.int .i64 0] 32)).alloc (.cells #[.slice ad n cap,.int .i64 0,.int .i64 0] 89)=W
  have hb0:Below w.heap.size w W:=by
    rw [← hW];exact (((Below.refl _ _).alloc (Nat.le_refl _) _).alloc (by simp) _).alloc (by simp;omega) _
  have hsW:W.heap.size=w.heap.size+3:=by rw [← hW];simp
  have q0:W.heap[w.heap.size]? = some (.cells #[.int .i64 0,.bool false,.bool false,.slice none 0 0,.int .i64 0,.string ⟨#[]⟩,.slice none 0 0,.slice none 0 0] 29):=by
    rw [← hW];exact ((Below.heap_alloc _ _ _ (by simp;omega)).trans (Below.heap_alloc _ _ _ (by simp))).trans (heap_alloc_new w _)
  have q1:W.heap[w.heap.size+1]? = some (.cells #[.int .i64 0] 32):=by
    rw [← hW]
    refine (Below.heap_alloc _ _ _ (by simp)).trans ?_
    have:=heap_alloc_new (w.alloc (.cells #[.int .i64 0,.bool false,.bool false,.slice none 0 0,.int .i64 0,.string ⟨#[]⟩,.slice none 0 0,.slice none 0 0] 29)) (.cells #[.int .i64 0] 32);simpa using this
  have q2:RdP w (w.heap.size+1+1) l 0 0 W:=by
    refine ⟨by omega,hb0,hok,by omega,ad,cap,?_,by omega,hr,hsh⟩
    rw [← hW,hln]
    have:=heap_alloc_new ((w.alloc (.cells #[.int .i64 0,.bool false,.bool false,.slice none 0 0,.int .i64 0,.string ⟨#[]⟩,.slice none 0 0,.slice none 0 0] 29)).alloc (.cells #[.int .i64 0] 32)) (.cells #[.slice ad n cap,.int .i64 0,.int .i64 0] 89)
    simpa using this
  have KV:=Lib.hid (hV W q2)
  have hgt:¬ 32768<n:=by omega
  have HB:=Lib.hid hb0
  have Q0:=Lib.hid q0;have Q1:=Lib.hid q1
  have hW2:=Lib.hid hW
  clear hW hb0 q0 q1 q2 hV hr hsh hok hln
  go_enter_defers Tryz.func27,Tryz.ntmps27
  go_wp2_with fail
  rw [hW2.out]
  refine KV.out.mono ?_
  intro r w1 hp
  unfold ValP at hp
  cases R with
  | inr y =>
    obtain ⟨rfl,la,da,na,h2⟩:=hp
    have p0:=(h2.oth.block w.heap.size (by omega) (by omega)).trans Q0.out
    have p1:=(h2.oth.block (w.heap.size+1) (by omega) (by omega)).trans Q1.out
    have HB1:Hid (Below w.heap.size w w1):=Lib.hid (HB.out.trans (h2.oth.below (by omega) (by omega)))
    have a0:World.cell? w1 ⟨w.heap.size,0,none⟩=some (.int .i64 0):=cellOf p0 0 rfl
    have af0:=freeOf p0 0
    have a1:World.cell? w1 ⟨w.heap.size,1,none⟩=some (.bool false):=cellOf p0 1 rfl
    have af1:=freeOf p0 1
    have a2:World.cell? w1 ⟨w.heap.size,2,none⟩=some (.bool false):=cellOf p0 2 rfl
    have af2:=freeOf p0 2
    have a3:World.cell? w1 ⟨w.heap.size,3,none⟩=some (.slice none 0 0):=cellOf p0 3 rfl
    have af3:=freeOf p0 3
    have a4:World.cell? w1 ⟨w.heap.size,4,none⟩=some (.int .i64 0):=cellOf p0 4 rfl
    have af4:=freeOf p0 4
    have a5:World.cell? w1 ⟨w.heap.size,5,none⟩=some (.string ⟨#[]⟩):=cellOf p0 5 rfl
    have af5:=freeOf p0 5
    have a6:World.cell? w1 ⟨w.heap.size,6,none⟩=some (.slice none 0 0):=cellOf p0 6 rfl
    have af6:=freeOf p0 6
    have a7:World.cell? w1 ⟨w.heap.size,7,none⟩=some (.slice none 0 0):=cellOf p0 7 rfl
    have af7:=freeOf p0 7
    have b0:w1.cell? ⟨w.heap.size+1,0,none⟩=some (.int .i64 0):=cellOf p1 0 rfl
    have bf0:=freeOf p1 0
    clear p0 p1 h2 KV
    go_wp2
    refine leaves_cons (f:=56) (args:=#[.pointer (some ⟨w.heap.size,0,none⟩),.pointer (some ⟨w.heap.size+1,0,none⟩)]) (by simp) (by simp [go_sem]) ?_
    refine (catch_thrownP w.heap.size (w.heap.size+1) _ _ _ _ _ _ _ _ _ y [] _ (by omega) a0 af0 a1 af1 a2 af2 a3 af3 a4 af4 a5 af5 a6 af6 a7 af7 b0 bf0).mono ?_
    rintro e u' w'' ⟨rfl,rfl,rfl⟩
    simp [Leaves,settle,results,Tryz.results27,go_sem,a0,a1,a2,a3,a4,a5,a6,a7,b0]
    exact DecC.no rfl rfl ((((((((((HB1.out.setCell (by simp) _).setCell (by simp) _).setCell (by simp) _).setCell (by simp) _).setCell (by simp) _).setCell (by simp) _).setCell (by simp) _).setCell (by simp) _).setCell (by simp) _).drew)
  | inl p =>
    obtain ⟨t,l2,n2⟩:=p
    obtain ⟨t',rfl,hbare,hi,h2⟩:=hp
    have p0:=(h2.oth.block w.heap.size (by omega) (by omega)).trans Q0.out
    have p1:=(h2.oth.block (w.heap.size+1) (by omega) (by omega)).trans Q1.out
    have HS:Hid (StP w (w.heap.size+1+1) l2 0 n2 w w1):=Lib.hid ⟨(But.of_below HB.out).trans h2.oth,h2.rd⟩
    have HM:=Lib.hid hbare
    obtain ⟨⟨k,b,neg,ma,mn,mc,x,s,ka,kn,kc,va,vn,vc⟩,M,K,V⟩:=t'
    dsimp only [MT.c,Cel.val]
    have a0:World.cell? w1 ⟨w.heap.size,0,none⟩=some (.int .i64 0):=cellOf p0 0 rfl
    have af0:=freeOf p0 0
    have a1:World.cell? w1 ⟨w.heap.size,1,none⟩=some (.bool false):=cellOf p0 1 rfl
    have af1:=freeOf p0 1
    have a2:World.cell? w1 ⟨w.heap.size,2,none⟩=some (.bool false):=cellOf p0 2 rfl
    have af2:=freeOf p0 2
    have a3:World.cell? w1 ⟨w.heap.size,3,none⟩=some (.slice none 0 0):=cellOf p0 3 rfl
    have af3:=freeOf p0 3
    have a4:World.cell? w1 ⟨w.heap.size,4,none⟩=some (.int .i64 0):=cellOf p0 4 rfl
    have af4:=freeOf p0 4
    have a5:World.cell? w1 ⟨w.heap.size,5,none⟩=some (.string ⟨#[]⟩):=cellOf p0 5 rfl
    have af5:=freeOf p0 5
    have a6:World.cell? w1 ⟨w.heap.size,6,none⟩=some (.slice none 0 0):=cellOf p0 6 rfl
    have af6:=freeOf p0 6
    have a7:World.cell? w1 ⟨w.heap.size,7,none⟩=some (.slice none 0 0):=cellOf p0 7 rfl
    have af7:=freeOf p0 7
    have HS8:Hid (StP w (w.heap.size+1+1) l2 0 n2 w ((((((((w1.setCell ⟨w.heap.size,0,none⟩ (.int .i64 k)).setCell ⟨w.heap.size,1,none⟩ (.bool b)).setCell ⟨w.heap.size,2,none⟩ (.bool neg)).setCell ⟨w.heap.size,3,none⟩ (.slice ma mn mc)).setCell ⟨w.heap.size,4,none⟩ (.int .i64 x)).setCell ⟨w.heap.size,5,none⟩ (.string s)).setCell ⟨w.heap.size,6,none⟩ (.slice ka kn kc)).setCell ⟨w.heap.size,7,none⟩ (.slice va vn vc))):=Lib.hid ((((((((HS.out.fresh (Nat.le_refl _) (by omega) (Nat.le_refl _) _ _).fresh (Nat.le_refl _) (by omega) (Nat.le_refl _) _ _).fresh (Nat.le_refl _) (by omega) (Nat.le_refl _) _ _).fresh (Nat.le_refl _) (by omega) (Nat.le_refl _) _ _).fresh (Nat.le_refl _) (by omega) (Nat.le_refl _) _ _).fresh (Nat.le_refl _) (by omega) (Nat.le_refl _) _ _).fresh (Nat.le_refl _) (by omega) (Nat.le_refl _) _ _).fresh (Nat.le_refl _) (by omega) (Nat.le_refl _) _ _)
    have hP0:((((((((w1.setCell ⟨w.heap.size,0,none⟩ (.int .i64 k)).setCell ⟨w.heap.size,1,none⟩ (.bool b)).setCell ⟨w.heap.size,2,none⟩ (.bool neg)).setCell ⟨w.heap.size,3,none⟩ (.slice ma mn mc)).setCell ⟨w.heap.size,4,none⟩ (.int .i64 x)).setCell ⟨w.heap.size,5,none⟩ (.string s)).setCell ⟨w.heap.size,6,none⟩ (.slice ka kn kc)).setCell ⟨w.heap.size,7,none⟩ (.slice va vn vc)).heap[w.heap.size]? = some (.cells #[.int .i64 k,.bool b,.bool neg,.slice ma mn mc,.int .i64 x,.string s,.slice ka kn kc,.slice va vn vc] 29):=by simp [World.setCell,Array.getElem?_modify,p0]
    have hP1:((((((((w1.setCell ⟨w.heap.size,0,none⟩ (.int .i64 k)).setCell ⟨w.heap.size,1,none⟩ (.bool b)).setCell ⟨w.heap.size,2,none⟩ (.bool neg)).setCell ⟨w.heap.size,3,none⟩ (.slice ma mn mc)).setCell ⟨w.heap.size,4,none⟩ (.int .i64 x)).setCell ⟨w.heap.size,5,none⟩ (.string s)).setCell ⟨w.heap.size,6,none⟩ (.slice ka kn kc)).setCell ⟨w.heap.size,7,none⟩ (.slice va vn vc)).heap[w.heap.size+1]? = some (.cells #[.int .i64 0] 32):=by
      have hne:w.heap.size+1 ≠ w.heap.size:=by omega
      rw [set_otherC hne,set_otherC hne,set_otherC hne,set_otherC hne,set_otherC hne,set_otherC hne,set_otherC hne,set_otherC hne];exact p1
    have HI8:Hid (Ind (fun k=>k<W.heap.size) ((((((((w1.setCell ⟨w.heap.size,0,none⟩ (.int .i64 k)).setCell ⟨w.heap.size,1,none⟩ (.bool b)).setCell ⟨w.heap.size,2,none⟩ (.bool neg)).setCell ⟨w.heap.size,3,none⟩ (.slice ma mn mc)).setCell ⟨w.heap.size,4,none⟩ (.int .i64 x)).setCell ⟨w.heap.size,5,none⟩ (.string s)).setCell ⟨w.heap.size,6,none⟩ (.slice ka kn kc)).setCell ⟨w.heap.size,7,none⟩ (.slice va vn vc)) (fun W=>Rep W (.mk ⟨k,b,neg,ma,mn,mc,x,s,ka,kn,kc,va,vn,vc⟩ M K V))):=Lib.hid (hi.to (by simp [World.setCell]) (fun j hj hx=>by
      have hx':¬ j<W.heap.size:=hx
      have hne:j ≠ w.heap.size:=by omega
      rw [set_otherC hne,set_otherC hne,set_otherC hne,set_otherC hne,set_otherC hne,set_otherC hne,set_otherC hne,set_otherC hne]) (fun _ _ h=>h) (fun _ h=>h))
    obtain ⟨ad2,cap2,c0,_,_,_⟩:=HS8.out.rd.cell
    replace c0:=cellOf c0 0 rfl
    obtain ⟨ln2,hln2⟩:∃ ln2,l2.length=ln2:=⟨_,rfl⟩
    rw [hln2] at c0
    have HL2:=Lib.hid hln2
    have HP0:=Lib.hid hP0;have HP1:=Lib.hid hP1;have HQ0:=Lib.hid p0
    clear h2 KV hi hbare HS hln2 hP0 hP1 p0 p1
    clear a0 a1 a2 a3 a4 a5 a6 a7 af0 af1 af2 af3 af4 af5 af6 af7
    have a0:World.cell? w1 ⟨w.heap.size,0,none⟩=some (.int .i64 0):=cellOf HQ0.out 0 rfl
    have af0:=freeOf HQ0.out 0
    have a1:World.cell? w1 ⟨w.heap.size,1,none⟩=some (.bool false):=cellOf HQ0.out 1 rfl
    have af1:=freeOf HQ0.out 1
    have a2:World.cell? w1 ⟨w.heap.size,2,none⟩=some (.bool false):=cellOf HQ0.out 2 rfl
    have af2:=freeOf HQ0.out 2
    have a3:World.cell? w1 ⟨w.heap.size,3,none⟩=some (.slice none 0 0):=cellOf HQ0.out 3 rfl
    have af3:=freeOf HQ0.out 3
    have a4:World.cell? w1 ⟨w.heap.size,4,none⟩=some (.int .i64 0):=cellOf HQ0.out 4 rfl
    have af4:=freeOf HQ0.out 4
    have a5:World.cell? w1 ⟨w.heap.size,5,none⟩=some (.string ⟨#[]⟩):=cellOf HQ0.out 5 rfl
    have af5:=freeOf HQ0.out 5
    have a6:World.cell? w1 ⟨w.heap.size,6,none⟩=some (.slice none 0 0):=cellOf HQ0.out 6 rfl
    have af6:=freeOf HQ0.out 6
    have a7:World.cell? w1 ⟨w.heap.size,7,none⟩=some (.slice none 0 0):=cellOf HQ0.out 7 rfl
    have af7:=freeOf HQ0.out 7
    go_upto_region 6 with fail
    generalize ((((((((w1.setCell ⟨w.heap.size,0,none⟩ (.int .i64 k)).setCell ⟨w.heap.size,1,none⟩ (.bool b)).setCell ⟨w.heap.size,2,none⟩ (.bool neg)).setCell ⟨w.heap.size,3,none⟩ (.slice ma mn mc)).setCell ⟨w.heap.size,4,none⟩ (.int .i64 x)).setCell ⟨w.heap.size,5,none⟩ (.string s)).setCell ⟨w.heap.size,6,none⟩ (.slice ka kn kc)).setCell ⟨w.heap.size,7,none⟩ (.slice va vn vc))=w2 at *
    clear a0 a1 a2 a3 a4 a5 a6 a7 af0 af1 af2 af3 af4 af5 af6 af7
    have a0:World.cell? w2 ⟨w.heap.size,0,none⟩=some (.int .i64 k):=cellOf HP0.out 0 rfl
    have af0:=freeOf HP0.out 0
    have a1:World.cell? w2 ⟨w.heap.size,1,none⟩=some (.bool b):=cellOf HP0.out 1 rfl
    have af1:=freeOf HP0.out 1
    have a2:World.cell? w2 ⟨w.heap.size,2,none⟩=some (.bool neg):=cellOf HP0.out 2 rfl
    have af2:=freeOf HP0.out 2
    have a3:World.cell? w2 ⟨w.heap.size,3,none⟩=some (.slice ma mn mc):=cellOf HP0.out 3 rfl
    have af3:=freeOf HP0.out 3
    have a4:World.cell? w2 ⟨w.heap.size,4,none⟩=some (.int .i64 x):=cellOf HP0.out 4 rfl
    have af4:=freeOf HP0.out 4
    have a5:World.cell? w2 ⟨w.heap.size,5,none⟩=some (.string s):=cellOf HP0.out 5 rfl
    have af5:=freeOf HP0.out 5
    have a6:World.cell? w2 ⟨w.heap.size,6,none⟩=some (.slice ka kn kc):=cellOf HP0.out 6 rfl
    have af6:=freeOf HP0.out 6
    have a7:World.cell? w2 ⟨w.heap.size,7,none⟩=some (.slice va vn vc):=cellOf HP0.out 7 rfl
    have af7:=freeOf HP0.out 7
    have b0:w2.cell? ⟨w.heap.size+1,0,none⟩=some (.int .i64 0):=cellOf HP1.out 0 rfl
    have bf0:=freeOf HP1.out 0
    have n1:¬ w.heap.size+1=w.heap.size:=by omega
    by_cases h0:ln2=0
    · have HS:Hid (l2=[]):=Lib.hid (List.eq_nil_of_length_eq_zero (by rw [HL2.out];exact h0))
      have e0:¬ 0<ln2:=by omega
      clear h0
      go_wp2
      refine leaves_cons (f:=56) (args:=#[.pointer (some ⟨w.heap.size,0,none⟩),.pointer (some ⟨w.heap.size+1,0,none⟩)]) (by simp) (by simp [go_sem]) ?_
      refine (catch_idleP _ _ _).mono ?_
      rintro e u' w'' ⟨rfl,rfl,rfl⟩
      simp [Leaves,settle,results,Tryz.results27,go_sem,a0,a1,a2,a3,a4,a5,a6,a7,b0]
      rw [show finC (.inl (t,l2,n2))=.inl t from by unfold finC;simp [HS.out]]
      refine ⟨.mk ⟨k,b,neg,ma,mn,mc,x,s,ka,kn,kc,va,vn,vc⟩ M K V,rfl,HM.out,HI8.out _ (by simp [World.setCell]) (fun j hj hx=>?_),((((((((((HS8.out.oth.below (by omega) (Nat.le_refl _)).setCell (by simp) _).setCell (by simp) _).setCell (by simp) _).setCell (by simp) _).setCell (by simp) _).setCell (by simp) _).setCell (by simp) _).setCell (by simp) _).setCell (by simp) _)⟩
      have hx':¬ j<W.heap.size:=hx
      have hne:j ≠ w.heap.size:=by omega
      have hne2:j ≠ w.heap.size+1:=by omega
      rw [set_otherC hne2,set_otherC hne,set_otherC hne,set_otherC hne,set_otherC hne,set_otherC hne,set_otherC hne,set_otherC hne,set_otherC hne]
    · have HS:Hid (¬ l2=[]):=Lib.hid (fun h=>h0 (by rw [← HL2.out,h];rfl))
      have e0:0<ln2:=by omega
      clear h0
      go_wp2
      refine leaves_cons (f:=56) (args:=#[.pointer (some ⟨w.heap.size,0,none⟩),.pointer (some ⟨w.heap.size+1,0,none⟩)]) (by simp) (by simp [go_sem]) ?_
      refine (catch_thrownP w.heap.size (w.heap.size+1) _ _ _ _ _ _ _ _ _ 2 [] _ (by omega) a0 af0 a1 af1 a2 af2 a3 af3 a4 af4 a5 af5 a6 af6 a7 af7 b0 bf0).mono ?_
      rintro e u' w'' ⟨rfl,rfl,rfl⟩
      simp [Leaves,settle,results,Tryz.results27,go_sem,a0,a1,a2,a3,a4,a5,a6,a7,b0]
      exact DecC.no (by unfold finC;simp [HS.out]) rfl (((((((((((HS8.out.oth.below (by omega) (Nat.le_refl _)).setCell (by simp) _).setCell (by simp) _).setCell (by simp) _).setCell (by simp) _).setCell (by simp) _).setCell (by simp) _).setCell (by simp) _).setCell (by simp) _).setCell (by simp) _).drew)
theorem decode_pk (ad:Option Addr) (n cap:Nat) (l:List Nat) (w:World) (hU:UT w) (hln:l.length=n) (hc:n≤cap) (hok:Okb l) (hr:RdV w ad (bc l)) (hsh:Shp ad cap) :
    Calls Tryz.prog 27 #[.slice ad n cap] w (DecC (pkDecode l) w):=by
  unfold pkDecode
  rw [hln]
  by_cases h:32768<n
  · rw [if_pos h];exact decode_longP ad n cap w h
  · rw [if_neg h]
    have:=decode_shortP ad n cap l w hln (by omega) hc hok hr hsh (pkValue 65 l 0) (fun W hW=>value_allP hU 64 0 rfl W l 0 (by omega) hW)
    unfold finC at this
    cases hv:pkValue 65 l 0 with
    | inr x=>rw [hv] at this;exact this
    | inl p=>obtain ⟨t,r,k⟩:=p;rw [hv] at this;exact this
def awP:List Nat:=[129,161,97,202,63,192,0,0]
theorem awP_mem:pkMembers (pkValue 64) 1 [] [] [161,97,202,63,192,0,0] 1=.inl (([⟨#[97]⟩],[awN]),[],2):=by kernel_rfl
theorem awP_val:pkValue 65 awP 0=.inl (awT10,[],2):=by
  unfold awP
  rw [valP_on (h:=(10,1)) (r:=[161,97,202,63,192,0,0]) (by kernel_rfl) (by decide) (by decide)]
  have h:=awP_mem
  unfold pkBehind pkObj
  rw [if_neg (by decide),if_neg (by decide),if_neg (by decide),if_neg (by decide),if_neg (by decide),if_neg (by decide),if_neg (by decide),if_neg (by decide),if_neg (by decide),if_neg (by decide),if_pos (by decide)]
  simp only
  rw [if_neg (by decide),h]
  simp only
  rw [if_pos (by simp),awC_sort]
  rfl
theorem awP_dec:pkDecode awP=.inl awT10:=by
  unfold pkDecode
  rw [if_neg (by decide),awP_val]
  rfl
theorem awP_enc:encP awT10=some awP:=by
  have h1:encP awN=some [202,63,192,0,0]:=by kernel_rfl
  rw [encP_eq]
  show objP [⟨#[97]⟩] ([awN].map encP)=some awP
  rw [List.map_cons,List.map_nil,h1]
  decide
theorem encP_bare (t:MT):encP t.bare=encP t:=by
  refine MT.ind (P:=fun t=>encP t.bare=encP t) ?_ t
  intro t ih
  rw [encP_eq t.bare,encP_eq t,MT.bare_eq]
  obtain ⟨c,m,ks,vs⟩:=t
  simp only [MT.c,MT.m,MT.k,MT.v,Cel.bare] at ih ⊢
  have e:(vs.map MT.bare).map encP=vs.map encP:=by
    rw [List.map_map]
    exact List.map_congr_left ih
  rw [e,List.length_map]
  rfl
theorem encoP_of {t u:MT} (h:t.bare=u):encoP t=encoP u:=by
  have h1:checkB t=checkB u:=by rw [← checkB_bareC t,h]
  have h2:encP t=encP u:=by rw [← encP_bare t,h]
  unfold encoP
  rw [h1,h2]
theorem awP_encode {t:MT} (h:t.bare=awT10):encoP t=.inl awP:=by
  rw [encoP_of h,encoP_ok awC_check awP_enc (by decide)]
/-- The document's example. -/
theorem awake12_any (w:World) (hU:UT w) (hT:DB w):Calls Tryz.prog 25 #[] w (BoolBelow true w):=by
  have hba:Below w.heap.size w (w.alloc (.cells #[.int .u8 129,.int .u8 161,.int .u8 97,.int .u8 202,.int .u8 63,.int .u8 192,.int .u8 0,.int .u8 0] 5 (8,9))):=(Below.refl _ _).alloc (Nat.le_refl _) _
  have kc:=fun (w:World) (C:Array Value) (n c:Nat)=>Lib.run_convert_bytes_const (P:=Tryz.prog) w 22 5 C n c Tryz.underlying22 Tryz.underlying5
  have KD:=Lib.hid (decode_pk (some ⟨w.heap.size,0,none⟩) 8 8 awP _ (hU.below hba) rfl (Nat.le_refl _) (by unfold Okb awP;decide) (rd_mark w 5 [.int .u8 129,.int .u8 161,.int .u8 97,.int .u8 202,.int .u8 63,.int .u8 192,.int .u8 0,.int .u8 0] (8,9)) (.inr ⟨_,_,rfl⟩))
  rw [awP_dec] at KD
  have HU:=Lib.hid hU;have HT:=Lib.hid hT;have HBA:=Lib.hid hba
  clear hU hT hba
  unfold DecC at KD
  go_enter Tryz.func25,Tryz.ntmps25
  go_wp2_with fail
  refine KD.out.mono ?_
  rintro r w1 ⟨t,rfl,hbare,hR,hb⟩
  replace hb:=below_on HBA.out hb
  have KE:=Lib.hid (fun W (h:Below w1.heap.size w1 W)=>encode_pk t W (hR.on h) (HU.out.below (hb.trans (h.mono hb.size))) (HT.out.below (hb.trans (h.mono hb.size))))
  rw [awP_encode hbare] at KE
  unfold EnP at KE
  obtain ⟨hvn,vb,vo,hva,hce⟩:=awC_cells hbare hR
  have hvlt:=lt_of_cell hce
  have HB:=Lib.hid hb
  clear hb hR hbare KD
  generalize t.c=c at *
  obtain ⟨k,b0,neg,ma,mn,mc,e,s,ka,kn,kc,va,vn,vc⟩:=c
  unfold Cel.val at *
  simp only at hvn hva
  subst hvn hva
  have hb2:Below w1.heap.size w1 (w1.alloc (.cells #[.int .i64 k,.bool b0,.bool neg,.slice ma mn mc,.int .i64 e,.string s,.slice ka kn kc,.slice (some ⟨vb,vo,none⟩) 1 vc] 29)):=(Below.refl _ _).alloc (Nat.le_refl _) _
  have KE2:=Lib.hid (KE.out _ hb2)
  have HB2:=Lib.hid hb2
  have q2:=heap_alloc_new w1 (.cells #[.int .i64 k,.bool b0,.bool neg,.slice ma mn mc,.int .i64 e,.string s,.slice ka kn kc,.slice (some ⟨vb,vo,none⟩) 1 vc] 29)
  have Q2:=Lib.hid q2
  clear hb2 KE q2
  go_wp2_with fail
  refine KE2.out.mono ?_
  rintro r w3 ⟨v,rfl,ho,hb3⟩
  obtain ⟨ad3,cap3,rfl,hc3,hr3,_,_,h03⟩:=own_viewN ho
  have HCV:=Lib.hid (conv_bv w3 ad3 8 cap3 awP rfl hr3)
  rw [show strB awP=⟨#[129,161,97,202,63,192,0,0]⟩ from rfl] at HCV
  have x3:=(hb3.cell (p:=⟨vb,vo+4,none⟩) (by simp;omega)).trans ((HB2.out.cell (p:=⟨vb,vo+4,none⟩) hvlt).trans hce)
  have q3:=(hb3.block _ (by simp)).trans Q2.out
  have HB3:=Lib.hid (HB.out.trans ((HB2.out.trans (hb3.mono HB2.out.size)).mono HB.out.size))
  clear hb3 KE2 ho hr3 h03 hc3 hce
  have y7:=(boxC q3 7 _ rfl).1
  clear q3
  have el:awP.length=8:=rfl
  rw [el]
  go_wp2_with fail
  rw [HCV.out]
  simp only [Result.andThen]
  rw [Oper.upon_value]
  go_wp2_with fail
  go_ret
  exact BoolBelow.mk rfl HB3.out
theorem strP_len (m:Nat) (s:ByteArray):(strP m s).length≤9+s.size:=by
  unfold strP
  rw [List.length_append,strN_len]
  have:=mput_le (m:Int) s.size
  omega
theorem encP_leaf1 {u:MT} (h:u.c.k=1):encP u=some [192]:=by
  rw [encP_eq,if_pos h];rfl
theorem encP_leaf2 {u:MT} (h:u.c.k=2) (hb:u.c.b=false):encP u=some [194]:=by
  rw [encP_eq,if_neg (by omega),if_pos h,hb];rfl
def twoP (a b:ByteArray):List Nat:=if Op.bytesLess b.toList a.toList then [130]++strP 7 b++[194]++strP 7 a++[192] else [130]++strP 7 a++[192]++strP 7 b++[194]
theorem encP_two {a b:ByteArray} {t:MT} (h:Two a b t):encP t=some (twoP a b):=by
  have h7:=h.k7
  rw [encP_eq,if_neg (by omega),if_neg (by omega),if_neg (by omega),if_neg (by omega),if_neg (by omega),if_neg (by omega),if_pos h7]
  have h10:mput 10 2=[130]:=by decide
  rcases h.kv with ⟨hk,⟨u,v,hv,h1,h2,h3⟩,hl⟩ | ⟨hk,⟨u,v,hv,h1,h2,h3⟩,hl⟩
  · have:=(ltS_yes hl).1
    rw [hk,hv,List.map_cons,List.map_cons,List.map_nil,encP_leaf1 h1,encP_leaf2 h2 h3]
    unfold twoP
    rw [if_neg (by rw [this];decide)]
    simp [objP,mbrP,catP,h10]
  · have hlb:Op.bytesLess b.toList a.toList=true:=hl
    rw [hk,hv,List.map_cons,List.map_cons,List.map_nil,encP_leaf1 h1,encP_leaf2 h2 h3]
    unfold twoP
    rw [if_pos hlb]
    simp [objP,mbrP,catP,h10]
theorem twoP_len (a b:ByteArray) (ha:a.size≤300) (hb:b.size≤300):(twoP a b).length≤700:=by
  have h1:=strP_len 7 a;have h2:=strP_len 7 b
  unfold twoP
  split <;> simp only [List.length_cons,List.length_append,List.length_nil] <;> omega
theorem enco_textP {a:ByteArray} (ha:a.size≤300) (hv:okN a=true):encoP (leafT 4 false a)=.inl (strP 7 a):=by
  have hs:soundB (leafT 4 false a)=true:=by
    unfold okN at hv
    rw [Bool.and_eq_true] at hv
    show (validL a.data.toList && (decide (a.size≤2000) && _))=true
    rw [hv.2,hv.1];rfl
  have hc:checkB (leafT 4 false a)=true:=by
    unfold checkB
    rw [leaf_nodesC,leaf_preC]
    simp [hs]
  have he:encP (leafT 4 false a)=some (strP 7 a):=by rw [encP_eq];rfl
  exact encoP_ok hc he (by have:=strP_len 7 a;omega)
theorem packOrder_main (a b:ByteArray) (w:World) (ha:a.size≤300) (hb:b.size≤300) (hne:a.toList ≠ b.toList) (hU:UT w) (hT:DB w) :
    Calls Tryz.prog 12 #[.string a,.string b] w (BoolBelow true w):=by
  have AW:=Lib.hid (fun W (h:Below w.heap.size w W)=>show Calls Tryz.prog 25 #[] W (BoolBelow true w) from (awake12_any W (hU.below h) (hT.below h)).mono fun _ _ hp=>⟨hp.1,below_on h hp.2⟩)
  have K1:=Lib.hid (set_one a w (by unfold maxLen;omega))
  have K2:=Lib.hid (fun e w1 h=>set_two (w:=w) (e:=e) (w1:=w1) h hne (by unfold maxLen;omega))
  have KE:=Lib.hid (fun (t:MT) W (h:Below w.heap.size w W) (hR:Rep W t)=>encode_pk t W hR (hU.below h) (hT.below h))
  have HNE:=Lib.hid hne
  have HA:=Lib.hid ha;have HB:=Lib.hid hb
  have hx:(a.toList == b.toList)=false:=by rw [beq_eq_false_iff_ne];exact hne
  have ha1:decide ((300:Int)<(a.size:Int))=false:=decide_eq_false (by omega)
  have hb1:decide ((300:Int)<(b.size:Int))=false:=decide_eq_false (by omega)
  clear hne ha hb hU hT
  have K1:Hid (Calls _ _ #[.agg #[.int .i64 0,.bool false,.bool false,.slice none 0 0,.int .i64 0,.string ⟨#[]⟩,.slice none 0 0,.slice none 0 0],.string a,.agg #[.int .i64 1,.bool false,.bool false,.slice none 0 0,.int .i64 0,.string ⟨#[]⟩,.slice none 0 0,.slice none 0 0]] _ _):=K1
  go_enter Tryz.func12,Tryz.ntmps12
  go_wp2_with fail
  refine K1.out.mono ?_
  intro r w1 hp
  obtain ⟨ka,kc,va,vc,rfl,hb1,K3⟩:=K2.out _ _ hp
  change Calls _ _ #[.agg #[.int .i64 7,.bool false,.bool false,.slice none 0 0,.int .i64 0,.string ⟨#[]⟩,.slice ka 1 kc,.slice va 1 vc],.string b,.agg #[.int .i64 2,.bool false,.bool false,.slice none 0 0,.int .i64 0,.string ⟨#[]⟩,.slice none 0 0,.slice none 0 0]] _ _ at K3
  dsimp only [objC7,Cel.val]
  have H1:=Lib.hid hb1
  have K3:=Lib.hid K3
  clear hp hb1 K1 K2
  go_wp2_with fail
  refine K3.out.mono ?_
  rintro r w2 ⟨u,x,y,ka2,kc2,va2,vc2,hu,hc,rfl,hR,hb2⟩
  have H2:=Lib.hid (below_on H1.out hb2)
  obtain ⟨W3,hW3⟩:∃ x,w2.alloc (.cells #[.int .i64 7,.bool false,.bool false,.slice none 0 0,.int .i64 0,.string ⟨#[]⟩,.slice ka2 2 kc2,.slice va2 2 vc2] 29)=x:=⟨_,rfl⟩
  have hb3:Below w2.heap.size w2 W3:=by rw [← hW3];exact below_newC _ _
  have HY:=Lib.hid (fun W (h:Below W3.heap.size W3 W)=>(by rw [← hW3] at h;exact box8C w2 h:W.cell? ⟨w2.heap.size,0,none⟩=some (.int .i64 7)∧W.cell? ⟨w2.heap.size,1,none⟩=some (.bool false)∧W.cell? ⟨w2.heap.size,2,none⟩=some (.bool false)∧W.cell? ⟨w2.heap.size,3,none⟩=some (.slice none 0 0)∧W.cell? ⟨w2.heap.size,4,none⟩=some (.int .i64 0)∧W.cell? ⟨w2.heap.size,5,none⟩=some (.string ⟨#[]⟩)∧W.cell? ⟨w2.heap.size,6,none⟩=some (.slice ka2 2 kc2)∧W.cell? ⟨w2.heap.size,7,none⟩=some (.slice va2 2 vc2)))
  have H3:=Lib.hid (below_on H2.out hb3)
  have KE3:=KE.out u W3 H3.out (hR.on hb3)
  have HRU:=Lib.hid (fun W (h:Below W3.heap.size W3 W)=>(hR.on (hb3.trans (h.mono hb3.size)):Rep W u))
  have HU:=Lib.hid hu
  dsimp only [objC7,Cel.val]
  rw [hc] at KE3
  have HC:=Lib.hid hc
  have HW3:=Lib.hid hW3
  clear hb2 hb3 hW3 hR hu hc K3
  have hck:=HU.out.check
  cases hok:okN x && okN y with
  | false =>
    rw [hok] at hck
    have he:encoP u=.inr 1:=by unfold encoP;rw [if_pos hck]
    rw [he] at KE3
    unfold EnP at KE3
    dsimp only [objC7,Cel.val] at KE3 ⊢
    have KE4:=Lib.hid KE3
    have HOK:=Lib.hid hok
    clear he hck KE3 hok
    go_wp2_with fail
    rw [HW3.out]
    refine KE4.out.mono ?_
    rintro r w4 ⟨rfl,hb4⟩
    have H4:=Lib.hid (below_on H3.out hb4)
    have H34:=Lib.hid hb4
    obtain ⟨c0,c1,c2,c3,c4,c5,c6,c7⟩:=HY.out _ hb4
    have KC:=Lib.hid (refCheck_noC (.agg #[.int .i64 7,.bool false,.bool false,.slice none 0 0,.int .i64 0,.string ⟨#[]⟩,.slice ka2 2 kc2,.slice va2 2 vc2]) w4 ⟨_,_,_,_,_,_,_,_,_,_,_,_,_,_,rfl⟩ (fun W h=>by
      refine refFields_noC none 0 ka2 kc2 va2 vc2 2 [x,y] W (fun W' h'=>?_)
      have hr:=HRU.out W' (H34.out.trans ((h.trans (h'.mono h.size)).mono H34.out.size))
      have own:=hr.own
      have hk:=HU.out.k
      have hkr:=own.kr
      rw [hk,HC.out] at hkr
      have hkc:2≤kc2:=by have:=own.kc;rw [HC.out] at this;exact this
      have hz:x.size≤300∧y.size≤300:=by
        have h1:=HA.out;have h2:=HB.out
        rcases HU.out.v with ⟨rfl,rfl,_⟩ | ⟨rfl,rfl,_⟩
        · exact ⟨h1,h2⟩
        · exact ⟨h2,h1⟩
      have hokk:=HOK.out
      by_cases hvx:validL x.data.toList=true
      · have hx1:okN x=true:=by unfold okN;rw [hvx,decide_eq_true (show x.size≤2000 by omega)];rfl
        rw [hx1,Bool.true_and] at hokk
        have hvy:validL y.data.toList=false:=by
          unfold okN at hokk
          rw [decide_eq_true (show y.size≤2000 by omega),Bool.true_and] at hokk
          exact hokk
        exact refNames_noC ka2 2 kc2 [x,y] W' rfl hkc hkr (by decide) 1 (by decide) hvy (by show y.size≤1000;omega) (fun j hj=>by
          obtain rfl:j=0:=by omega
          unfold nameAt
          show (okN x && (decide (0=0) || _))=true
          rw [hx1];rfl)
      · have hvx':validL x.data.toList=false:=by cases hq:validL x.data.toList <;> simp_all
        exact refNames_noC ka2 2 kc2 [x,y] W' rfl hkc hkr (by decide) 0 (by decide) hvx' (by show x.size≤1000;omega) (fun j hj=>by omega)))
    clear hb4 KE4
    go_wp2_with fail
    refine KC.out.mono ?_
    rintro r w5 ⟨rfl,hb5⟩
    have H5:=Lib.hid (below_on H4.out hb5)
    clear hb5
    go_wp2_with fail
    refine (AW.out _ H5.out).mono ?_
    rintro r w9 ⟨rfl,hb9⟩
    have HB9:=Lib.hid hb9
    clear hb9
    go_wp2_with fail
    go_ret
    exact BoolBelow.mk rfl HB9.out
  | true =>
    rw [hok] at hck
    have hno:okN a=true∧okN b=true:=by
      rw [Bool.and_eq_true] at hok
      rcases HU.out.v with ⟨rfl,rfl,_⟩ | ⟨rfl,rfl,_⟩
      · exact hok
      · exact ⟨hok.2,hok.1⟩
    have hlx:=twoP_len a b HA.out HB.out
    have he:encoP u=.inl (twoP a b):=encoP_ok hck (encP_two HU.out.two) (by omega)
    rw [he] at KE3
    have HEX:Hid (twoP a b=if Op.bytesLess b.toList a.toList then [130]++strP 7 b++[194]++strP 7 a++[192] else [130]++strP 7 a++[192]++strP 7 b++[194]):=Lib.hid rfl
    unfold EnP at KE3
    dsimp only [objC7,Cel.val] at KE3 ⊢
    have KE4:=Lib.hid KE3
    have ta:=Lib.hid (enco_textP HA.out hno.1)
    have tb:=Lib.hid (enco_textP HB.out hno.2)
    have KA:=Lib.hid (fun W (h:Below w.heap.size w W)=>(by have:=KE.out (leafT 4 false a) W h (leafT_rep W 4 false a (by decide) (by have:=HA.out;unfold maxLen;omega));rw [ta.out] at this;exact this:Calls Tryz.prog 26 #[.agg #[.int .i64 4,.bool false,.bool false,.slice none 0 0,.int .i64 0,.string a,.slice none 0 0,.slice none 0 0]] W (EnP (.inl (strP 7 a)) W)))
    have KB:=Lib.hid (fun W (h:Below w.heap.size w W)=>(by have:=KE.out (leafT 4 false b) W h (leafT_rep W 4 false b (by decide) (by have:=HB.out;unfold maxLen;omega));rw [tb.out] at this;exact this:Calls Tryz.prog 26 #[.agg #[.int .i64 4,.bool false,.bool false,.slice none 0 0,.int .i64 0,.string b,.slice none 0 0,.slice none 0 0]] W (EnP (.inl (strP 7 b)) W)))
    have hpl:(strP 7 a).length≤309:=by have:=strP_len 7 a;have:=HA.out;omega
    have hql:(strP 7 b).length≤309:=by have:=strP_len 7 b;have:=HB.out;omega
    unfold EnP at KA KB
    clear he hck KE3 hok hno KE ta tb HY HRU
    generalize twoP a b=L at *
    generalize hP:strP 7 a=P at *
    generalize hQ:strP 7 b=Q at *
    clear hP hQ
    have HLL:=Lib.hid hlx
    have HPL:=Lib.hid hpl;have HQL:=Lib.hid hql
    clear hlx hpl hql
    go_wp2_with fail
    rw [HW3.out]
    refine KE4.out.mono ?_
    rintro r w4 ⟨v4,rfl,ho4,hb4⟩
    obtain ⟨a4,n4,c4,rfl,g1,g2,g3,g4,_⟩:=(Byt.own ho4).at_
    have H4:=Lib.hid (below_on H3.out hb4)
    have G4:=Lib.hid g3
    have N4:=Lib.hid g1
    have K4:=Lib.hid (KA.out w4 H4.out)
    clear ho4 hb4 KE4 g1 g2 g3 g4 KA
    go_wp2_with fail
    refine K4.out.mono ?_
    rintro r w5 ⟨v5,rfl,ho5,hb5⟩
    obtain ⟨a5,n5,c5,rfl,g1,g2,g3,g4,_⟩:=(Byt.own ho5).at_
    have H5:=Lib.hid (below_on H4.out hb5)
    replace G4:=Lib.hid (G4.out.on hb5)
    have G5:=Lib.hid g3
    have N5:=Lib.hid g1
    have K5:=Lib.hid (KB.out w5 H5.out)
    clear ho5 hb5 K4 g1 g2 g3 g4 KB
    go_wp2_with fail
    refine K5.out.mono ?_
    rintro r w6 ⟨v6,rfl,ho6,hb6⟩
    obtain ⟨a6,n6,c6,rfl,g1,g2,g3,g4,_⟩:=(Byt.own ho6).at_
    have H6:=Lib.hid (below_on H5.out hb6)
    replace G4:=Lib.hid (G4.out.on hb6)
    replace G5:=Lib.hid (G5.out.on hb6)
    have C4:=Lib.hid (conv_bv w6 a4 n4 c4 L N4.out G4.out)
    have C5:=Lib.hid (conv_bv w6 a5 n5 c5 P N5.out G5.out)
    have C6:=Lib.hid (conv_bv w6 a6 n6 c6 Q g1 g3)
    clear ho6 hb6 K5 g1 g2 g3 g4 G4 G5 N4 N5
    have hsp:(strB P).size≤309:=by rw [strB_size];exact HPL.out
    have hsq:(strB Q).size≤309:=by rw [strB_size];exact HQL.out
    have HXE:Hid (strB L=if Op.bytesLess b.toList a.toList then ⟨#[130]⟩++strB Q++⟨#[194]⟩++strB P++⟨#[192]⟩ else ⟨#[130]⟩++strB P++⟨#[192]⟩++strB Q++⟨#[194]⟩):=Lib.hid (by
      rw [HEX.out]
      cases Op.bytesLess b.toList a.toList
      · simp only [Bool.false_eq_true,if_false]
        apply ByteArray.ext
        simp [strB]
      · simp only [if_true]
        apply ByteArray.ext
        simp [strB])
    generalize strB P=SP at *
    generalize strB Q=SQ at *
    generalize strB L=SX at *
    have z1:¬ 9223372036854775807<1+SP.size:=by omega
    have z2:¬ 9223372036854775807<1+SP.size+1:=by omega
    have z3:¬ 9223372036854775807<1+SP.size+1+SQ.size:=by omega
    have z4:¬ 9223372036854775807<1+SP.size+1+SQ.size+1:=by omega
    have y1:¬ 9223372036854775807<1+SQ.size:=by omega
    have y2:¬ 9223372036854775807<1+SQ.size+1:=by omega
    have y3:¬ 9223372036854775807<1+SQ.size+1+SP.size:=by omega
    have y4:¬ 9223372036854775807<1+SQ.size+1+SP.size+1:=by omega
    go_upto_region 9 with fail
    go_wp2_with fail
    rw [C5.out]
    simp only [Result.andThen]
    rw [Oper.upon_value]
    go_wp2_with fail
    rw [C6.out]
    simp only [Result.andThen]
    rw [Oper.upon_value]
    go_upto_region 10 with fail
    cases hsl:Op.bytesLess b.toList a.toList with
    | false =>
      rw [hsl] at HXE
      simp only [Bool.false_eq_true,if_false] at HXE
      generalize hR:(⟨#[130]⟩:ByteArray)++SP++⟨#[192]⟩++SQ++⟨#[194]⟩=RR at *
      have hrr:(SX.toList == RR.toList)=true:=by rw [HXE.out];simp
      clear hR
      go_wp2_with fail
      rw [C4.out]
      simp only [Result.andThen]
      rw [Oper.upon_value]
      go_wp2_with fail
      refine (AW.out _ H6.out).mono ?_
      rintro r w9 ⟨rfl,hb9⟩
      have HB9:=Lib.hid hb9
      clear hb9
      go_wp2_with fail
      go_ret
      exact BoolBelow.mk rfl HB9.out
    | true =>
      rw [hsl] at HXE
      simp only [if_true] at HXE
      go_wp2_with fail
      rw [C6.out]
      simp only [Result.andThen]
      rw [Oper.upon_value]
      go_wp2_with fail
      rw [C5.out]
      simp only [Result.andThen]
      rw [Oper.upon_value]
      generalize hR:(⟨#[130]⟩:ByteArray)++SP++⟨#[192]⟩++SQ++⟨#[194]⟩=RR at *
      clear hR
      go_upto_region 12 with fail
      generalize hR:(⟨#[130]⟩:ByteArray)++SQ++⟨#[194]⟩++SP++⟨#[192]⟩=R2 at *
      have hrr:(SX.toList == R2.toList)=true:=by rw [HXE.out];simp
      clear hR
      go_wp2_with fail
      rw [C4.out]
      simp only [Result.andThen]
      rw [Oper.upon_value]
      go_wp2_with fail
      refine (AW.out _ H6.out).mono ?_
      rintro r w9 ⟨rfl,hb9⟩
      have HB9:=Lib.hid hb9
      clear hb9
      go_wp2_with fail
      go_ret
      exact BoolBelow.mk rfl HB9.out
theorem packOrder_awake (a b:ByteArray) (w:World) (h:300<a.size∨(a.size≤300∧300<b.size)∨(a.size≤300∧b.size≤300∧a.toList=b.toList)) (hU:UT w) (hT:DB w) :
    Calls Tryz.prog 12 #[.string a,.string b] w (BoolBelow true w):=by
  have AW:=Lib.hid (awake12_any w hU hT)
  clear hU hT
  rcases h with h | ⟨h1,h⟩ | ⟨h1,h2,h⟩
  · have e1:decide ((300:Int)<(a.size:Int))=true:=decide_eq_true (by omega)
    clear h
    go_enter Tryz.func12,Tryz.ntmps12
    go_wp2_with fail
    refine AW.out.mono ?_
    rintro r w9 ⟨rfl,hb9⟩
    have HB9:=Lib.hid hb9
    clear hb9
    go_wp2_with fail
    go_ret
    exact BoolBelow.mk rfl HB9.out
  · have e1:decide ((300:Int)<(a.size:Int))=false:=decide_eq_false (by omega)
    have e2:decide ((300:Int)<(b.size:Int))=true:=decide_eq_true (by omega)
    clear h h1
    go_enter Tryz.func12,Tryz.ntmps12
    go_wp2_with fail
    refine AW.out.mono ?_
    rintro r w9 ⟨rfl,hb9⟩
    have HB9:=Lib.hid hb9
    clear hb9
    go_wp2_with fail
    go_ret
    exact BoolBelow.mk rfl HB9.out
  · have e1:decide ((300:Int)<(a.size:Int))=false:=decide_eq_false (by omega)
    have e2:decide ((300:Int)<(b.size:Int))=false:=decide_eq_false (by omega)
    have e3:(a.toList == b.toList)=true:=by rw [beq_iff_eq];exact h
    clear h h1 h2
    go_enter Tryz.func12,Tryz.ntmps12
    go_wp2_with fail
    refine AW.out.mono ?_
    rintro r w9 ⟨rfl,hb9⟩
    have HB9:=Lib.hid hb9
    clear hb9
    go_wp2_with fail
    go_ret
    exact BoolBelow.mk rfl HB9.out
theorem packOrder_walk (a b:ByteArray) (w:World) (ha:a.size≤maxLen) (hb:b.size≤maxLen) (hU:UT w) (hT:DB w) :
    Calls Tryz.prog 12 #[.string a,.string b] w (BoolBelow true w):=by
  by_cases h1:a.size≤300
  · by_cases h2:b.size≤300
    · by_cases h3:a.toList=b.toList
      · exact packOrder_awake a b w (.inr (.inr ⟨h1,h2,h3⟩)) hU hT
      · exact packOrder_main a b w h1 h2 h3 hU hT
    · exact packOrder_awake a b w (.inr (.inl ⟨h1,by omega⟩)) hU hT
  · exact packOrder_awake a b w (.inl (by omega)) hU hT
end Go.Proofs.YtnacbakcalcgaaaGreatDoor
namespace Go.Proofs.YtnacbakcalcgaaaGreatDoor
open Go.ChangeShapes Go.WideShapes Go.ChangeAt Go.RowKit Go.Shelf
theorem own:ownKnob Tryz.prog.godebug=none:=by kernel_rfl
def ren8:Go.Shelf.Ren:=⟨fun n=>n,fun | 5=>5 | 119=>222 | 138=>224 | 139=>225 | n=>n,fun | 3=>1 | 4=>2 | n=>n⟩
theorem types8:U8Types Tryz.prog ren8:={ t5:=Tryz.underlying5,t119:=Tryz.underlying222,t138:=Tryz.underlying224,t139:=Tryz.underlying225 }
theorem extra8:U8Extra Tryz.prog ren8:={ n3:=by kernel_rfl,n4:=by kernel_rfl,y3:=by kernel_rfl,y4:=by kernel_rfl,c5:=by kernel_rfl,c119:=by kernel_rfl,c138:=by kernel_rfl }
theorem first_data:Rows.laid_unicode_utf8_first=Lib.firstData:=by kernel_rfl
theorem accept_data:(Rows.laid_unicode_utf8_acceptRanges:DataW Unit)=Lib.acceptData:=by kernel_rfl
theorem ut_of_laid {l:List (String × DataW Unit)} {W:World} (h:laidMet Tryz.prog l W) (h1:("unicode/utf8.first",Rows.laid_unicode_utf8_first)∈l) (h2:("unicode/utf8.acceptRanges",Rows.laid_unicode_utf8_acceptRanges)∈l):UT W:=by
  have r1:=Lib.laidMet.reads h h1
  have r2:=Lib.laidMet.reads h h2
  rw [first_data] at r1
  rw [accept_data] at r2
  exact utf8Tabs_of_readsT types8 extra8 r1 r2
end Go.Proofs.YtnacbakcalcgaaaGreatDoor
namespace Go.Proofs.YtnacbakcalcgaaaGreatDoor
open Go.ChangeShapes Go.WideShapes Go.ChangeAt Go.RowKit
def bruTab:List Int:=List.map (fun n:Nat=>(n:Int)) Lib.deBruijn32tab
theorem g_bru:Tryz.prog.globalNamed "math/bits.deBruijn32tab" = some 0:=by kernel_rfl
theorem g_bruT:(Tryz.prog.globals[0]?).map (·.type)=some 218:=by kernel_rfl
theorem bru_data:(Rows.laid_math_bits_deBruijn32tab:DataW Unit)=Lib.tabData .u8 bruTab:=by kernel_rfl
theorem db_of_laid {l:List (String × DataW Unit)} {W:World} (h:laidMet Tryz.prog (("math/bits.deBruijn32tab",Rows.laid_math_bits_deBruijn32tab)::l) W):DB W:=by
  rw [bru_data] at h
  have ht:=Lib.tabIs_of_head g_bru g_bruT Tryz.underlying218 Tryz.underlying5 (by kernel_rfl) (by kernel_rfl) h
  intro j hj
  unfold Lib.TabIs World.var? at ht
  rw [g_bru] at ht
  simp only [Option.bind_some] at ht
  split at ht
  · rename_i cs t0 f0 hb
    simp only [Option.some.injEq] at ht
    subst ht
    simp only [World.cell?,hb]
    have hl:Lib.deBruijn32tab.length=32:=by decide
    simp [bruTab,List.getD,show j<Lib.deBruijn32tab.length by omega]
  · cases ht
end Go.Proofs.YtnacbakcalcgaaaGreatDoor
