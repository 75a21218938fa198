/- Texts of the claim. -/
import Derived.Test.YtnacbakcalcgaaaGreatDoorED
set_option linter.unusedVariables false
set_option linter.unusedSimpArgs false
set_option maxHeartbeats 8000000
set_option maxRecDepth 100000
namespace Go.Proofs.YtnacbakcalcgaaaGreatDoor
open Go.RowKit Go.Lib Go.Sort
theorem cbPart_ok {a b:Nat} {l:List Nat} {h:HdC} {r:List Nat} (hb:Okb l) (e:cbPart a b l=.inl (h,r)):HdOk l h r:=by
  cases l with
  | nil=>cases e
  | cons c l =>
    unfold cbPart at e
    simp only at e
    split at e
    · cases e
    · exact cbHead_ok hb e
def TakI (w0:World) (g d n:Nat) (r:(IntC × List Nat) ⊕ Int) (w:World) (e:Ending) (w':World):Prop:=match r with
  | .inl (i,l)=>(∃ ua un uc xs,e=.returned (.agg #[.bool i.1,.slice ua un uc])∧ListOk w' (.slice ua un uc) 600 i.2 xs)∧StC w0 g l d n w w'
  | .inr x=>ThrowC w0 x g w e w'
theorem TakI.no {w0:World} {g d n:Nat} {r:(IntC × List Nat) ⊕ Int} {w w':World} {e:Ending} {x:Int} (h:r=.inr x) (hs:ThrowC w0 x g w e w'):TakI w0 g d n r w e w':=by
  subst h;exact hs
theorem TakI.yes {w0:World} {g d n:Nat} {r:(IntC × List Nat) ⊕ Int} {w w':World} {i:IntC} {l:List Nat} {ua:Option Addr} {un uc:Nat} {xs:List Nat} (h:r=.inl (i,l)) (hl:ListOk w' (.slice ua un uc) 600 i.2 xs) (hs:StC w0 g l d n w w'):TakI w0 g d n r w (.returned (.agg #[.bool i.1,.slice ua un uc])) w':=by
  subst h;exact ⟨⟨ua,un,uc,xs,rfl,hl⟩,hs⟩
theorem IntVal.out {w:World} {i:IntC} {v:Value} (h:IntVal w i v):∃ ua un uc xs,v=.agg #[.bool i.1,.slice ua un uc]∧ListOk w (.slice ua un uc) 600 i.2 xs:=by
  obtain ⟨u,xs,rfl,h2⟩:=h
  obtain ⟨ad,cap,rfl,h3⟩:=h2
  exact ⟨ad,_,cap,xs,rfl,ad,cap,rfl,h3⟩
theorem cbText_len {h:HdC} {l s r:List Nat} (hi:h.2.1 ≠ 31) (e:cbText h l=.inl (s,r)):s.length≤2000:=by
  unfold cbText at e
  rw [if_neg hi] at e
  split at e
  · cases e
  · obtain ⟨_,h2,_,h4⟩:=cbPiece_len e
    rw [h2,List.length_take];omega
theorem cbText_okb {h:HdC} {l s r:List Nat} (hi:h.2.1 ≠ 31) (hb:Okb l) (e:cbText h l=.inl (s,r)):Okb s:=by
  unfold cbText at e
  rw [if_neg hi] at e
  split at e
  · cases e
  · obtain ⟨_,h2,_,_⟩:=cbPiece_len e
    rw [h2];exact okb_take hb _
theorem cbPart_info {a b:Nat} {l:List Nat} {h:HdC} {r:List Nat} (e:cbPart a b l=.inl (h,r)):h.2.1 ≠ 31∧(h.1=a∨h.1=b):=by
  cases l with
  | nil=>cases e
  | cons c l =>
    unfold cbPart at e
    simp only at e
    split at e
    · cases e
    · rename_i hc
      unfold cbHead at e
      split at e
      · rename_i h0
        simp only [Sum.inl.injEq,Prod.mk.injEq] at e
        obtain ⟨rfl,rfl⟩:=e
        have hg:=getN_in (c::l) 0 c (by simp) rfl
        rw [Int.natCast_zero] at hg
        cases hs:sizeH (c % 32) with
        | none=>rw [hs] at hg;simp only at hg;rw [hg] at h0;simp at h0
        | some s =>
          rw [hs] at hg
          simp only at hg
          split at hg
          · rw [hg] at h0;simp at h0
          · rw [hg]
            simp only
            omega
      · cases e
theorem long_cb {w0:World} (hU:UT w0) {g:Nat} {l:List Nat} {d n:Nat} {w:World} (hr:RdC w0 g l d n w) (tag:Nat) :
    Calls Tryz.prog 153 #[.pointer (some ⟨g,0,none⟩),.int .u64 (tag:Int)] w (TakI w0 g d n (cbLong tag l) w):=by
  have hg:=hr.lt
  have hlow:=hr.env.size
  have hne2:¬ w.heap.size=g:=by omega
  have hne3:w.heap.size+1 ≠ g:=by omega
  have hW:∀ o1 o2:Obj,Below w.heap.size w ((w.alloc o1).alloc o2):=fun o1 o2=>((Below.refl w.heap.size w).alloc (Nat.le_refl _) o1).alloc (by simp) o2
  have hbx:((w.alloc (.cells #[.bool false,.slice none 0 0] 76)).alloc (.cells #[.int .u8 2] 5)).heap[w.heap.size]? = some (.cells #[.bool false,.slice none 0 0] 76):=(Below.heap_alloc _ _ _ (by simp)).trans (heap_alloc_new w _)
  have hrm:RdV ((w.alloc (.cells #[.bool false,.slice none 0 0] 76)).alloc (.cells #[.int .u8 2] 5)) (some ⟨w.heap.size+1,0,none⟩) (bc [2]):=by
    have:=rd_newH (w.alloc (.cells #[.bool false,.slice none 0 0] 76)) 5 (bc [2])
    rw [show (w.alloc (.cells #[.bool false,.slice none 0 0] 76)).heap.size=w.heap.size+1 by simp] at this
    exact this
  have H1:=Lib.hid (StC.of_below hr (hW (.cells #[.bool false,.slice none 0 0] 76) (.cells #[.int .u8 2] 5)))
  have KP:=Lib.hid (part_cb H1.out.rd 2 2 [2] (w.heap.size+1) 1 1 (by simp) rfl (by decide) hrm (by decide) hne3)
  have HBX:=Lib.hid hbx
  have HB3:Hid (((tag:Int) == 3)=decide (tag=3)):=Lib.hid (by by_cases h:tag=3 <;> simp [h];omega)
  obtain ⟨tb,htb⟩:∃ tb,decide (tag=3)=tb:=⟨_,rfl⟩
  have e3:((tag:Int) == 3)=tb:=HB3.out.trans htb
  have HTB:=Lib.hid htb
  clear hr hW hbx hrm htb
  go_enter Tryz.func153,Tryz.ntmps153
  go_wp2_with fail
  refine KP.out.mono ?_
  intro r w1 hp
  cases hh:cbPart 2 2 l with
  | inr x =>
    rw [hh] at hp
    obtain ⟨rfl,l',d',n',h1⟩:=hp
    have H2:=Lib.hid (H1.out.trans h1)
    have HE:Hid (cbLong tag l=.inr x):=Lib.hid (by unfold cbLong;rw [hh])
    clear h1 hh KP
    go_wp2_with fail
    exact ⟨rfl,TakI.no HE.out (ThrowC.mk H2.out)⟩
  | inl p =>
    obtain ⟨⟨m,i,k⟩,r1⟩:=p
    rw [hh] at hp
    obtain ⟨rfl,h1⟩:=hp
    have hok:=cbPart_ok H1.out.rd.ok hh
    have hinf:=cbPart_info hh
    have H2:=Lib.hid (H1.out.trans h1)
    have HBX1:=Lib.hid ((h1.oth.block w.heap.size (by simp;omega) hne2).trans HBX.out)
    have KT:=Lib.hid (text_cb hU h1.rd m i k hok.n)
    have HOB:=Lib.hid h1.rd.ok
    have HH:=Lib.hid hh
    have HIF:=Lib.hid hinf
    clear h1 hh KP hok hinf
    go_wp2_with fail
    refine KT.out.mono ?_
    intro r w2 hp
    cases hq:cbText (m,i,k) r1 with
    | inr x =>
      rw [hq] at hp
      obtain ⟨rfl,l',d',n',h2⟩:=hp
      have H3:=Lib.hid (H2.out.trans h2)
      have HE:Hid (cbLong tag l=.inr x):=Lib.hid (by unfold cbLong;rw [HH.out];simp only;rw [hq])
      clear h2 hq KT
      go_wp2_with fail
      exact ⟨rfl,TakI.no HE.out (ThrowC.mk H3.out)⟩
    | inl p =>
      obtain ⟨s,r2⟩:=p
      rw [hq] at hp
      obtain ⟨rfl,h2⟩:=hp
      have H3:=Lib.hid (H2.out.trans h2)
      have HBX2:=Lib.hid ((h2.oth.block w.heap.size (Array.getElem?_eq_some_iff.1 HBX1.out).1 hne2).trans HBX1.out)
      have HE:Hid (cbLong tag l=.inl ((tb,natB s),r2)):=Lib.hid (by unfold cbLong;rw [HH.out];simp only;rw [hq,HTB.out])
      have KN:=Lib.hid (naturalOf_cb s w2 (cbText_len HIF.out.1 hq) (cbText_okb HIF.out.1 HOB.out hq))
      unfold strV
      clear h2 hq KT
      go_wp2_with fail
      refine KN.out.mono ?_
      rintro r w3 ⟨u,xs,rfl,hl,hb⟩
      obtain ⟨ua,uc,rfl,hu⟩:=hl
      have HL:=Lib.hid (show ListOk w3 (.slice ua xs.length uc) 600 (natB s) xs from ⟨ua,uc,rfl,hu⟩)
      have HBX3:=Lib.hid ((hb.block w.heap.size (Array.getElem?_eq_some_iff.1 HBX2.out).1).trans HBX2.out)
      have H4:=Lib.hid (((H3.out.more hb).fresh (Nat.le_refl _) hne2 hlow 0 (.bool tb)).fresh (Nat.le_refl _) hne2 hlow 1 (.slice ua xs.length uc))
      have y0:w3.cell? ⟨w.heap.size,0,none⟩=some (.bool false):=cellOf HBX3.out 0 rfl
      have y1:w3.cell? ⟨w.heap.size,1,none⟩=some (.slice none 0 0):=cellOf HBX3.out 1 rfl
      have z0:=freeOf HBX3.out 0
      have z1:=freeOf HBX3.out 1
      have HL2:=Lib.hid ((HL.out.box y0 (by intro n;simp) (.bool tb)).box (g:=w.heap.size) (j:=1) (x:=.slice none 0 0) (by rw [World.cell?_setCell_other (h:=by simp)];exact y1) (by intro n;simp) (.slice ua xs.length uc))
      clear hu hb KN
      generalize xs.length=un at *
      go_wp2_with fail
      refine bodyPost_ret (v:=.agg #[.bool tb,.slice ua un uc]) (by simp [results,Tryz.results153,go_sem,y0,y1]) rfl ?_
      exact TakI.yes HE.out HL2.out H4.out
def ValV (w0:World) (g d:Nat) (r:RC MT) (w:World) (e:Ending) (w':World):Prop:=match r with
  | .inl (t,l,n)=>∃ t':MT,e=.returned t'.c.val∧t'.bare=t∧Ind (fun k=>k<w.heap.size) w' (fun W=>Rep W t')∧StC w0 g l d n w w'
  | .inr x=>ThrowC w0 x g w e w'
theorem ValV.no {w0:World} {g d:Nat} {r:RC MT} {w w':World} {e:Ending} {x:Int} (h:r=.inr x) (ht:ThrowC w0 x g w e w'):ValV w0 g d r w e w':=by
  subst h;exact ht
theorem ValV.yes {w0:World} {g d:Nat} {r:RC MT} {w w':World} {e:Ending} {t:MT} {l:List Nat} {n:Nat} (t':MT) (h:r=.inl (t,l,n)) (he:e=.returned t'.c.val) (hb:t'.bare=t) (hi:Ind (fun k=>k<w.heap.size) w' (fun W=>Rep W t')) (hs:StC w0 g l d n w w'):ValV w0 g d r w e w':=by
  subst h;exact ⟨t',he,hb,hi,hs⟩
theorem val_finC {w0:World} {g d n:Nat} {l:List Nat} {w W:World} {t':MT} {z:Nat} (h:StC w0 g l d n w W) (hg:w.heap.size ≠ g) (hlow:w0.heap.size≤w.heap.size) (hz:w.heap.size<z) (hi:Ind (fun k=>k<z) W (fun W=>Rep W t')) (v0 v1 v2 v3 v4 v5 v6 v7:Value) :
    Ind (fun k=>k<w.heap.size) ((((((((W.setCell ⟨w.heap.size,0,none⟩ v0).setCell ⟨w.heap.size,1,none⟩ v1).setCell ⟨w.heap.size,2,none⟩ v2).setCell ⟨w.heap.size,3,none⟩ v3).setCell ⟨w.heap.size,4,none⟩ v4).setCell ⟨w.heap.size,5,none⟩ v5).setCell ⟨w.heap.size,6,none⟩ v6).setCell ⟨w.heap.size,7,none⟩ v7) (fun W=>Rep W t')∧StC w0 g l d n w ((((((((W.setCell ⟨w.heap.size,0,none⟩ v0).setCell ⟨w.heap.size,1,none⟩ v1).setCell ⟨w.heap.size,2,none⟩ v2).setCell ⟨w.heap.size,3,none⟩ v3).setCell ⟨w.heap.size,4,none⟩ v4).setCell ⟨w.heap.size,5,none⟩ v5).setCell ⟨w.heap.size,6,none⟩ v6).setCell ⟨w.heap.size,7,none⟩ v7):=by
  constructor
  · refine hi.to (by simp [World.setCell]) (fun k hk hx=>?_) (fun k _ (h:k<w.heap.size)=>(by omega:k<z)) (fun _ h=>h)
    have hne:k ≠ w.heap.size:=by omega
    rw [set_otherC hne,set_otherC hne,set_otherC hne,set_otherC hne,set_otherC hne,set_otherC hne,set_otherC hne,set_otherC hne]
  · exact (((((((h.fresh (Nat.le_refl _) hg hlow _ _).fresh (Nat.le_refl _) hg hlow _ _).fresh (Nat.le_refl _) hg hlow _ _).fresh (Nat.le_refl _) hg hlow _ _).fresh (Nat.le_refl _) hg hlow _ _).fresh (Nat.le_refl _) hg hlow _ _).fresh (Nat.le_refl _) hg hlow _ _).fresh (Nat.le_refl _) hg hlow _ _
theorem field_2 (a b c:Value) (W:World):(Instr.field 111 (.agg #[a,b,c]) 2).run Tryz.prog W=.ok c W:=by kernel_rfl
theorem digits_cb {w0:World} (hU:UT w0) {g:Nat} {l:List Nat} {d n:Nat} {w:World} (hr:RdC w0 g l d n w) :
    Calls Tryz.prog 194 #[.pointer (some ⟨g,0,none⟩)] w (TakI w0 g d n (cbDigits l) w):=by
  have hg:=hr.lt
  have hlow:=hr.env.size
  have hne2:¬ w.heap.size=g:=by omega
  have hb1:Below w.heap.size w (w.alloc (.cells #[.bool false,.slice none 0 0] 76)):=(Below.refl _ _).alloc (Nat.le_refl _) _
  have H1:=Lib.hid (StC.of_below hr hb1)
  have HN1:=Lib.hid (heap_alloc_new w (.cells #[.bool false,.slice none 0 0] 76))
  have KF:=Lib.hid (first_cb H1.out.rd)
  have hfd:=field_2
  clear hr hb1
  go_enter Tryz.func194,Tryz.ntmps194
  go_wp2_with fail
  refine KF.out.mono ?_
  intro r w1 hp
  cases l with
  | nil =>
    obtain ⟨rfl,l',d',n',h1⟩:=hp
    have H2:=Lib.hid (H1.out.trans h1)
    clear h1 KF
    go_wp2_with fail
    exact ⟨rfl,TakI.no rfl (ThrowC.mk H2.out)⟩
  | cons c r =>
    obtain ⟨rfl,h1⟩:=hp
    have H2:=Lib.hid (H1.out.trans h1)
    have HBX:=Lib.hid ((h1.oth.block w.heap.size (by simp) hne2).trans HN1.out)
    have HRD:=Lib.hid h1.rd
    unfold u8V
    clear h1 KF
    by_cases hc:c=194∨c=195
    · have KH:=Lib.hid (head_cb HRD.out)
      have HD:Hid (cbDigits (c::r)=match cbHead (c::r) with | .inr x=>.inr x | .inl (h,r)=>cbLong h.2.2 r):=Lib.hid (by unfold cbDigits;simp only;rw [if_pos hc];rfl)
      have hcc:(((c:Int) == 194)=true)∨(((c:Int) == 194)=false∧((c:Int) == 195)=true):=by
        rcases hc with hc | hc
        · exact .inl (by rw [beq_iff_eq];omega)
        · exact .inr ⟨by rw [beq_eq_false_iff_ne];omega,by rw [beq_iff_eq];omega⟩
      clear hc
      rcases hcc with hc1 | ⟨hc1,hc2⟩
      all_goals
        go_wp2_with fail
        refine KH.out.mono ?_
        intro r2 w2 hp
        cases hh:cbHead (c::r) with
        | inr x =>
          rw [hh] at hp
          obtain ⟨rfl,l',d',n',h2⟩:=hp
          have H3:=Lib.hid (H2.out.trans h2)
          have HE:=Lib.hid (HD.out.trans (by rw [hh]))
          clear h2 hh KH
          go_wp2_with fail
          exact ⟨rfl,TakI.no HE.out (ThrowC.mk H3.out)⟩
        | inl p =>
          obtain ⟨⟨m,i,k⟩,r3⟩:=p
          rw [hh] at hp
          obtain ⟨rfl,h2⟩:=hp
          have H3:=Lib.hid (H2.out.trans h2)
          have HE:=Lib.hid (HD.out.trans (by rw [hh]))
          have HBX2:=Lib.hid ((h2.oth.block w.heap.size (Array.getElem?_eq_some_iff.1 HBX.out).1 hne2).trans HBX.out)
          have KL:=Lib.hid (long_cb hU h2.rd k)
          dsimp only [hdV]
          clear h2 hh KH
          go_wp2_with fail
          refine KL.out.mono ?_
          intro r4 w3 hp
          cases hq:cbLong k r3 with
          | inr x =>
            rw [hq] at hp
            obtain ⟨rfl,l',d',n',h3⟩:=hp
            have H4:=Lib.hid (H3.out.trans h3)
            have HQ:=Lib.hid (HE.out.trans hq)
            clear h3 hq KL
            go_wp2_with fail
            exact ⟨rfl,TakI.no HQ.out (ThrowC.mk H4.out)⟩
          | inl p =>
            obtain ⟨⟨ib,iN⟩,r5⟩:=p
            rw [hq] at hp
            obtain ⟨⟨ua,un,uc,xs,rfl,hl⟩,h3⟩:=hp
            have HQ:=Lib.hid (HE.out.trans hq)
            have HBX3:=Lib.hid ((h3.oth.block w.heap.size (Array.getElem?_eq_some_iff.1 HBX2.out).1 hne2).trans HBX2.out)
            have H4:=Lib.hid (((H3.out.trans h3).fresh (Nat.le_refl _) hne2 hlow 0 (.bool ib)).fresh (Nat.le_refl _) hne2 hlow 1 (.slice ua un uc))
            have y0:w3.cell? ⟨w.heap.size,0,none⟩=some (.bool false):=cellOf HBX3.out 0 rfl
            have y1:w3.cell? ⟨w.heap.size,1,none⟩=some (.slice none 0 0):=cellOf HBX3.out 1 rfl
            have z0:=freeOf HBX3.out 0
            have z1:=freeOf HBX3.out 1
            have HL2:=Lib.hid ((hl.box y0 (by intro n;simp) (.bool ib)).box (g:=w.heap.size) (j:=1) (x:=.slice none 0 0) (by rw [World.cell?_setCell_other (h:=by simp)];exact y1) (by intro n;simp) (.slice ua un uc))
            clear h3 hl
            go_wp2_with fail
            refine bodyPost_ret (v:=.agg #[.bool ib,.slice ua un uc]) (by simp [results,Tryz.results194,go_sem,y0,y1]) rfl ?_
            exact TakI.yes HQ.out HL2.out H4.out
    · have hc1:((c:Int) == 194)=false:=by rw [beq_eq_false_iff_ne];omega
      have hc2:((c:Int) == 195)=false:=by rw [beq_eq_false_iff_ne];omega
      have HD:Hid (cbDigits (c::r)=match cbPart 0 1 (c::r) with | .inr x=>.inr x | .inl (h,r)=>.inl (cbWhole h,r)):=Lib.hid (by unfold cbDigits;simp only;rw [if_neg hc];rfl)
      clear hc
      have hb2:Below w1.heap.size w1 (w1.alloc (.cells #[.int .u8 0,.int .u8 1] 5)):=(Below.refl _ _).alloc (Nat.le_refl _) _
      have HRD2:=Lib.hid (HRD.out.on hb2)
      have hw1:g<w1.heap.size:=HRD.out.lt
      have KP:=Lib.hid (part_cb HRD2.out 0 1 [0,1] w1.heap.size 2 2 (by simp) rfl (by decide) (rd_newH w1 5 (bc [0,1])) (by decide) (by omega))
      have H2b:=Lib.hid (H2.out.more hb2)
      have HBXb:=Lib.hid ((hb2.block w.heap.size (Array.getElem?_eq_some_iff.1 HBX.out).1).trans HBX.out)
      clear hb2
      go_wp2_with fail
      refine KP.out.mono ?_
      intro r2 w2 hp
      cases hh:cbPart 0 1 (c::r) with
      | inr x =>
        rw [hh] at hp
        obtain ⟨rfl,l',d',n',h2⟩:=hp
        have H3:=Lib.hid (H2b.out.trans h2)
        have HE:=Lib.hid (HD.out.trans (by rw [hh]))
        clear h2 hh KP
        go_wp2_with fail
        exact ⟨rfl,TakI.no HE.out (ThrowC.mk H3.out)⟩
      | inl p =>
        obtain ⟨⟨m,i,k⟩,r3⟩:=p
        rw [hh] at hp
        obtain ⟨rfl,h2⟩:=hp
        have hok:=cbPart_ok HRD2.out.ok hh
        have H3:=Lib.hid (H2b.out.trans h2)
        have HQ:=Lib.hid (HD.out.trans (by rw [hh]))
        have HBX2:=Lib.hid ((h2.oth.block w.heap.size (Array.getElem?_eq_some_iff.1 HBXb.out).1 hne2).trans HBXb.out)
        have KW:=Lib.hid (wholeOf_cb m i k w2 hok.n)
        clear h2 hh KP hok
        go_wp2_with fail
        refine KW.out.mono ?_
        rintro r4 w3 ⟨v,rfl,hv,hb3⟩
        obtain ⟨ua,un,uc,xs,rfl,hl⟩:=hv.out
        have h3:StC w0 g r3 d n w2 w3:=StC.of_below H3.out.rd hb3
        generalize hiw:cbWhole (m,i,k)=iw at *
        obtain ⟨ib,iN⟩:=iw
        clear hb3 hv hiw
        have HBX3:=Lib.hid ((h3.oth.block w.heap.size (Array.getElem?_eq_some_iff.1 HBX2.out).1 hne2).trans HBX2.out)
        have H4:=Lib.hid (((H3.out.trans h3).fresh (Nat.le_refl _) hne2 hlow 0 (.bool ib)).fresh (Nat.le_refl _) hne2 hlow 1 (.slice ua un uc))
        have y0:w3.cell? ⟨w.heap.size,0,none⟩=some (.bool false):=cellOf HBX3.out 0 rfl
        have y1:w3.cell? ⟨w.heap.size,1,none⟩=some (.slice none 0 0):=cellOf HBX3.out 1 rfl
        have z0:=freeOf HBX3.out 0
        have z1:=freeOf HBX3.out 1
        have HL2:=Lib.hid ((hl.box y0 (by intro n;simp) (.bool ib)).box (g:=w.heap.size) (j:=1) (x:=.slice none 0 0) (by rw [World.cell?_setCell_other (h:=by simp)];exact y1) (by intro n;simp) (.slice ua un uc))
        clear h3 hl
        go_wp2_with fail
        refine bodyPost_ret (v:=.agg #[.bool ib,.slice ua un uc]) (by simp [results,Tryz.results194,go_sem,y0,y1]) rfl ?_
        exact TakI.yes HQ.out HL2.out H4.out
def ValT (w0:World) (g d n:Nat) (r:(MT × List Nat) ⊕ Int) (w:World) (e:Ending) (w':World):Prop:=ValV w0 g d (withN n r) w e w'
theorem cbTens_bd (h:HdC):-200000≤cbTens h∧cbTens h≤200000:=by
  unfold cbTens
  split <;> omega
theorem decimal_cb {w0:World} (hU:UT w0) {g:Nat} {l:List Nat} {d n:Nat} {w:World} (hr:RdC w0 g l d n w) :
    Calls Tryz.prog 154 #[.pointer (some ⟨g,0,none⟩)] w (ValT w0 g d n (cbDec l) w):=by
  have hg:=hr.lt
  have hlow:=hr.env.size
  have hne2:¬ w.heap.size=g:=by omega
  have hne3:w.heap.size+1 ≠ g:=by omega
  have hb1:Below w.heap.size w ((w.alloc (.cells #[.int .i64 0,.bool false,.bool false,.slice none 0 0,.int .i64 0,.string ⟨#[]⟩,.slice none 0 0,.slice none 0 0] 29)).alloc (.cells #[.int .u8 4] 5)):=((Below.refl _ _).alloc (Nat.le_refl _) _).alloc (by simp) _
  have hrm:RdV ((w.alloc (.cells #[.int .i64 0,.bool false,.bool false,.slice none 0 0,.int .i64 0,.string ⟨#[]⟩,.slice none 0 0,.slice none 0 0] 29)).alloc (.cells #[.int .u8 4] 5)) (some ⟨w.heap.size+1,0,none⟩) (bc [4]):=by
    have:=rd_newH (w.alloc (.cells #[.int .i64 0,.bool false,.bool false,.slice none 0 0,.int .i64 0,.string ⟨#[]⟩,.slice none 0 0,.slice none 0 0] 29)) 5 (bc [4])
    rw [show (w.alloc (.cells #[.int .i64 0,.bool false,.bool false,.slice none 0 0,.int .i64 0,.string ⟨#[]⟩,.slice none 0 0,.slice none 0 0] 29)).heap.size=w.heap.size+1 by simp] at this
    exact this
  have H1:=Lib.hid (StC.of_below hr hb1)
  have HN1:Hid (((w.alloc (.cells #[.int .i64 0,.bool false,.bool false,.slice none 0 0,.int .i64 0,.string ⟨#[]⟩,.slice none 0 0,.slice none 0 0] 29)).alloc (.cells #[.int .u8 4] 5)).heap[w.heap.size]? = some (.cells #[.int .i64 0,.bool false,.bool false,.slice none 0 0,.int .i64 0,.string ⟨#[]⟩,.slice none 0 0,.slice none 0 0] 29)):=Lib.hid ((Below.heap_alloc _ _ _ (by simp)).trans (heap_alloc_new w _))
  have KP:=Lib.hid (part_cb H1.out.rd 4 4 [4] (w.heap.size+1) 1 1 (by simp) rfl (by decide) hrm (by decide) hne3)
  have hfd:=field_2
  clear hr hb1 hrm
  go_enter Tryz.func154,Tryz.ntmps154
  go_wp2_with fail
  refine KP.out.mono ?_
  intro r2 w2 hp
  cases hh:cbPart 4 4 l with
  | inr x =>
    rw [hh] at hp
    obtain ⟨rfl,l',d',n',h2⟩:=hp
    have H3:=Lib.hid (H1.out.trans h2)
    have HE:Hid (withN n (cbDec l)=.inr x):=Lib.hid (by unfold cbDec;rw [hh];rfl)
    clear h2 hh KP
    go_wp2_with fail
    exact ⟨rfl,ValV.no HE.out (ThrowC.mk H3.out)⟩
  | inl p =>
    obtain ⟨⟨m,i,k⟩,r3⟩:=p
    rw [hh] at hp
    obtain ⟨rfl,h2⟩:=hp
    have H3:=Lib.hid (H1.out.trans h2)
    have HBX2:=Lib.hid ((h2.oth.block w.heap.size (by simp;omega) hne2).trans HN1.out)
    have HH:=Lib.hid hh
    have HRD2:=Lib.hid h2.rd
    dsimp only [hdV]
    clear h2 hh KP
    by_cases hk2:k=2
    · have e2:((k:Int) != 2)=false:=by rw [bne_eq_false_iff_eq];omega
      have HK2:=Lib.hid hk2
      clear hk2
      have hb2:Below w2.heap.size w2 (w2.alloc (.cells #[.int .u8 0,.int .u8 1] 5)):=(Below.refl _ _).alloc (Nat.le_refl _) _
      have HRD3:=Lib.hid (HRD2.out.on hb2)
      have hw2:g<w2.heap.size:=HRD2.out.lt
      have KP:=Lib.hid (part_cb HRD3.out 0 1 [0,1] w2.heap.size 2 2 (by simp) rfl (by decide) (rd_newH w2 5 (bc [0,1])) (by decide) (by omega))
      have H3b:=Lib.hid (H3.out.more hb2)
      have HBX3:=Lib.hid ((hb2.block w.heap.size (Array.getElem?_eq_some_iff.1 HBX2.out).1).trans HBX2.out)
      clear hb2
      go_wp2_with fail
      refine KP.out.mono ?_
      intro r4 w3 hp
      cases hh:cbPart 0 1 r3 with
      | inr x =>
        rw [hh] at hp
        obtain ⟨rfl,l',d',n',h2⟩:=hp
        have H4:=Lib.hid (H3b.out.trans h2)
        have HE:Hid (withN n (cbDec l)=.inr x):=Lib.hid (by unfold cbDec;rw [HH.out];simp only;rw [if_neg (not_not_intro HK2.out),hh];rfl)
        clear h2 hh KP
        go_wp2_with fail
        exact ⟨rfl,ValV.no HE.out (ThrowC.mk H4.out)⟩
      | inl p =>
        obtain ⟨⟨m2,i2,k2⟩,r5⟩:=p
        rw [hh] at hp
        obtain ⟨rfl,h2⟩:=hp
        have hok:=cbPart_ok HRD3.out.ok hh
        have H4:=Lib.hid (H3b.out.trans h2)
        have HBX4:=Lib.hid ((h2.oth.block w.heap.size (Array.getElem?_eq_some_iff.1 HBX3.out).1 hne2).trans HBX3.out)
        have HH2:=Lib.hid hh
        have KT:=Lib.hid (tensOf_cb m2 i2 k2 w3 hok.n)
        clear h2 hh KP hok
        go_wp2_with fail
        refine KT.out.mono ?_
        rintro r6 w4 ⟨rfl,hb⟩
        have H5:=Lib.hid (H4.out.more hb)
        have HBX5:=Lib.hid ((hb.block w.heap.size (Array.getElem?_eq_some_iff.1 HBX4.out).1).trans HBX4.out)
        have KD:=Lib.hid (digits_cb hU H5.out.rd)
        have HTB:=Lib.hid (cbTens_bd (m2,i2,k2))
        clear hb KT
        generalize hte:cbTens (m2,i2,k2)=te at *
        have HTE:=Lib.hid hte
        clear hte
        go_wp2_with fail
        refine KD.out.mono ?_
        intro r7 w5 hp
        cases hq:cbDigits r5 with
        | inr x =>
          rw [hq] at hp
          obtain ⟨rfl,l',d',n',h2⟩:=hp
          have H6:=Lib.hid (H5.out.trans h2)
          have HE:Hid (withN n (cbDec l)=.inr x):=Lib.hid (by unfold cbDec;rw [HH.out];simp only;rw [if_neg (not_not_intro HK2.out),HH2.out];simp only;rw [hq];rfl)
          clear h2 hq KD
          go_wp2_with fail
          exact ⟨rfl,ValV.no HE.out (ThrowC.mk H6.out)⟩
        | inl p =>
          obtain ⟨⟨ib,iN⟩,r8⟩:=p
          rw [hq] at hp
          obtain ⟨⟨ua,un,uc,xs,rfl,hl⟩,h2⟩:=hp
          have H6:=Lib.hid (H5.out.trans h2)
          have HBX6:=Lib.hid ((h2.oth.block w.heap.size (Array.getElem?_eq_some_iff.1 HBX5.out).1 hne2).trans HBX5.out)
          have HD:Hid (withN n (cbDec l)=withN n (match cbNum (ib,iN) te with | .inr x=>.inr x | .inl t=>.inl (t,r8))):=Lib.hid (by unfold cbDec;rw [HH.out];simp only;rw [if_neg (not_not_intro HK2.out),HH2.out];simp only;rw [hq];simp only;rw [HTE.out];rfl)
          have KN:=Lib.hid (number_cb (nb:=ib) hl te HTB.out)
          clear h2 hq KD hl
          go_wp2_with fail
          refine KN.out.mono ?_
          intro r9 w6 hp
          cases hq:cbNum (ib,iN) te with
          | inr x =>
            rw [hq] at hp
            obtain ⟨rfl,hb⟩:=hp
            have H7:=Lib.hid (H6.out.more hb)
            have HE:Hid (withN n (cbDec l)=.inr x):=Lib.hid (HD.out.trans (by rw [hq];rfl))
            clear hb hq KN
            go_wp2_with fail
            exact ⟨rfl,ValV.no HE.out (ThrowC.mk H7.out)⟩
          | inl t =>
            rw [hq] at hp
            obtain ⟨t',rfl,hbare,hin,hb⟩:=hp
            have HST:=Lib.hid (H6.out.more hb)
            have HBX:=Lib.hid ((hb.block w.heap.size (Array.getElem?_eq_some_iff.1 HBX6.out).1).trans HBX6.out)
            have HE:Hid (withN n (cbDec l)=.inl (t,r8,n)):=Lib.hid (HD.out.trans (by rw [hq];rfl))
            obtain ⟨⟨k0,b0,ng,ma,mn,mc,ex,st,ka,kn,kc,va,vn,vc⟩,tm,tk,tv⟩:=t'
            have HBR:=Lib.hid hbare
            have HIN:=Lib.hid hin
            have HZ:=Lib.hid (Array.getElem?_eq_some_iff.1 HBX6.out).1
            clear hb hq KN hbare hin
            have y0:w6.cell? ⟨w.heap.size,0,none⟩=some (.int .i64 0):=cellOf HBX.out 0 rfl
            have y1:w6.cell? ⟨w.heap.size,1,none⟩=some (.bool false):=cellOf HBX.out 1 rfl
            have y2:w6.cell? ⟨w.heap.size,2,none⟩=some (.bool false):=cellOf HBX.out 2 rfl
            have y3:w6.cell? ⟨w.heap.size,3,none⟩=some (.slice none 0 0):=cellOf HBX.out 3 rfl
            have y4:w6.cell? ⟨w.heap.size,4,none⟩=some (.int .i64 0):=cellOf HBX.out 4 rfl
            have y5:w6.cell? ⟨w.heap.size,5,none⟩=some (.string ⟨#[]⟩):=cellOf HBX.out 5 rfl
            have y6:w6.cell? ⟨w.heap.size,6,none⟩=some (.slice none 0 0):=cellOf HBX.out 6 rfl
            have y7:w6.cell? ⟨w.heap.size,7,none⟩=some (.slice none 0 0):=cellOf HBX.out 7 rfl
            have z0:=freeOf HBX.out 0
            have z1:=freeOf HBX.out 1
            have z2:=freeOf HBX.out 2
            have z3:=freeOf HBX.out 3
            have z4:=freeOf HBX.out 4
            have z5:=freeOf HBX.out 5
            have z6:=freeOf HBX.out 6
            have z7:=freeOf HBX.out 7
            have HFIN:=Lib.hid (val_finC HST.out hne2 hlow HZ.out HIN.out (.int .i64 k0) (.bool b0) (.bool ng) (.slice ma mn mc) (.int .i64 ex) (.string st) (.slice ka kn kc) (.slice va vn vc))
            dsimp only [MT.c,Cel.val]
            go_wp2_with fail
            refine bodyPost_ret (v:=.agg #[.int .i64 k0,.bool b0,.bool ng,.slice ma mn mc,.int .i64 ex,.string st,.slice ka kn kc,.slice va vn vc]) (by simp [results,Tryz.results154,go_sem,y0,y1,y2,y3,y4,y5,y6,y7]) rfl ?_
            exact ValV.yes _ HE.out rfl HBR.out HFIN.out.1 HFIN.out.2
    · have e2:((k:Int) != 2)=true:=by rw [bne_iff_ne];omega
      have HE:Hid (withN n (cbDec l)=.inr 3):=Lib.hid (by unfold cbDec;rw [HH.out];simp only;rw [if_pos hk2];rfl)
      clear hk2
      go_wp2_with fail
      exact ⟨rfl,ValV.no HE.out (ThrowC.mk H3.out)⟩
theorem tagged_cb {w0:World} (hU:UT w0) {g:Nat} {l:List Nat} {d n:Nat} {w:World} (hr:RdC w0 g l d n w) (tag:Nat) :
    Calls Tryz.prog 112 #[.pointer (some ⟨g,0,none⟩),.int .u64 (tag:Int)] w (ValT w0 g d n (cbTag tag l) w):=by
  have hg:=hr.lt
  have hlow:=hr.env.size
  have hne2:¬ w.heap.size=g:=by omega
  have hb1:Below w.heap.size w (w.alloc (.cells #[.int .i64 0,.bool false,.bool false,.slice none 0 0,.int .i64 0,.string ⟨#[]⟩,.slice none 0 0,.slice none 0 0] 29)):=(Below.refl _ _).alloc (Nat.le_refl _) _
  have H1:=Lib.hid (StC.of_below hr hb1)
  have HBX1:=Lib.hid (heap_alloc_new w (.cells #[.int .i64 0,.bool false,.bool false,.slice none 0 0,.int .i64 0,.string ⟨#[]⟩,.slice none 0 0,.slice none 0 0] 29))
  have hsz1:w.heap.size<(w.alloc (.cells #[.int .i64 0,.bool false,.bool false,.slice none 0 0,.int .i64 0,.string ⟨#[]⟩,.slice none 0 0,.slice none 0 0] 29)).heap.size:=by simp
  clear hr hb1
  by_cases ht:tag=2∨tag=3
  · have hcc:(((tag:Int) == 2)=true)∨(((tag:Int) == 2)=false∧((tag:Int) == 3)=true):=by
      rcases ht with h | h
      · exact .inl (by rw [beq_iff_eq];omega)
      · exact .inr ⟨by rw [beq_eq_false_iff_ne];omega,by rw [beq_iff_eq];omega⟩
    have HT:Hid (cbTag tag l=match cbLong tag l with | .inr x=>.inr x | .inl (i,r)=>match cbNum i 0 with | .inr x=>.inr x | .inl t=>.inl (t,r)):=Lib.hid (by unfold cbTag;rw [if_pos ht];rfl)
    have KL:=Lib.hid (long_cb hU H1.out.rd tag)
    clear ht
    rcases hcc with hc1 | ⟨hc1,hc2⟩
    all_goals
      go_enter Tryz.func112,Tryz.ntmps112
      go_wp2_with fail
      refine KL.out.mono ?_
      intro r2 w2 hp
      cases hq:cbLong tag l with
      | inr x =>
        rw [hq] at hp
        obtain ⟨rfl,l',d',n',h2⟩:=hp
        have H3:=Lib.hid (H1.out.trans h2)
        have HE:Hid (withN n (cbTag tag l)=.inr x):=Lib.hid (by rw [HT.out,hq];rfl)
        clear h2 hq KL
        go_wp2_with fail
        exact ⟨rfl,ValV.no HE.out (ThrowC.mk H3.out)⟩
      | inl p =>
        obtain ⟨⟨ib,iN⟩,r8⟩:=p
        rw [hq] at hp
        obtain ⟨⟨ua,un,uc,xs,rfl,hl⟩,h2⟩:=hp
        have H6:=Lib.hid (H1.out.trans h2)
        have HBX6:=Lib.hid ((h2.oth.block w.heap.size (Array.getElem?_eq_some_iff.1 HBX1.out).1 hne2).trans HBX1.out)
        have HD:Hid (withN n (cbTag tag l)=withN n (match cbNum (ib,iN) 0 with | .inr x=>.inr x | .inl t=>.inl (t,r8))):=Lib.hid (by rw [HT.out,hq])
        have KN:=Lib.hid (number_cb (nb:=ib) hl 0 (by decide))
        clear h2 hq KL hl
        go_wp2_with fail
        refine KN.out.mono ?_
        intro r9 w6 hp
        cases hq:cbNum (ib,iN) 0 with
        | inr x =>
          rw [hq] at hp
          obtain ⟨rfl,hb⟩:=hp
          have H7:=Lib.hid (H6.out.more hb)
          have HE:Hid (withN n (cbTag tag l)=.inr x):=Lib.hid (HD.out.trans (by rw [hq];rfl))
          clear hb hq KN
          go_wp2_with fail
          exact ⟨rfl,ValV.no HE.out (ThrowC.mk H7.out)⟩
        | inl t =>
          rw [hq] at hp
          obtain ⟨t',rfl,hbare,hin,hb⟩:=hp
          have HST:=Lib.hid (H6.out.more hb)
          have HBX:=Lib.hid ((hb.block w.heap.size (Array.getElem?_eq_some_iff.1 HBX6.out).1).trans HBX6.out)
          have HE:Hid (withN n (cbTag tag l)=.inl (t,r8,n)):=Lib.hid (HD.out.trans (by rw [hq];rfl))
          obtain ⟨⟨k0,b0,ng,ma,mn,mc,ex,st,ka,kn,kc,va,vn,vc⟩,tm,tk,tv⟩:=t'
          have HBR:=Lib.hid hbare
          have HIN:=Lib.hid hin
          have HZ:=Lib.hid (Array.getElem?_eq_some_iff.1 HBX6.out).1
          clear hb hq KN hbare hin
          have y0:w6.cell? ⟨w.heap.size,0,none⟩=some (.int .i64 0):=cellOf HBX.out 0 rfl
          have y1:w6.cell? ⟨w.heap.size,1,none⟩=some (.bool false):=cellOf HBX.out 1 rfl
          have y2:w6.cell? ⟨w.heap.size,2,none⟩=some (.bool false):=cellOf HBX.out 2 rfl
          have y3:w6.cell? ⟨w.heap.size,3,none⟩=some (.slice none 0 0):=cellOf HBX.out 3 rfl
          have y4:w6.cell? ⟨w.heap.size,4,none⟩=some (.int .i64 0):=cellOf HBX.out 4 rfl
          have y5:w6.cell? ⟨w.heap.size,5,none⟩=some (.string ⟨#[]⟩):=cellOf HBX.out 5 rfl
          have y6:w6.cell? ⟨w.heap.size,6,none⟩=some (.slice none 0 0):=cellOf HBX.out 6 rfl
          have y7:w6.cell? ⟨w.heap.size,7,none⟩=some (.slice none 0 0):=cellOf HBX.out 7 rfl
          have z0:=freeOf HBX.out 0
          have z1:=freeOf HBX.out 1
          have z2:=freeOf HBX.out 2
          have z3:=freeOf HBX.out 3
          have z4:=freeOf HBX.out 4
          have z5:=freeOf HBX.out 5
          have z6:=freeOf HBX.out 6
          have z7:=freeOf HBX.out 7
          have HFIN:=Lib.hid (val_finC HST.out hne2 hlow HZ.out HIN.out (.int .i64 k0) (.bool b0) (.bool ng) (.slice ma mn mc) (.int .i64 ex) (.string st) (.slice ka kn kc) (.slice va vn vc))
          dsimp only [MT.c,Cel.val]
          go_wp2_with fail
          refine bodyPost_ret (v:=.agg #[.int .i64 k0,.bool b0,.bool ng,.slice ma mn mc,.int .i64 ex,.string st,.slice ka kn kc,.slice va vn vc]) (by simp [results,Tryz.results112,go_sem,y0,y1,y2,y3,y4,y5,y6,y7]) rfl ?_
          exact ValV.yes _ HE.out rfl HBR.out HFIN.out.1 HFIN.out.2
  · have c2:((tag:Int) == 2)=false:=by rw [beq_eq_false_iff_ne];omega
    have c3:((tag:Int) == 3)=false:=by rw [beq_eq_false_iff_ne];omega
    by_cases h4:tag=4
    · have c4:((tag:Int) == 4)=true:=by rw [beq_iff_eq];omega
      have HT:Hid (cbTag tag l=cbDec l):=Lib.hid (by unfold cbTag;rw [if_neg ht,if_pos h4])
      have KD:=Lib.hid (decimal_cb hU H1.out.rd)
      clear ht h4
      go_enter Tryz.func112,Tryz.ntmps112
      go_wp2_with fail
      refine KD.out.mono ?_
      intro r2 w2 hp
      cases hq:cbDec l with
      | inr x =>
        rw [hq] at hp
        obtain ⟨rfl,l',d',n',h2⟩:=hp
        have H3:=Lib.hid (H1.out.trans h2)
        have HE:Hid (withN n (cbTag tag l)=.inr x):=Lib.hid (by rw [HT.out,hq];rfl)
        clear h2 hq KD
        go_wp2_with fail
        exact ⟨rfl,ValV.no HE.out (ThrowC.mk H3.out)⟩
      | inl p =>
        obtain ⟨t,r8⟩:=p
        rw [hq] at hp
        obtain ⟨t',rfl,hbare,hin,h2⟩:=hp
        have HST:=Lib.hid (H1.out.trans h2)
        have HBX:=Lib.hid ((h2.oth.block w.heap.size (Array.getElem?_eq_some_iff.1 HBX1.out).1 hne2).trans HBX1.out)
        have HE:Hid (withN n (cbTag tag l)=.inl (t,r8,n)):=Lib.hid (by rw [HT.out,hq];rfl)
        obtain ⟨⟨k0,b0,ng,ma,mn,mc,ex,st,ka,kn,kc,va,vn,vc⟩,tm,tk,tv⟩:=t'
        have HBR:=Lib.hid hbare
        have HIN:=Lib.hid hin
        have HZ:=Lib.hid hsz1
        clear h2 hq KD hbare hin
        have y0:w2.cell? ⟨w.heap.size,0,none⟩=some (.int .i64 0):=cellOf HBX.out 0 rfl
        have y1:w2.cell? ⟨w.heap.size,1,none⟩=some (.bool false):=cellOf HBX.out 1 rfl
        have y2:w2.cell? ⟨w.heap.size,2,none⟩=some (.bool false):=cellOf HBX.out 2 rfl
        have y3:w2.cell? ⟨w.heap.size,3,none⟩=some (.slice none 0 0):=cellOf HBX.out 3 rfl
        have y4:w2.cell? ⟨w.heap.size,4,none⟩=some (.int .i64 0):=cellOf HBX.out 4 rfl
        have y5:w2.cell? ⟨w.heap.size,5,none⟩=some (.string ⟨#[]⟩):=cellOf HBX.out 5 rfl
        have y6:w2.cell? ⟨w.heap.size,6,none⟩=some (.slice none 0 0):=cellOf HBX.out 6 rfl
        have y7:w2.cell? ⟨w.heap.size,7,none⟩=some (.slice none 0 0):=cellOf HBX.out 7 rfl
        have z0:=freeOf HBX.out 0
        have z1:=freeOf HBX.out 1
        have z2:=freeOf HBX.out 2
        have z3:=freeOf HBX.out 3
        have z4:=freeOf HBX.out 4
        have z5:=freeOf HBX.out 5
        have z6:=freeOf HBX.out 6
        have z7:=freeOf HBX.out 7
        have HFIN:=Lib.hid (val_finC HST.out hne2 hlow HZ.out HIN.out (.int .i64 k0) (.bool b0) (.bool ng) (.slice ma mn mc) (.int .i64 ex) (.string st) (.slice ka kn kc) (.slice va vn vc))
        dsimp only [MT.c,Cel.val]
        go_wp2_with fail
        refine bodyPost_ret (v:=.agg #[.int .i64 k0,.bool b0,.bool ng,.slice ma mn mc,.int .i64 ex,.string st,.slice ka kn kc,.slice va vn vc]) (by simp [results,Tryz.results112,go_sem,y0,y1,y2,y3,y4,y5,y6,y7]) rfl ?_
        exact ValV.yes _ HE.out rfl HBR.out HFIN.out.1 HFIN.out.2
    · have c4:((tag:Int) == 4)=false:=by rw [beq_eq_false_iff_ne];omega
      have HE:Hid (withN n (cbTag tag l)=.inr 3):=Lib.hid (by unfold cbTag;rw [if_neg ht,if_neg h4];rfl)
      clear ht h4
      go_enter Tryz.func112,Tryz.ntmps112
      go_wp2_with fail
      exact ⟨rfl,ValV.no HE.out (ThrowC.mk H1.out)⟩
theorem wpl_appTC {w:World} {ops:Array Oper} {rest:List Oper} {o:Oper} {a:Act} {Q:Exit→Act→World→Prop} (hgd:o.guard=none) (s x:Operand)
    (ho:o.op=.call { callee:=.builtin .append,args:=#[s,x],argTypes:=#[27,27] }) (B:Nat) (v:Value) (n:Nat) (xs:List Value) (hs:a.eval s=v) (hown:w.ownsRow B 29 8 v n xs)
    (ad:Addr) (c:Nat) (y:Cel) (hx:a.eval x=.slice (some ad) 1 c) (hr:RdV w (some ad) y.cells) (hn:n≤1000000000) (hB:B≤w.heap.size)
    (h:∀ g cap w',w'.ownsRow B 29 8 (.slice (some ⟨g,0,none⟩) (n+1) cap) (n+1) (xs++y.cells)→w.grownBy w' v.ownBlock→(v.ownBlock=some g∨g=w.heap.size)→wpList Tryz.prog ops Q rest (a.put o.dst (.slice (some ⟨g,0,none⟩) (n+1) cap)) w') :
    wpList Tryz.prog ops Q (o::rest) a w:=by
  obtain ⟨i0,hi,hz0,hz1,hz2⟩:=info_parts info_tree
  refine wpList_append_lies w hgd s x 27 ho B 29 i0 zeroC.val 8 120 Tryz.underlying27 hi hz0 hz1 hz2 rfl (by decide) v n xs hs hown ad 1 c y.cells hx rfl ?_ (cel_one y) (by decide) (by unfold maxLen;omega) (by omega) hB _ rfl (fun g cap w' h1 h2 h3 _=>h g cap w' h1 h2 h3)
  intro j u hj
  have hjl:j<y.cells.length:=(List.getElem?_eq_some_iff.1 hj).1
  obtain ⟨b,o',e,_,hc⟩:=hr j hjl
  cases e
  have hadd:(⟨b,o',none⟩:Addr).add j=⟨b,o'+j,none⟩:=by unfold Addr.add;split <;> simp_all
  rw [hadd,hc,hj]
theorem wpl_appSC {w:World} {ops:Array Oper} {rest:List Oper} {o:Oper} {a:Act} {Q:Exit→Act→World→Prop} (hgd:o.guard=none) (s x:Operand)
    (ho:o.op=.call { callee:=.builtin .append,args:=#[s,x],argTypes:=#[26,26] }) (B:Nat) (v:Value) (n:Nat) (xs:List Value) (hs:a.eval s=v) (hown:w.ownsRow B 9 1 v n xs)
    (ad:Addr) (c:Nat) (y:ByteArray) (hx:a.eval x=.slice (some ad) 1 c) (hr:RdV w (some ad) [.string y]) (hn:n≤1000000000) (hB:B≤w.heap.size)
    (h:∀ g cap w',w'.ownsRow B 9 1 (.slice (some ⟨g,0,none⟩) (n+1) cap) (n+1) (xs++[.string y])→w.grownBy w' v.ownBlock→(v.ownBlock=some g∨g=w.heap.size)→wpList Tryz.prog ops Q rest (a.put o.dst (.slice (some ⟨g,0,none⟩) (n+1) cap)) w') :
    wpList Tryz.prog ops Q (o::rest) a w:=by
  obtain ⟨i0,hi,hz0,hz1,hz2⟩:=info_parts info_string
  refine wpList_append_lies w hgd s x 26 ho B 9 i0 (.string ByteArray.empty) 1 16 Tryz.underlying26 hi hz0 hz1 hz2 rfl (by decide) v n xs hs hown ad 1 c [.string y] hx rfl ?_ (by intro u hu;rw [List.mem_singleton.1 hu];rfl) (by decide) (by unfold maxLen;omega) (by omega) hB _ rfl (fun g cap w' h1 h2 h3 _=>h g cap w' h1 h2 h3)
  intro j u hj
  have hjl:j < [Value.string y].length:=(List.getElem?_eq_some_iff.1 hj).1
  obtain ⟨b,o',e,_,hc⟩:=hr j hjl
  cases e
  have hadd:(⟨b,o',none⟩:Addr).add j=⟨b,o'+j,none⟩:=by unfold Addr.add;split <;> simp_all
  rw [hadd,hc,hj]
theorem own_ty {w:World} {B:Nat} {e:TypeId} {size:Nat} {v:Value} {n:Nat} {xs:List Value} (h:w.ownsRow B e size v n xs) {k:Nat} (hk:v.ownBlock=some k):∃ cs,w.heap[k]? = some (.cells cs e):=by
  rcases h.2 with ⟨rfl,_⟩ | ⟨g,cap,cur,rfl,hB,hg,_⟩
  · cases hk
  · cases hk
    exact ⟨cur,hg⟩
theorem own_apartC {w:World} {B:Nat} {e e':TypeId} {size size':Nat} {v v':Value} {n n':Nat} {xs xs':List Value} (h:w.ownsRow B e size v n xs) (h':w.ownsRow B e' size' v' n' xs') (hne:e ≠ e') {k:Nat} (hk:v.ownBlock=some k):v'.ownBlock ≠ some k:=by
  intro hk'
  obtain ⟨c1,h1⟩:=own_ty h hk
  obtain ⟨c2,h2⟩:=own_ty h' hk'
  rw [h1] at h2
  cases h2
  exact hne rfl
structure ItC (w0:World) (g d n:Nat) (l:List Nat) (w wS:World) (nv:Value) (us:List MT) (va:Option Addr) (vc:Nat) (W:World):Prop where
  st:StC w0 g l d n w W
  low:w.heap.size≤wS.heap.size
  gB:g<w.heap.size
  w0w:w0.heap.size≤w.heap.size
  BW:wS.heap.size≤W.heap.size
  ow:W.ownsRow wS.heap.size 29 8 (.slice va us.length vc) us.length (flat (us.map MT.c))
  ind:Ind (fun k=>k<wS.heap.size∨nv.ownBlock=some k∨(Value.slice va us.length vc).ownBlock=some k) W (fun W=>∀ u∈us,Rep W u)
  kp:∀ k,w.heap.size≤k→k<wS.heap.size→W.heap[k]? = wS.heap[k]?
theorem ItC.start {w0:World} {g d n:Nat} {l:List Nat} {w wS:World} (h:StC w0 g l d n w wS) (hg:g<w.heap.size) (h0:w0.heap.size≤w.heap.size) (nv:Value):ItC w0 g d n l w wS nv [] none 0 wS :=
  ⟨h,h.oth.size,hg,h0,Nat.le_refl _,World.ownsRow_nil _ _ _ _,fun W _ _=>nofun,fun _ _ _=>rfl⟩
theorem ItC.on {w0:World} {g d n d' n':Nat} {l l':List Nat} {w wS:World} {nv:Value} {us:List MT} {va:Option Addr} {vc:Nat} {W W':World} (h:ItC w0 g d n l w wS nv us va vc W) (s:StC w0 g l' d' n' W W'):ItC w0 g d' n' l' w wS nv us va vc W' :=
  ⟨h.st.trans s,h.low,h.gB,h.w0w,Nat.le_trans h.BW s.oth.size,own_but h.ow s.oth (Nat.lt_of_lt_of_le h.gB h.low),
    h.ind.to s.oth.size (fun k hk hx=>s.oth.block k hk (fun e=>hx (.inl (by have:=h.gB;have:=h.low;omega)))) (fun _ _ h=>h) (fun _ h=>h),
    fun k h1 h2=>(s.oth.block k (Nat.lt_of_lt_of_le h2 h.BW) (by have:=h.gB;omega)).trans (h.kp k h1 h2)⟩
theorem ItC.add {w0:World} {g d n d1 n1:Nat} {l l1:List Nat} {w wS:World} {nv:Value} {us:List MT} {x:MT} {va:Option Addr} {vc gg cap:Nat} {wr w1 w3 w5:World}
    (h:ItC w0 g d n l w wS nv us va vc wr) (s1:StC w0 g l1 d1 n1 wr w1) (hx:Ind (fun k=>k<wr.heap.size) w1 (fun W=>Rep W x)) (h3:Below w1.heap.size w1 w3)
    (ho5:w5.ownsRow wS.heap.size 29 8 (.slice (some ⟨gg,0,none⟩) (us.length+1) cap) (us.length+1) (flat (us.map MT.c)++x.c.cells)) (hg5:w3.grownBy w5 (Value.slice va us.length vc).ownBlock) (hor:(Value.slice va us.length vc).ownBlock=some gg∨gg=w3.heap.size)
    (hnv:∀ k,nv.ownBlock=some k→wS.heap.size≤k∧k<wr.heap.size):ItC w0 g d1 n1 l1 w wS nv (us++[x]) (some ⟨gg,0,none⟩) cap w5:=by
  have hi1:=h.on s1
  have h13:=hi1.on (StC.of_below s1.rd h3)
  have hown:∀ k,(Value.slice va us.length vc).ownBlock=some k→wS.heap.size≤k∧k<wr.heap.size:=fun k hk=>own_bd h.ow hk
  have hs1:=s1.oth.size;have hs3:=h3.size;have hs5:=hg5.size;have hBW:=h.BW;have hlow:=h.low;have hgB:=h.gB
  have hkeep:∀ k,k<w1.heap.size→(Value.slice va us.length vc).ownBlock ≠ some k→w5.heap[k]? = w1.heap[k]?:=fun k hk hne=>by
    rw [hg5.block k (by omega) (fun e=>hne e.symm),h3.block k hk]
  have e1:(us++[x]).length=us.length+1:=by simp
  have e2:flat ((us++[x]).map MT.c)=flat (us.map MT.c)++x.c.cells:=by simp [flat]
  refine ⟨h13.st.grown h13.ow hlow hg5 hgB h.w0w,hlow,hgB,h.w0w,by omega,by rw [e1,e2];exact ho5,?_,?_⟩
  · intro W hs hk y hy
    have hW:∀ k,k<w1.heap.size→wS.heap.size≤k→nv.ownBlock ≠ some k→(Value.slice va us.length vc).ownBlock ≠ some k→W.heap[k]? = w1.heap[k]?:=fun k q1 q2 q3 q4=>by
      rw [hk k (by omega) (fun hx=>by
        rcases hx with hx | hx | hx
        · omega
        · exact q3 hx
        · rw [e1] at hx
          simp only [Value.ownBlock,Option.some.injEq] at hx
          rcases hor with ho | ho
          · rw [hx] at ho;exact q4 ho
          · omega),hkeep k q1 q4]
    rcases List.mem_append.1 hy with hy | hy
    · exact hi1.ind W (by omega) (fun k hk1 hk2=>hW k hk1 (Nat.le_of_not_lt (fun h=>hk2 (.inl h))) (fun e=>hk2 (.inr (.inl e))) (fun e=>hk2 (.inr (.inr e)))) y hy
    · rw [List.mem_singleton.1 hy]
      exact hx W (by omega) (fun k hk1 hk2=>hW k hk1 (by omega) (fun e=>by have:=(hnv k e).2;omega) (fun e=>by have:=(hown k e).2;omega))
  · intro k q1 q2
    rw [hkeep k (by omega) (fun e=>by have:=(hown k e).1;omega)]
    exact hi1.kp k q1 q2
def NmC (wS:World) (ks:List ByteArray) (ka:Option Addr) (kc:Nat) (W:World):Prop:=W.ownsRow wS.heap.size 9 1 (.slice ka ks.length kc) ks.length (sv ks)
theorem NmC.on {w0:World} {g d n:Nat} {l:List Nat} {wS:World} {ks:List ByteArray} {ka:Option Addr} {kc:Nat} {W W':World} (h:NmC wS ks ka kc W) (s:StC w0 g l d n W W') (hg:g<wS.heap.size):NmC wS ks ka kc W':=own_but h s.oth hg
theorem ItC.addN {w0:World} {g d n d1 n1:Nat} {l l1:List Nat} {w wS:World} {ks:List ByteArray} {ka:Option Addr} {kc:Nat} {us:List MT} {va:Option Addr} {vc gg cap:Nat} {wr w1 w3 w5:World} {y:ByteArray}
    (h:ItC w0 g d n l w wS (.slice ka ks.length kc) us va vc wr) (hn:NmC wS ks ka kc wr) (s1:StC w0 g l1 d1 n1 wr w1) (h3:Below w1.heap.size w1 w3)
    (ho5:w5.ownsRow wS.heap.size 9 1 (.slice (some ⟨gg,0,none⟩) (ks.length+1) cap) (ks.length+1) (sv ks++[.string y])) (hg5:w3.grownBy w5 (Value.slice ka ks.length kc).ownBlock) (hor:(Value.slice ka ks.length kc).ownBlock=some gg∨gg=w3.heap.size) :
    ItC w0 g d1 n1 l1 w wS (.slice (some ⟨gg,0,none⟩) (ks++[y]).length cap) us va vc w5∧NmC wS (ks++[y]) (some ⟨gg,0,none⟩) cap w5:=by
  have hi1:=h.on s1
  have h13:=hi1.on (StC.of_below s1.rd h3)
  have hn13:NmC wS ks ka kc w3:=own_onN (hn.on s1 (Nat.lt_of_lt_of_le h.gB h.low)) h3
  have hown:∀ k,(Value.slice ka ks.length kc).ownBlock=some k→wS.heap.size≤k∧k<wr.heap.size:=fun k hk=>own_bd hn hk
  have hs1:=s1.oth.size;have hs3:=h3.size;have hs5:=hg5.size;have hBW:=h.BW;have hlow:=h.low;have hgB:=h.gB
  have hkeep:∀ k,k<w3.heap.size→(Value.slice ka ks.length kc).ownBlock ≠ some k→w5.heap[k]? = w3.heap[k]?:=fun k hk hne=>hg5.block k hk (fun e=>hne e.symm)
  have e1:(ks++[y]).length=ks.length+1:=by simp
  have e2:sv (ks++[y])=sv ks++[.string y]:=by simp [sv]
  refine ⟨⟨h13.st.grown hn13 hlow hg5 hgB h.w0w,hlow,hgB,h.w0w,by omega,own_keep h13.ow (fun k hk=>?_),?_,?_⟩,by unfold NmC;rw [e1,e2];exact ho5⟩
  · exact hkeep k (own_bd h13.ow hk).2 (own_apartC h13.ow hn13 (by decide) hk)
  · rw [e1]
    refine h13.ind.to hs5 (fun k hk hx=>hkeep k hk (fun e=>hx (.inr (.inl e)))) (fun k hk hx=>?_) (fun _ h=>h)
    rcases hx with hx | hx | hx
    · exact .inl hx
    · simp only [Value.ownBlock,Option.some.injEq] at hx
      rcases hor with ho | ho
      · rw [hx] at ho;exact .inr (.inl ho)
      · omega
    · exact .inr (.inr hx)
  · intro k q1 q2
    rw [hkeep k (by omega) (fun e=>by have:=(hown k e).1;omega)]
    exact h13.kp k q1 q2
theorem NmC.add {w0:World} {g d n:Nat} {l:List Nat} {wS:World} {ks:List ByteArray} {ka:Option Addr} {kc:Nat} {us:List MT} {va:Option Addr} {vc:Nat} {w1 w3 w5:World} (hn:NmC wS ks ka kc w1) (ho:w3.ownsRow wS.heap.size 29 8 (.slice va us.length vc) us.length (flat (us.map MT.c))) (h3:Below w1.heap.size w1 w3) (hg5:w3.grownBy w5 (Value.slice va us.length vc).ownBlock):NmC wS ks ka kc w5:=by
  have hn3:NmC wS ks ka kc w3:=own_onN hn h3
  exact own_keep hn3 (fun k hk=>hg5.block k (own_bd hn3 hk).2 (fun e=>own_apartC hn3 ho (by decide) hk e.symm))
def ValCC (w0:World) (g d:Nat) (V:List Nat→Nat→RC MT):Prop:=∀ W l n,n≤2000→RdC w0 g l d n W→Calls Tryz.prog 41 #[.pointer (some ⟨g,0,none⟩)] W (ValV w0 g d (V l n) W)
def NdC (V:List Nat→Nat→RC MT):Prop:=∀ l n p,n≤2000→V l n=.inl p→p.2.2≤2000
theorem barr_bare (va:Option Addr) (n c:Nat) (us:List MT) (h:us.length=n):(arrT va n c us).bare=barrC (us.map MT.bare):=by
  rw [MT.bare_eq];unfold barrC;rw [List.length_map,h];rfl
end Go.Proofs.YtnacbakcalcgaaaGreatDoor
