/- Texts of the claim. -/
import Derived.Test.YtnacbakcalcgaaaGreatDoorIz
set_option linter.unusedVariables false
set_option linter.unusedSimpArgs false
set_option maxHeartbeats 8000000
set_option maxRecDepth 100000
namespace Go.Proofs.YtnacbakcalcgaaaGreatDoor
open Go.RowKit Go.Lib Go.Sort
def hmV (h:HdM):Value:=.agg #[.int .i64 (h.1:Int),.int .u64 (h.2:Int)]
theorem refuse_pk (m k G:Nat) (w:World):Calls Tryz.prog 176 #[.agg #[.int .i64 (m:Int),.int .u64 (k:Int)],.int .u64 (G:Int)] w (RefC k G w):=by
  have hb:Below w.heap.size w (w.alloc (.cells #[.int .i64 (m:Int),.int .u64 (k:Int)] 129)):=(Below.refl _ _).alloc (Nat.le_refl _) _
  have HB:=Lib.hid hb
  clear hb
  by_cases h:k≤G
  · have e1:¬ G<k:=by omega
    have HD:=Lib.hid h
    clear h
    go_enter Tryz.func176,Tryz.ntmps176
    go_wp2_with fail
    exact bodyPost_ret (v:=.tuple #[]) (by simp [results,Tryz.results176,go_sem]) rfl ⟨HB.out,.inl ⟨HD.out,rfl⟩⟩
  · have e1:G<k:=by omega
    have HD:=Lib.hid (show G<k by omega)
    clear h
    go_enter Tryz.func176,Tryz.ntmps176
    go_wp2_with fail
    exact ⟨rfl,HB.out,.inr ⟨HD.out,rfl⟩⟩
theorem head_pk {w0:World} {g:Nat} {l:List Nat} {d n:Nat} {w:World} (hr:RdP w0 g l d n w) :
    Calls Tryz.prog 97 #[.pointer (some ⟨g,0,none⟩)] w (TakP w0 g d n hmV (pkHead l) w):=by
  have hb1:Below w.heap.size w (w.alloc (.cells #[.int .i64 0,.int .u64 0] 129)):=(Below.refl _ _).alloc (Nat.le_refl _) _
  have hn1:=heap_alloc_new w (.cells #[.int .i64 0,.int .u64 0] 129)
  have hr1:=hr.on hb1
  obtain ⟨ad,cap,q1,q2,q3,_⟩:=hr1.cell
  have K:=Lib.hid (getM_any ad l.length cap l 0 _ rfl hr.len q2 (fun x hx=>hr.ok x hx) (q3.below hr1.env (fun a e hp=>q3.lt a e hp)) (by decide))
  have c0:(w.alloc (.cells #[.int .i64 0,.int .u64 0] 129)).cell? ⟨g,0,none⟩=some (.slice ad l.length cap):=by simp only [World.cell?,q1];rfl
  have H1:=Lib.hid (StP.of_below hr hb1)
  have hg:=hr.lt
  have hlow:=hr.low
  have henv:=hr.env.size
  have HR:=Lib.hid hr
  clear hr q1 hr1
  have hne:¬ g=w.heap.size:=by omega
  have hne2:¬ w.heap.size=g:=by omega
  have HQ2:=Lib.hid q2;have HQ3:=Lib.hid q3
  have HN1:=Lib.hid hn1;have HB1:=Lib.hid hb1
  clear q2 q3 hn1 hb1
  generalize hk:l.length=k at *
  have HK:=Lib.hid hk
  clear hk
  go_enter Tryz.func97,Tryz.ntmps97
  go_wp2_with fail
  refine K.out.mono ?_
  rintro r w1 ⟨rfl,hb2⟩
  have HS:=Lib.hid (H1.out.more hb2)
  have hbx:=(hb2.block w.heap.size (Array.getElem?_eq_some_iff.1 HN1.out).1).trans HN1.out
  have HBX:=Lib.hid hbx
  clear hb2 K c0
  by_cases h0:(getM l 0).2.2.2=0
  · have HE:Hid (pkHead l=.inl (((getM l 0).1,(getM l 0).2.1),l.drop (getM l 0).2.2.1)):=Lib.hid (by unfold pkHead;rw [if_pos h0])
    have hnx:=getM_next l h0
    have hok:=pkHead_ok HR.out.ok HE.out
    unfold tup4
    rw [h0]
    generalize (getM l 0).1=xm at *
    generalize (getM l 0).2.1=xn at *
    generalize (getM l 0).2.2.1=nx at *
    obtain ⟨ad1,cap1,q1,q2,q3,_⟩:=HS.out.rd.cell
    have c0:w1.cell? ⟨g,0,none⟩=some (.slice ad1 k cap1):=by simp only [World.cell?,q1];rw [← HK.out];rfl
    have f0:=HS.out.rd.fz 0
    obtain ⟨b,o,rfl,hlt⟩:=q3.shape (by rw [bc_len];omega)
    have q4:=rdv_left q3 nx hnx.2 q2
    have hdl:(l.drop nx).length=k - nx:=by rw [List.length_drop,HK.out]
    have hll:=HR.out.len
    rw [HK.out] at hll
    have HL1:=Lib.hid (fun (e:cap1=nx)=>HS.out.zero (l':=l.drop nx) (ad:=some ⟨b,o,none⟩) (k:=k - nx) (cap:=cap1 - nx) (hok.b HR.out.ok) (by rw [hdl];omega) hdl (by have:=HK.out;omega) (q4.1 e) (.inr ⟨_,_,rfl⟩))
    have HL2:=Lib.hid (HS.out.zero (l':=l.drop nx) (ad:=some ⟨b,o+nx,none⟩) (k:=k - nx) (cap:=cap1 - nx) (hok.b HR.out.ok) (by rw [hdl];omega) hdl (by have:=HK.out;omega) (q4.2 b o rfl) (.inr ⟨_,_,rfl⟩))
    have hcap:k≤cap1:=by have:=HK.out;omega
    have hnk:nx≤k:=by have:=HK.out;omega
    have hfin:∀ W v,StP w0 g (l.drop nx) d n w W→StP w0 g (l.drop nx) d n w ((W.setCell ⟨w.heap.size,0,none⟩ v).setCell ⟨w.heap.size,1,none⟩ (.int .u64 (xn:Int))):=fun W v h =>
      (h.fresh (Nat.le_refl _) hne2 henv _ _).fresh (Nat.le_refl _) hne2 henv _ _
    have HF:=Lib.hid hfin
    have y0:w1.cell? ⟨w.heap.size,0,none⟩=some (.int .i64 0):=by simp [World.cell?,hbx]
    have y1:w1.cell? ⟨w.heap.size,1,none⟩=some (.int .u64 0):=by simp [World.cell?,hbx]
    have z0:∀ i,w1.frozen? ⟨w.heap.size,i,none⟩=false:=fun i=>by simp [World.frozen?,hbx]
    clear q1 q2 q3 q4 hbx hdl hll hnx h0 hok hlt hfin
    by_cases hcc:cap1=nx
    · have HCC:=Lib.hid hcc
      subst hcc
      obtain rfl:k=cap1:=by omega
      go_wp2_with fail
      refine bodyPost_ret (v:=hmV (xm,xn)) (by simp [results,Tryz.results97,go_sem,y0,y1,hne,hne2,hmV]) rfl ?_
      exact TakP.yes HE.out rfl (HF.out _ _ (by have:=HL1.out trivial;rwa [Nat.sub_self] at this))
    · have e1:nx<cap1:=by omega
      go_wp2_with fail
      refine bodyPost_ret (v:=hmV (xm,xn)) (by simp [results,Tryz.results97,go_sem,y0,y1,hne,hne2,hmV]) rfl ?_
      exact TakP.yes HE.out rfl (HF.out _ _ HL2.out)
  · have h2:=getM_errs l
    have HE:Hid (pkHead l=.inr ((getM l 0).2.2.2:Int)):=Lib.hid (by unfold pkHead;rw [if_neg h0])
    unfold tup4
    generalize (getM l 0).2.2.2=er at *
    have her:¬ (er:Int)=0:=by omega
    have her2:((er:Int) != 0)=true:=by simp;omega
    clear h0 h2 hbx
    go_wp2_with fail
    exact ⟨rfl,TakP.no HE.out (ThrowP.mk HS.out)⟩
theorem bytes_pk {w0:World} {g:Nat} {l:List Nat} {d n:Nat} {w:World} (hr:RdP w0 g l d n w) (m k:Nat) (hk:k<18446744073709551616) :
    Calls Tryz.prog 138 #[.pointer (some ⟨g,0,none⟩),hmV (m,k)] w (TakP w0 g d n strV (pkBytes k l) w):=by
  have hb1:Below w.heap.size w (w.alloc (.cells #[.int .i64 (m:Int),.int .u64 (k:Int)] 129)):=(Below.refl _ _).alloc (Nat.le_refl _) _
  have HN1:=Lib.hid (heap_alloc_new w (.cells #[.int .i64 (m:Int),.int .u64 (k:Int)] 129))
  have H1:=Lib.hid (StP.of_below hr hb1)
  have KR:=Lib.hid (refuse_pk m k 2000 (w.alloc (.cells #[.int .i64 (m:Int),.int .u64 (k:Int)] 129)))
  have hg:=hr.lt
  have HLL:=Lib.hid hr.len
  have HOK:=Lib.hid hr.ok
  have HK:=Lib.hid hk
  unfold hmV
  clear hr hb1 hk
  go_enter Tryz.func138,Tryz.ntmps138
  go_wp2_with fail
  refine KR.out.mono ?_
  rintro r wS ⟨hb,⟨hle,rfl⟩ | ⟨hlt,rfl⟩⟩
  · have H2:=Lib.hid (H1.out.more hb)
    have hbx:=(hb.block w.heap.size (by simp)).trans HN1.out
    have y1:wS.cell? ⟨w.heap.size,1,none⟩=some (.int .u64 (k:Int)):=by simp only [World.cell?,hbx];rfl
    obtain ⟨ad,cap,q1,q2,q3,q4⟩:=H2.out.rd.cell
    have c0:wS.cell? ⟨g,0,none⟩=some (.slice ad l.length cap):=by simp only [World.cell?,q1];rfl
    have hll:=HLL.out
    have e1:IntKind.u64.wrap (l.length:Int)=(l.length:Int):=u64_wrap _ (by omega) (by omega)
    have HLE:=Lib.hid hle
    clear hb KR hle
    by_cases h:l.length<k
    · have e2:decide ((l.length:Int)<(k:Int))=true:=decide_eq_true (by omega)
      have HE:Hid (pkBytes k l=.inr 2):=Lib.hid (by unfold pkBytes;rw [if_neg (by have:=HLE.out;omega),if_pos h])
      clear q1 q2 q3 q4 hbx
      generalize l.length=ln at *
      go_wp2_with fail
      go_quiet (fail)
      go_wp2_with fail
      exact ⟨rfl,TakP.no HE.out (ThrowP.mk (H2.out.drewN _))⟩
    · have e2:decide ((l.length:Int)<(k:Int))=false:=decide_eq_false (by omega)
      have e3:¬ l.length<k:=h
      have HE:Hid (pkBytes k l=.inl (l.take k,l.drop k)):=Lib.hid (by unfold pkBytes;rw [if_neg (by have:=HLE.out;omega),if_neg h])
      have hcv:∀ q,Sem.run Tryz.prog (convert 22 9 (.slice ad k cap)) (wS.drewN q)=.ok (.string (strB (l.take k))) (wS.drewN q):=fun q =>
        conv_bv _ ad k cap (l.take k) (by rw [List.length_take];omega) (by
          have:=(q3.take k).below (H2.out.rd.env.trans (below_drewN (Below.refl _ _) q)) (fun a e hp=>q3.lt a e (by rw [List.length_take] at hp;omega))
          rw [bc_take] at this
          exact this)
      have hkc:k≤cap:=by omega
      clear q1 q2 q3 q4 hbx h
      generalize hln:l.length=ln at *
      have HLN:=Lib.hid hln
      clear hln
      generalize hs:strB (l.take k)=s at *
      have HS:=Lib.hid hs
      clear hs
      go_wp2_with fail
      go_quiet (fail)
      go_wp2_with fail
      go_quiet (fail)
      go_wp2_with fail
      generalize hW1:World.drewN wS _=W1
      have HB:=Lib.hid (show StP w0 g l d n w W1 by rw [← hW1];exact H2.out.drewN _)
      have y2':W1.cell? ⟨w.heap.size,1,none⟩=some (.int .u64 (k:Int)):=by rw [← hW1];exact y1
      clear hW1 hcv c0 y1
      obtain ⟨adx,capx,p1,p2,p3,p4⟩:=HB.out.rd.cell
      have c0:W1.cell? ⟨g,0,none⟩=some (.slice adx ln capx):=by simp only [World.cell?,p1];rw [← HLN.out];rfl
      have q4:=rdv_left p3 k (by have:=HLN.out;omega) p2
      have f0:=HB.out.rd.fz 0
      have hdl:(l.drop k).length=ln - k:=by rw [List.length_drop,HLN.out]
      have hcx:ln≤capx:=by have:=HLN.out;omega
      by_cases hcc:capx=k
      · have HC:=Lib.hid (fun j=>(HB.out.drewN j).zero (l':=l.drop k) (ad:=adx) (k:=0) (cap:=0) (okb_drop HOK.out k) (by rw [hdl];omega) (by rw [hdl];omega) (by omega) (q4.1 hcc) (shp_end p4))
        obtain rfl:ln=k:=by omega
        subst hcc
        clear p1 p2 p3 q4 hdl
        go_region
        all_goals
          go_wp2_with fail
          go_ret
          exact TakP.yes HE.out (by unfold strV;rw [HS.out];rfl) (HC.out _)
      · have hlt1:k<capx:=by omega
        obtain ⟨b,o,rfl⟩:∃ b o,adx=some ⟨b,o,none⟩:=by
          rcases p4 with ⟨_,h⟩ | h
          · omega
          · exact h
        have HC:=Lib.hid (fun j=>(HB.out.drewN j).zero (l':=l.drop k) (ad:=some ⟨b,o+k,none⟩) (k:=ln - k) (cap:=capx - k) (okb_drop HOK.out k) (by rw [hdl];omega) hdl (by omega) (q4.2 b o rfl) (.inr ⟨_,_,rfl⟩))
        clear p1 p2 p3 q4 hdl
        go_region
        all_goals
          go_wp2_with fail
          go_ret
          exact TakP.yes HE.out (by unfold strV;rw [HS.out];rfl) (HC.out _)
  · have H2:=Lib.hid (H1.out.more hb)
    have HE:Hid (pkBytes k l=.inr 4):=Lib.hid (by unfold pkBytes;rw [if_pos hlt])
    clear hb KR hlt
    go_wp2_with fail
    exact ⟨rfl,TakP.no HE.out (ThrowP.mk H2.out)⟩
theorem text_pk {w0:World} (hU:UT w0) {g:Nat} {l:List Nat} {d n:Nat} {w:World} (hr:RdP w0 g l d n w) (m k:Nat) (hk:k<18446744073709551616) :
    Calls Tryz.prog 137 #[.pointer (some ⟨g,0,none⟩),hmV (m,k)] w (TakP w0 g d n strV (pkText k l) w):=by
  have hb1:Below w.heap.size w (w.alloc (.cells #[.int .i64 (m:Int),.int .u64 (k:Int)] 129)):=(Below.refl _ _).alloc (Nat.le_refl _) _
  have H1:=Lib.hid (StP.of_below hr hb1)
  have KB:=Lib.hid (bytes_pk H1.out.rd m k hk)
  have HU:=Lib.hid hU
  have hsz:∀ p r,pkBytes k l=.inl (p,r)→p.length≤2000:=fun p r h=>by
    unfold pkBytes at h
    split at h
    · cases h
    · split at h
      · cases h
      · simp only [Sum.inl.injEq,Prod.mk.injEq] at h
        rw [← h.1,List.length_take];omega
  have HSZ:=Lib.hid hsz
  have KV:=Lib.hid (fun (s:List Nat) (W:World) (hs:s.length≤2000) (hb:Below w0.heap.size w0 W)=>valid_any (strB s) W (by rw [strB_size];unfold maxLen;omega) (hU.below hb))
  unfold hmV
  clear hr hb1 hk hU hsz
  unfold hmV at KB
  go_enter Tryz.func137,Tryz.ntmps137
  go_wp2_with fail
  refine KB.out.mono ?_
  intro r w1 hp
  cases hb:pkBytes k l with
  | inr x =>
    rw [hb] at hp
    obtain ⟨rfl,l',d',n',h1⟩:=hp
    have H2:=Lib.hid (H1.out.trans h1)
    have HE:Hid (pkText k l=.inr x):=Lib.hid (by unfold pkText;rw [hb])
    clear h1 hb KB
    go_wp2_with fail
    exact ⟨rfl,TakP.no HE.out (ThrowP.mk H2.out)⟩
  | inl p =>
    obtain ⟨s,r1⟩:=p
    rw [hb] at hp
    obtain ⟨rfl,h1⟩:=hp
    have H2:=Lib.hid (H1.out.trans h1)
    have HE:Hid (pkText k l=if validB s then .inl (s,r1) else .inr 2):=Lib.hid (by unfold pkText;rw [hb])
    have KV1:=Lib.hid (KV.out s w1 (HSZ.out _ _ hb) h1.rd.env)
    rw [strB_data] at KV1
    have HSV:=Lib.hid (show strV s=.string (strB s) from rfl)
    clear h1 hb KB HSZ KV
    unfold strV
    change Hid (Calls _ _ _ _ (BoolBelow (validB s) w1)) at KV1
    generalize hsb:strB s=sb at *
    go_wp2_with fail
    refine KV1.out.mono ?_
    rintro r w2 ⟨rfl,hb2⟩
    have H3:=Lib.hid (H2.out.more hb2)
    clear hb2 hsb
    cases hv:validB s
    · rw [hv] at HE
      clear hv
      go_wp2_with fail
      exact ⟨rfl,TakP.no HE.out (ThrowP.mk H3.out)⟩
    · rw [hv] at HE
      clear hv
      go_wp2_with fail
      go_ret
      exact TakP.yes HE.out (congrArg Ending.returned HSV.out.symm) H3.out
theorem name_pk {w0:World} (hU:UT w0) {g:Nat} {l:List Nat} {d n:Nat} {w:World} (hr:RdP w0 g l d n w) :
    Calls Tryz.prog 177 #[.pointer (some ⟨g,0,none⟩)] w (TakP w0 g d n strV (pkName l) w):=by
  have KH:=Lib.hid (head_pk hr)
  have HU:=Lib.hid hU
  have HOK:=Lib.hid hr.ok
  clear hr hU
  go_enter Tryz.func177,Tryz.ntmps177
  go_wp2_with fail
  refine KH.out.mono ?_
  intro r w1 hp
  cases hb:pkHead l with
  | inr x =>
    rw [hb] at hp
    have HE:Hid (pkName l=.inr x):=Lib.hid (by unfold pkName;rw [hb])
    obtain ⟨rfl,l',d',n',h1⟩:=hp
    have H2:=Lib.hid h1
    clear h1 hb KH
    go_wp2_with fail
    exact ⟨rfl,TakP.no HE.out (ThrowP.mk H2.out)⟩
  | inl p =>
    obtain ⟨⟨kd,k⟩,r1⟩:=p
    rw [hb] at hp
    obtain ⟨rfl,h1⟩:=hp
    have hok:=pkHead_ok HOK.out hb
    have HE:Hid (pkName l=if kd ≠ 7 then .inr 3 else pkText k r1):=Lib.hid (by unfold pkName;rw [hb])
    obtain ⟨W2,hW2⟩:∃ x,w1.alloc (.cells #[.int .i64 (kd:Int),.int .u64 (k:Int)] 129)=x:=⟨_,rfl⟩
    have hb2:Below w1.heap.size w1 W2:=by rw [← hW2];exact (Below.refl _ _).alloc (Nat.le_refl _) _
    have H2:=Lib.hid (h1.more hb2)
    have hbx:W2.heap[w1.heap.size]? = some (.cells #[.int .i64 (kd:Int),.int .u64 (k:Int)] 129):=by rw [← hW2];exact heap_alloc_new w1 _
    have KT:=Lib.hid (text_pk HU.out H2.out.rd kd k hok.n)
    have HW2:=Lib.hid hW2
    clear h1 hb KH hok hb2 hW2
    unfold hmV at *
    simp only at *
    by_cases h7:kd=7
    · have e7:((kd:Int) != 7)=false:=by subst h7;decide
      have HE2:Hid (pkName l=pkText k r1):=Lib.hid (HE.out.trans (if_neg (fun h=>h h7)))
      have y0:W2.cell? ⟨w1.heap.size,0,none⟩=some (.int .i64 (kd:Int)):=by simp only [World.cell?,hbx];rfl
      have y1:W2.cell? ⟨w1.heap.size,1,none⟩=some (.int .u64 (k:Int)):=by simp only [World.cell?,hbx];rfl
      rw [← HW2.out] at y0 y1
      clear hbx h7
      go_wp2_with fail
      rw [HW2.out]
      refine KT.out.mono ?_
      intro r w3 hp
      cases ht:pkText k r1 with
      | inr x =>
        rw [ht] at hp
        obtain ⟨rfl,l',d',n',h3⟩:=hp
        have H3:=Lib.hid (H2.out.trans h3)
        have HE3:=Lib.hid (HE2.out.trans ht)
        clear h3 ht KT
        go_wp2_with fail
        exact ⟨rfl,TakP.no HE3.out (ThrowP.mk H3.out)⟩
      | inl p =>
        obtain ⟨s,r2⟩:=p
        rw [ht] at hp
        obtain ⟨rfl,h3⟩:=hp
        have H3:=Lib.hid (H2.out.trans h3)
        have HE3:=Lib.hid (HE2.out.trans ht)
        clear h3 ht KT
        unfold strV
        have HSV:=Lib.hid (show strV s=.string (strB s) from rfl)
        generalize strB s=sb at *
        go_wp2_with fail
        go_ret
        exact TakP.yes HE3.out (congrArg Ending.returned HSV.out.symm) H3.out
    · have e7:((kd:Int) != 7)=true:=by rw [bne_iff_ne];omega
      have HE2:Hid (pkName l=.inr 3):=Lib.hid (HE.out.trans (if_pos h7))
      have y0:W2.cell? ⟨w1.heap.size,0,none⟩=some (.int .i64 (kd:Int)):=by simp only [World.cell?,hbx];rfl
      rw [← HW2.out] at y0
      clear hbx h7 KT
      go_wp2_with fail
      rw [HW2.out]
      exact ⟨rfl,TakP.no HE2.out (ThrowP.mk H2.out)⟩
theorem mkN_word {neg:Bool} {N:Nat} (h:N<18446744073709551616):∃ r,mkN neg N 0=some r:=by
  unfold mkN
  by_cases h0:N=0
  · rw [if_pos h0];exact ⟨_,rfl⟩
  · rw [if_neg h0]
    obtain ⟨h1,h2⟩:=trim_spec h0
    have hk:trimK N<20:=by
      rcases Nat.lt_or_ge (trimK N) 20 with h3 | h3
      · exact h3
      · exfalso
        have h4:=tenN_le h3
        have h5:tenN 20=100000000000000000000:=by decide
        have h6:1≤trimM N:=by
          rcases Nat.eq_zero_or_pos (trimM N) with h7 | h7
          · rw [h7] at h2;simp at h2
          · exact h7
        have h8:1*tenN (trimK N)≤trimM N*tenN (trimK N):=Nat.mul_le_mul_right _ h6
        omega
    have hm:trimM N≤N:=by
      have h8:trimM N*1≤trimM N*tenN (trimK N):=Nat.mul_le_mul_left _ (tenN_pos _)
      omega
    have hl:(limbs (trimM N)).length≤2:=limbs_length_le (Nat.lt_of_le_of_lt hm (by rw [B32_eq];exact h))
    rw [if_pos ⟨by omega,by omega,by omega⟩]
    exact ⟨_,rfl⟩
theorem num_finP {w W:World} {p:Bool × Nat × Int} {ad:Option Addr} {n cap z:Nat} (hbw:Below w.heap.size w W) (hz:w.heap.size<z) (hn:n=(limbs p.2.1).length) (hc:n≤cap) (hb:(limbs p.2.1).length≤90∧-1200≤p.2.2∧p.2.2≤1200) (hi:Ind (fun k=>k<z) W (fun W=>Rd W ad (limbs p.2.1))) (v0 v1 v2 v3 v4 v5 v6 v7:Value) :
    Ind (fun k=>k<w.heap.size) ((((((((W.setCell ⟨w.heap.size,0,none⟩ v0).setCell ⟨w.heap.size,1,none⟩ v1).setCell ⟨w.heap.size,2,none⟩ v2).setCell ⟨w.heap.size,3,none⟩ v3).setCell ⟨w.heap.size,4,none⟩ v4).setCell ⟨w.heap.size,5,none⟩ v5).setCell ⟨w.heap.size,6,none⟩ v6).setCell ⟨w.heap.size,7,none⟩ v7) (fun W=>Rep W (numT p.1 ad n cap p.2.2 (limbs p.2.1))) ∧
      Below w.heap.size w ((((((((W.setCell ⟨w.heap.size,0,none⟩ v0).setCell ⟨w.heap.size,1,none⟩ v1).setCell ⟨w.heap.size,2,none⟩ v2).setCell ⟨w.heap.size,3,none⟩ v3).setCell ⟨w.heap.size,4,none⟩ v4).setCell ⟨w.heap.size,5,none⟩ v5).setCell ⟨w.heap.size,6,none⟩ v6).setCell ⟨w.heap.size,7,none⟩ v7):=by
  constructor
  · refine hi.to (by simp [World.setCell]) (fun k hk hx=>?_) (fun k _ (h:k<w.heap.size)=>(by omega:k<z)) (fun W h=>numT_rep (by rw [hn]) hc (by omega) (limbs_ok _) h (by omega))
    have hne:k ≠ w.heap.size:=by omega
    rw [set_otherC hne,set_otherC hne,set_otherC hne,set_otherC hne,set_otherC hne,set_otherC hne,set_otherC hne,set_otherC hne]
  · have hle:w.heap.size≤w.heap.size:=Nat.le_refl _
    exact (((((((hbw.setCell hle _).setCell hle _).setCell hle _).setCell hle _).setCell hle _).setCell hle _).setCell hle _).setCell hle _
theorem whole_pk (neg:Bool) (N:Nat) (hN:N<18446744073709551616) (w:World):Calls Tryz.prog 134 #[.bool neg,.int .u64 (N:Int)] w (ValN w (.inl (pkNum neg N))):=by
  obtain ⟨p,hp⟩:=mkN_word (neg:=neg) hN
  have HE:Hid ((Sum.inl (pkNum neg N):MT ⊕ Int)=.inl (bnumC p)):=Lib.hid (by unfold pkNum;rw [hp])
  have HBD:=Lib.hid (mkN_bd neg N 0 p hp)
  obtain ⟨W1,hW1⟩:∃ x,w.alloc (.cells #[.int .i64 0,.bool false,.bool false,.slice none 0 0,.int .i64 0,.string ⟨#[]⟩,.slice none 0 0,.slice none 0 0] 29)=x:=⟨_,rfl⟩
  have hb1:Below w.heap.size w W1:=by rw [← hW1];exact (Below.refl _ _).alloc (Nat.le_refl _) _
  have hq1:W1.heap[w.heap.size]? = some (.cells #[.int .i64 0,.bool false,.bool false,.slice none 0 0,.int .i64 0,.string ⟨#[]⟩,.slice none 0 0,.slice none 0 0] 29):=by rw [← hW1];exact heap_alloc_new w _
  have hs1:W1.heap.size=w.heap.size+1:=by rw [← hW1];simp
  have hl:=lits2_ok W1 N hN
  have hb2:Below W1.heap.size W1 (W1.alloc (.cells #[.int .u32 ((N:Int) % 4294967296),.int .u32 ((N:Int) / 4294967296)] 51)):=(Below.refl _ _).alloc (Nat.le_refl _) _
  have K:=make_cb hl (by decide) neg 0 (by decide)
  rw [hp,hs1] at K
  have KM:=Lib.hid K
  have HB1:=Lib.hid hb1;have HB2:=Lib.hid hb2;have HQ1:=Lib.hid hq1;have HS1:=Lib.hid hs1
  have HW1:=Lib.hid hW1
  have hN0:(0:Int)≤(N:Int):=by omega
  have hN2:(N:Int)<18446744073709551616:=by omega
  have hsh:(N:Int) / 4294967296 % 4294967296=(N:Int) / 4294967296:=by omega
  clear hb1 hb2 hq1 hs1 hl K hp hW1
  go_enter Tryz.func134,Tryz.ntmps134
  go_wp2_with fail
  rw [HW1.out]
  refine KM.out.mono ?_
  rintro r w2 ⟨ng,ad,n,cap,x,ok,rfl,hb,hok,h1,hn,h3,hcap,hind⟩
  subst hok h1 h3
  have hqb:=(HB2.out.trans (hb.mono (HB2.out.size)))
  have hq:=(hqb.block w.heap.size (by have:=HS1.out;omega)).trans HQ1.out
  have hbw:Below w.heap.size w w2:=HB1.out.trans (hqb.mono (by have:=HS1.out;omega))
  have hsz2:w.heap.size+2≤w2.heap.size:=by have h5:=hb.size;have:=HS1.out;simp at h5;omega
  have hz:W1.heap.size<w2.heap.size:=by have:=HS1.out;omega
  obtain ⟨W3,hW3⟩:∃ x,w2.alloc (.cells #[.bool p.1,.slice ad n cap,.int .i64 p.2.2] 25)=x:=⟨_,rfl⟩
  have hb3:Below w2.heap.size w2 W3:=by rw [← hW3];exact (Below.refl _ _).alloc (Nat.le_refl _) _
  have hbx:W3.heap[w2.heap.size]? = some (.cells #[.bool p.1,.slice ad n cap,.int .i64 p.2.2] 25):=by rw [← hW3];exact heap_alloc_new w2 _
  have hq3:=(hb3.block w.heap.size (by omega)).trans hq
  have hind3:Ind (fun k=>k<w.heap.size+1) W3 (fun W=>Rd W ad (limbs p.2.1)):=hind.to hb3.size (fun k hk _=>hb3.block k hk) (fun k _ (h:k<w.heap.size+1)=>(by simp;have:=HS1.out;omega)) (fun _ h=>h)
  have HFIN:=Lib.hid (num_finP (hbw.trans (hb3.mono hbw.size)) (by omega) hn hcap HBD.out hind3 (.int .i64 3) (.bool false) (.bool p.1) (.slice ad n cap) (.int .i64 p.2.2) (.string ⟨#[]⟩) (.slice none 0 0) (.slice none 0 0))
  have HNN:=Lib.hid hn
  have x0:W3.cell? ⟨w2.heap.size,0,none⟩=some (.bool p.1):=cellOf hbx 0 rfl
  have x1:W3.cell? ⟨w2.heap.size,1,none⟩=some (.slice ad n cap):=cellOf hbx 1 rfl
  have x2:W3.cell? ⟨w2.heap.size,2,none⟩=some (.int .i64 p.2.2):=cellOf hbx 2 rfl
  have y0:W3.cell? ⟨w.heap.size,0,none⟩=some (.int .i64 0):=cellOf hq3 0 rfl
  have z0:=freeOf hq3 0
  have y1:W3.cell? ⟨w.heap.size,1,none⟩=some (.bool false):=cellOf hq3 1 rfl
  have z1:=freeOf hq3 1
  have y2:W3.cell? ⟨w.heap.size,2,none⟩=some (.bool false):=cellOf hq3 2 rfl
  have z2:=freeOf hq3 2
  have y3:W3.cell? ⟨w.heap.size,3,none⟩=some (.slice none 0 0):=cellOf hq3 3 rfl
  have z3:=freeOf hq3 3
  have y4:W3.cell? ⟨w.heap.size,4,none⟩=some (.int .i64 0):=cellOf hq3 4 rfl
  have z4:=freeOf hq3 4
  have y5:W3.cell? ⟨w.heap.size,5,none⟩=some (.string ⟨#[]⟩):=cellOf hq3 5 rfl
  have z5:=freeOf hq3 5
  have y6:W3.cell? ⟨w.heap.size,6,none⟩=some (.slice none 0 0):=cellOf hq3 6 rfl
  have z6:=freeOf hq3 6
  have y7:W3.cell? ⟨w.heap.size,7,none⟩=some (.slice none 0 0):=cellOf hq3 7 rfl
  have z7:=freeOf hq3 7
  have n1:¬ w2.heap.size=w.heap.size:=by omega
  have n2:¬ w.heap.size=w2.heap.size:=by omega
  rw [← hW3] at x0 x1 x2
  have HW3:=Lib.hid hW3
  clear hb hind hind3 hn hcap hqb hq hbw hsz2 hz hb3 hbx hq3 KM hW3
  go_upto_region 2 with fail
  rw [HW3.out] at x0 x1 x2 ⊢
  go_wp2_with fail
  refine bodyPost_ret (v:=.agg #[.int .i64 3,.bool false,.bool p.1,.slice ad n cap,.int .i64 p.2.2,.string ⟨#[]⟩,.slice none 0 0,.slice none 0 0]) (by simp [results,Tryz.results134,go_sem,y0,y1,y2,y3,y4,y5,y6,y7,n1,n2]) rfl ?_
  exact ValN.yes (numT p.1 ad n cap p.2.2 (limbs p.2.1)) HE.out rfl (by rw [numT_bareC,HNN.out];rfl) HFIN.out.1 HFIN.out.2
theorem val_finN {w W:World} {t':MT} {z:Nat} (hbw:Below w.heap.size w W) (hz:w.heap.size<z) (hi:Ind (fun k=>k<z) W (fun W=>Rep W t')) (v0 v1 v2 v3 v4 v5 v6 v7:Value) :
    Ind (fun k=>k<w.heap.size) ((((((((W.setCell ⟨w.heap.size,0,none⟩ v0).setCell ⟨w.heap.size,1,none⟩ v1).setCell ⟨w.heap.size,2,none⟩ v2).setCell ⟨w.heap.size,3,none⟩ v3).setCell ⟨w.heap.size,4,none⟩ v4).setCell ⟨w.heap.size,5,none⟩ v5).setCell ⟨w.heap.size,6,none⟩ v6).setCell ⟨w.heap.size,7,none⟩ v7) (fun W=>Rep W t')∧Below w.heap.size w ((((((((W.setCell ⟨w.heap.size,0,none⟩ v0).setCell ⟨w.heap.size,1,none⟩ v1).setCell ⟨w.heap.size,2,none⟩ v2).setCell ⟨w.heap.size,3,none⟩ v3).setCell ⟨w.heap.size,4,none⟩ v4).setCell ⟨w.heap.size,5,none⟩ v5).setCell ⟨w.heap.size,6,none⟩ v6).setCell ⟨w.heap.size,7,none⟩ v7):=by
  constructor
  · refine hi.to (by simp [World.setCell]) (fun k hk hx=>?_) (fun k _ (h:k<w.heap.size)=>(by omega:k<z)) (fun _ h=>h)
    have hne:k ≠ w.heap.size:=by omega
    rw [set_otherC hne,set_otherC hne,set_otherC hne,set_otherC hne,set_otherC hne,set_otherC hne,set_otherC hne,set_otherC hne]
  · have hle:w.heap.size≤w.heap.size:=Nat.le_refl _
    exact (((((((hbw.setCell hle _).setCell hle _).setCell hle _).setCell hle _).setCell hle _).setCell hle _).setCell hle _).setCell hle _
theorem signed_pk (N:Nat) (hN:N<18446744073709551616) (w:World):Calls Tryz.prog 135 #[.int .u64 (N:Int)] w (ValN w (.inl (pkSigned N))):=by
  obtain ⟨W1,hW1⟩:∃ x,w.alloc (.cells #[.int .i64 0,.bool false,.bool false,.slice none 0 0,.int .i64 0,.string ⟨#[]⟩,.slice none 0 0,.slice none 0 0] 29)=x:=⟨_,rfl⟩
  have hb1:Below w.heap.size w W1:=by rw [← hW1];exact (Below.refl _ _).alloc (Nat.le_refl _) _
  have hq1:W1.heap[w.heap.size]? = some (.cells #[.int .i64 0,.bool false,.bool false,.slice none 0 0,.int .i64 0,.string ⟨#[]⟩,.slice none 0 0,.slice none 0 0] 29):=by rw [← hW1];exact heap_alloc_new w _
  have hs1:W1.heap.size=w.heap.size+1:=by rw [← hW1];simp
  have HB1:=Lib.hid hb1;have HQ1:=Lib.hid hq1;have HS1:=Lib.hid hs1
  have HW1:=Lib.hid hW1
  clear hb1 hq1 hs1 hW1
  by_cases h63:9223372036854775808≤N
  · have HE:Hid ((Sum.inl (pkSigned N):MT ⊕ Int)=.inl (pkNum true (18446744073709551616 - N))):=Lib.hid (by unfold pkSigned;rw [if_pos h63])
    have KW:=Lib.hid (whole_pk true (18446744073709551616 - N) (by omega) W1)
    have e1:=i64_of N h63 hN
    have e2:decide ((N:Int) - 18446744073709551616<0)=true:=decide_eq_true (by omega)
    have e3:IntKind.u64.wrap (-(N:Int))=((18446744073709551616 - N:Nat):Int):=by rw [IntKind.wrap_u64];omega
    unfold ValN at KW
    generalize (18446744073709551616 - N:Nat)=M at *
    generalize hD:(N:Int) - 18446744073709551616=D at *
    have e4:D<0:=by omega
    clear hD h63
    go_enter Tryz.func135,Tryz.ntmps135
    go_wp2_with fail
    rw [HW1.out]
    refine KW.out.mono ?_
    rintro r w2 ⟨t',rfl,hbare,hind,hb⟩
    have hq:=(hb.block w.heap.size (by have:=HS1.out;omega)).trans HQ1.out
    have hbw:Below w.heap.size w w2:=HB1.out.trans (hb.mono HB1.out.size)
    have HIN:=Lib.hid hind
    have HBW:=Lib.hid hbw
    have HBA:=Lib.hid hbare
    have HZ:=Lib.hid (show w.heap.size<W1.heap.size by have:=HS1.out;omega)
    have HY:=Lib.hid hq
    clear hb hind hbw hbare hq KW
    generalize hc:t'.c=c at *
    obtain ⟨k0,b0,ng,ma,mn,mc,ex,st,ka,kn,kc,va,vn,vc⟩:=c
    have HC:=Lib.hid hc
    clear hc
    unfold Cel.val
    have hq:=HY.out
    have y0:w2.cell? ⟨w.heap.size,0,none⟩=some (.int .i64 0):=cellOf hq 0 rfl
    have z0:=freeOf hq 0
    have y1:w2.cell? ⟨w.heap.size,1,none⟩=some (.bool false):=cellOf hq 1 rfl
    have z1:=freeOf hq 1
    have y2:w2.cell? ⟨w.heap.size,2,none⟩=some (.bool false):=cellOf hq 2 rfl
    have z2:=freeOf hq 2
    have y3:w2.cell? ⟨w.heap.size,3,none⟩=some (.slice none 0 0):=cellOf hq 3 rfl
    have z3:=freeOf hq 3
    have y4:w2.cell? ⟨w.heap.size,4,none⟩=some (.int .i64 0):=cellOf hq 4 rfl
    have z4:=freeOf hq 4
    have y5:w2.cell? ⟨w.heap.size,5,none⟩=some (.string ⟨#[]⟩):=cellOf hq 5 rfl
    have z5:=freeOf hq 5
    have y6:w2.cell? ⟨w.heap.size,6,none⟩=some (.slice none 0 0):=cellOf hq 6 rfl
    have z6:=freeOf hq 6
    have y7:w2.cell? ⟨w.heap.size,7,none⟩=some (.slice none 0 0):=cellOf hq 7 rfl
    have z7:=freeOf hq 7
    have HFIN:=Lib.hid (val_finN HBW.out HZ.out HIN.out (.int .i64 k0) (.bool b0) (.bool ng) (.slice ma mn mc) (.int .i64 ex) (.string st) (.slice ka kn kc) (.slice va vn vc))
    clear hq
    go_wp2_with fail
    refine bodyPost_ret (v:=.agg #[.int .i64 k0,.bool b0,.bool ng,.slice ma mn mc,.int .i64 ex,.string st,.slice ka kn kc,.slice va vn vc]) (by simp [results,Tryz.results135,go_sem,y0,y1,y2,y3,y4,y5,y6,y7]) rfl ?_
    exact ValN.yes t' HE.out (by rw [HC.out];rfl) HBA.out HFIN.out.1 HFIN.out.2
  · have HE:Hid ((Sum.inl (pkSigned N):MT ⊕ Int)=.inl (pkNum false N)):=Lib.hid (by unfold pkSigned;rw [if_neg h63])
    have KW:=Lib.hid (whole_pk false N hN W1)
    have e1:IntKind.i64.wrap (N:Int)=(N:Int):=IntWalk.i64_in _ (by omega)
    have e2:decide ((N:Int)<0)=false:=decide_eq_false (by omega)
    have e4:¬ (N:Int)<0:=by omega
    unfold ValN at KW
    clear h63
    go_enter Tryz.func135,Tryz.ntmps135
    go_wp2_with fail
    rw [HW1.out]
    refine KW.out.mono ?_
    rintro r w2 ⟨t',rfl,hbare,hind,hb⟩
    have hq:=(hb.block w.heap.size (by have:=HS1.out;omega)).trans HQ1.out
    have hbw:Below w.heap.size w w2:=HB1.out.trans (hb.mono HB1.out.size)
    have HIN:=Lib.hid hind
    have HBW:=Lib.hid hbw
    have HBA:=Lib.hid hbare
    have HZ:=Lib.hid (show w.heap.size<W1.heap.size by have:=HS1.out;omega)
    have HY:=Lib.hid hq
    clear hb hind hbw hbare hq KW
    generalize hc:t'.c=c at *
    obtain ⟨k0,b0,ng,ma,mn,mc,ex,st,ka,kn,kc,va,vn,vc⟩:=c
    have HC:=Lib.hid hc
    clear hc
    unfold Cel.val
    have hq:=HY.out
    have y0:w2.cell? ⟨w.heap.size,0,none⟩=some (.int .i64 0):=cellOf hq 0 rfl
    have z0:=freeOf hq 0
    have y1:w2.cell? ⟨w.heap.size,1,none⟩=some (.bool false):=cellOf hq 1 rfl
    have z1:=freeOf hq 1
    have y2:w2.cell? ⟨w.heap.size,2,none⟩=some (.bool false):=cellOf hq 2 rfl
    have z2:=freeOf hq 2
    have y3:w2.cell? ⟨w.heap.size,3,none⟩=some (.slice none 0 0):=cellOf hq 3 rfl
    have z3:=freeOf hq 3
    have y4:w2.cell? ⟨w.heap.size,4,none⟩=some (.int .i64 0):=cellOf hq 4 rfl
    have z4:=freeOf hq 4
    have y5:w2.cell? ⟨w.heap.size,5,none⟩=some (.string ⟨#[]⟩):=cellOf hq 5 rfl
    have z5:=freeOf hq 5
    have y6:w2.cell? ⟨w.heap.size,6,none⟩=some (.slice none 0 0):=cellOf hq 6 rfl
    have z6:=freeOf hq 6
    have y7:w2.cell? ⟨w.heap.size,7,none⟩=some (.slice none 0 0):=cellOf hq 7 rfl
    have z7:=freeOf hq 7
    have HFIN:=Lib.hid (val_finN HBW.out HZ.out HIN.out (.int .i64 k0) (.bool b0) (.bool ng) (.slice ma mn mc) (.int .i64 ex) (.string st) (.slice ka kn kc) (.slice va vn vc))
    clear hq
    go_wp2_with fail
    refine bodyPost_ret (v:=.agg #[.int .i64 k0,.bool b0,.bool ng,.slice ma mn mc,.int .i64 ex,.string st,.slice ka kn kc,.slice va vn vc]) (by simp [results,Tryz.results135,go_sem,y0,y1,y2,y3,y4,y5,y6,y7]) rfl ?_
    exact ValN.yes t' HE.out (by rw [HC.out];rfl) HBA.out HFIN.out.1 HFIN.out.2
def fltR:Option (Bool × Nat × Int)→MT ⊕ Int
  | none=>.inr 3
  | some r=>.inl (bnumC r)
theorem pkFloat_eq {width:Int} {N:Nat} {R:Option (Bool × Nat × Int)} (h:exactN width N=R):pkFloat width N=fltR R:=by
  unfold pkFloat;rw [h];cases R <;> rfl
theorem float_pk (width:Int) (N:Nat) (hN:N<18446744073709551616) (w:World):Calls Tryz.prog 136 #[.int .i64 width,.int .u64 (N:Int)] w (ValN w (pkFloat width N)):=by
  obtain ⟨W1,hW1⟩:∃ x,w.alloc (.cells #[.int .i64 0,.bool false,.bool false,.slice none 0 0,.int .i64 0,.string ⟨#[]⟩,.slice none 0 0,.slice none 0 0] 29)=x:=⟨_,rfl⟩
  have hb1:Below w.heap.size w W1:=by rw [← hW1];exact (Below.refl _ _).alloc (Nat.le_refl _) _
  have hq1:W1.heap[w.heap.size]? = some (.cells #[.int .i64 0,.bool false,.bool false,.slice none 0 0,.int .i64 0,.string ⟨#[]⟩,.slice none 0 0,.slice none 0 0] 29):=by rw [← hW1];exact heap_alloc_new w _
  have hs1:W1.heap.size=w.heap.size+1:=by rw [← hW1];simp
  have HB1:=Lib.hid hb1;have HQ1:=Lib.hid hq1;have HS1:=Lib.hid hs1
  have HW1:=Lib.hid hW1
  obtain ⟨R,hR⟩:∃ R,exactN width N=R:=⟨_,rfl⟩
  have K:=exact_cb width N hN W1
  rw [hR] at K
  have KM:=Lib.hid K
  have HBD:=Lib.hid (fun p h=>exactN_bd width N p (hR.trans h))
  have HEF:=Lib.hid (pkFloat_eq hR)
  clear hb1 hq1 hs1 hW1 K hR
  go_enter Tryz.func136,Tryz.ntmps136
  go_wp2_with fail
  rw [HW1.out]
  refine KM.out.mono ?_
  rintro r w2 ⟨ng,ad,n,cap,x,ok,rfl,hb,hmk⟩
  have hq:=(hb.block w.heap.size (by have:=HS1.out;omega)).trans HQ1.out
  have hbw:Below w.heap.size w w2:=HB1.out.trans (hb.mono HB1.out.size)
  have hsz2:w.heap.size+1≤w2.heap.size:=by have h5:=hb.size;have:=HS1.out;omega
  obtain ⟨W3,hW3⟩:∃ V,w2.alloc (.cells #[.bool ng,.slice ad n cap,.int .i64 x] 25)=V:=⟨_,rfl⟩
  have hb3:Below w2.heap.size w2 W3:=by rw [← hW3];exact (Below.refl _ _).alloc (Nat.le_refl _) _
  have hbx:W3.heap[w2.heap.size]? = some (.cells #[.bool ng,.slice ad n cap,.int .i64 x] 25):=by rw [← hW3];exact heap_alloc_new w2 _
  have hq3:=(hb3.block w.heap.size (by omega)).trans hq
  have hbw3:=hbw.trans (hb3.mono hbw.size)
  have HW3:=Lib.hid hW3
  cases R with
  | none =>
    obtain rfl:ok=false:=hmk
    have HE:Hid (pkFloat width N=.inr 3):=Lib.hid HEF.out
    have HBW3:=Lib.hid hbw3
    clear hb hq hbw hsz2 hb3 hbx hq3 KM hW3 hbw3
    go_upto_region 2 with fail
    rw [HW3.out]
    go_wp2_with fail
    exact ⟨rfl,ValN.no HE.out HBW3.out⟩
  | some p =>
    obtain ⟨rfl,rfl,hn,rfl,hcap,hind⟩:=hmk
    have HE:Hid (pkFloat width N=.inl (bnumC p)):=Lib.hid HEF.out
    have hind3:Ind (fun k=>k<w.heap.size+1) W3 (fun W=>Rd W ad (limbs p.2.1)):=hind.to hb3.size (fun k hk _=>hb3.block k hk) (fun k _ (h:k<w.heap.size+1)=>(by have:=HS1.out;omega)) (fun _ h=>h)
    have HFIN:=Lib.hid (num_finP hbw3 (by omega) hn hcap (HBD.out p rfl) hind3 (.int .i64 3) (.bool false) (.bool p.1) (.slice ad n cap) (.int .i64 p.2.2) (.string ⟨#[]⟩) (.slice none 0 0) (.slice none 0 0))
    have HNN:=Lib.hid hn
    have x0:W3.cell? ⟨w2.heap.size,0,none⟩=some (.bool p.1):=cellOf hbx 0 rfl
    have x1:W3.cell? ⟨w2.heap.size,1,none⟩=some (.slice ad n cap):=cellOf hbx 1 rfl
    have x2:W3.cell? ⟨w2.heap.size,2,none⟩=some (.int .i64 p.2.2):=cellOf hbx 2 rfl
    have y0:W3.cell? ⟨w.heap.size,0,none⟩=some (.int .i64 0):=cellOf hq3 0 rfl
    have z0:=freeOf hq3 0
    have y1:W3.cell? ⟨w.heap.size,1,none⟩=some (.bool false):=cellOf hq3 1 rfl
    have z1:=freeOf hq3 1
    have y2:W3.cell? ⟨w.heap.size,2,none⟩=some (.bool false):=cellOf hq3 2 rfl
    have z2:=freeOf hq3 2
    have y3:W3.cell? ⟨w.heap.size,3,none⟩=some (.slice none 0 0):=cellOf hq3 3 rfl
    have z3:=freeOf hq3 3
    have y4:W3.cell? ⟨w.heap.size,4,none⟩=some (.int .i64 0):=cellOf hq3 4 rfl
    have z4:=freeOf hq3 4
    have y5:W3.cell? ⟨w.heap.size,5,none⟩=some (.string ⟨#[]⟩):=cellOf hq3 5 rfl
    have z5:=freeOf hq3 5
    have y6:W3.cell? ⟨w.heap.size,6,none⟩=some (.slice none 0 0):=cellOf hq3 6 rfl
    have z6:=freeOf hq3 6
    have y7:W3.cell? ⟨w.heap.size,7,none⟩=some (.slice none 0 0):=cellOf hq3 7 rfl
    have z7:=freeOf hq3 7
    have n1:¬ w2.heap.size=w.heap.size:=by omega
    have n2:¬ w.heap.size=w2.heap.size:=by omega
    clear hb hind hind3 hn hcap hq hbw hsz2 hb3 hbx hq3 KM hW3 hbw3
    go_upto_region 2 with fail
    rw [HW3.out]
    go_wp2_with fail
    refine bodyPost_ret (v:=.agg #[.int .i64 3,.bool false,.bool p.1,.slice ad n cap,.int .i64 p.2.2,.string ⟨#[]⟩,.slice none 0 0,.slice none 0 0]) (by simp [results,Tryz.results136,go_sem,y0,y1,y2,y3,y4,y5,y6,y7,n1,n2]) rfl ?_
    exact ValN.yes (numT p.1 ad n cap p.2.2 (limbs p.2.1)) HE.out rfl (by rw [numT_bareC,HNN.out];rfl) HFIN.out.1 HFIN.out.2
def ValP (w0:World) (g d:Nat) (r:RC MT) (w:World) (e:Ending) (w':World):Prop:=match r with
  | .inl (t,l,n)=>∃ t':MT,e=.returned t'.c.val∧t'.bare=t∧Ind (fun k=>k<w.heap.size) w' (fun W=>Rep W t')∧StP w0 g l d n w w'
  | .inr x=>ThrowP w0 x g w e w'
theorem ValP.no {w0:World} {g d:Nat} {r:RC MT} {w w':World} {e:Ending} {x:Int} (h:r=.inr x) (ht:ThrowP w0 x g w e w'):ValP w0 g d r w e w':=by
  subst h;exact ht
theorem ValP.yes {w0:World} {g d:Nat} {r:RC MT} {w w':World} {e:Ending} {t:MT} {l:List Nat} {n:Nat} (t':MT) (h:r=.inl (t,l,n)) (he:e=.returned t'.c.val) (hb:t'.bare=t) (hi:Ind (fun k=>k<w.heap.size) w' (fun W=>Rep W t')) (hs:StP w0 g l d n w w'):ValP w0 g d r w e w':=by
  subst h;exact ⟨t',he,hb,hi,hs⟩
def ValPC (w0:World) (g d:Nat) (V:List Nat→Nat→RC MT):Prop:=∀ W l n,n≤2000→RdP w0 g l d n W→Calls Tryz.prog 57 #[.pointer (some ⟨g,0,none⟩)] W (ValP w0 g d (V l n) W)
structure ArP (w0:World) (g d n:Nat) (l:List Nat) (w wS:World) (B:Nat) (X:Nat→Prop) (k:Nat) (us:List MT) (W:World):Prop where
  st:StP w0 g l d n w W
  low:w.heap.size≤wS.heap.size
  gB:g<w.heap.size
  w0w:w0.heap.size≤w.heap.size
  Bs:wS.heap.size≤B
  blk:BlkV W B 29 (flat (us.map MT.c++List.replicate (k - us.length) zeroC))
  ul:us.length≤k
  Xl:∀ q,X q→q<W.heap.size
  ind:Ind (fun q=>q<wS.heap.size∨q=B∨X q) W (fun W=>∀ u∈us,Rep W u)
  kp:∀ q,w.heap.size≤q→q<wS.heap.size→W.heap[q]? = wS.heap[q]?
theorem ArP.on {w0:World} {g d n d' n':Nat} {l l':List Nat} {w wS:World} {B:Nat} {X:Nat→Prop} {k:Nat} {us:List MT} {W W':World} (h:ArP w0 g d n l w wS B X k us W) (s:StP w0 g l' d' n' W W'):ArP w0 g d' n' l' w wS B X k us W':=by
  have hB:=h.blk.lt
  have hBs:=h.Bs;have hlow:=h.low;have hgB:=h.gB
  refine ⟨h.st.trans s,h.low,h.gB,h.w0w,h.Bs,?_,h.ul,fun q hq=>Nat.lt_of_lt_of_le (h.Xl q hq) s.oth.size,h.ind.to s.oth.size (fun q hq hx=>s.oth.block q hq (fun e=>hx (.inl (by omega)))) (fun _ _ h=>h) (fun _ h=>h),fun q h1 h2=>(s.oth.block q (by omega) (by omega)).trans (h.kp q h1 h2)⟩
  exact (s.oth.block B hB (by omega)).trans h.blk
theorem list_setP {α:Type} (a:List α) (b:List α) (x y:α) (n:Nat) (h:a.length=n):(a++(x::b)).set n y=(a++[y])++b:=by
  subst h
  induction a with
  | nil=>rfl
  | cons c a ih=>simp [ih]
theorem cells_add {us:List MT} {x:MT} {k:Nat} (hk:us.length<k):(us.map MT.c++List.replicate (k - us.length) zeroC).set us.length x.c=(us++[x]).map MT.c++List.replicate (k - (us++[x]).length) zeroC:=by
  obtain ⟨j,hj⟩:∃ j,k - us.length=j+1:=⟨k - us.length - 1,by omega⟩
  have hj2:k - (us++[x]).length=j:=by rw [List.length_append];simp only [List.length_cons,List.length_nil];omega
  rw [hj2,hj,List.replicate_succ]
  generalize zeroC=zc
  rw [list_setP (us.map MT.c) (List.replicate j zc) zc x.c us.length (by simp),List.map_append]
  rfl
theorem StP.fresh8 {w0:World} {g:Nat} {l:List Nat} {d n:Nat} {w W:World} (h:StP w0 g l d n w W) {b:Nat} (hb:w.heap.size≤b) (hg:b ≠ g) (h0:w0.heap.size≤b) (o:Nat) (c:Cel):StP w0 g l d n w (put8 W b o c) :=
  (((((((h.fresh hb hg h0 _ _).fresh hb hg h0 _ _).fresh hb hg h0 _ _).fresh hb hg h0 _ _).fresh hb hg h0 _ _).fresh hb hg h0 _ _).fresh hb hg h0 _ _).fresh hb hg h0 _ _
theorem ind_us {B z:Nat} {X:Nat→Prop} {us:List MT} {x:MT} {W2 W3:World} {s:Nat} (h:Ind (fun q=>q<s∨q=B∨X q) W2 (fun W=>∀ u∈us,Rep W u)) (hx:Ind (fun q=>q<z) W2 (fun W=>Rep W x)) (hbut:But B W2 W3) (hs:s≤z) (hB:B<z) (hX:∀ q,X q→q<z) :
    Ind (fun q=>q<s∨q=B∨X q) W3 (fun W=>∀ u∈us++[x],Rep W u):=by
  have i1:Ind (fun q=>q<s∨q=B∨X q) W3 (fun W=>∀ u∈us,Rep W u) :=
    h.to hbut.size (fun q hq hxq=>hbut.block q hq (fun e=>hxq (.inr (.inl e)))) (fun _ _ h=>h) (fun _ h=>h)
  have i2:Ind (fun q=>q<s∨q=B∨X q) W3 (fun W=>Rep W x) :=
    hx.to hbut.size (fun q hq hxq=>hbut.block q hq (fun e=>hxq (by rw [e];exact hB))) (fun q hq hy=>by
      rcases hy with hy | hy | hy
      · exact Nat.lt_of_lt_of_le hy hs
      · rw [hy];exact hB
      · exact hX q hy) (fun _ h=>h)
  intro W' a b u hu
  rcases List.mem_append.1 hu with hu | hu
  · exact i1 W' a b u hu
  · rw [List.mem_singleton.1 hu];exact i2 W' a b
theorem ArP.add {w0:World} {g d n d1 n1:Nat} {l l1:List Nat} {w wS:World} {B:Nat} {X:Nat→Prop} {k:Nat} {us:List MT} {x:MT} {W W2:World} (h:ArP w0 g d n l w wS B X k us W) (s:StP w0 g l1 d1 n1 W W2) (hx:Ind (fun q=>q<W.heap.size) W2 (fun W=>Rep W x)) (hk:us.length<k) :
    ArP w0 g d1 n1 l1 w wS B X k (us++[x]) (put8 W2 B (us.length*8) x.c):=by
  have h2:=h.on s
  have hB:=h.blk.lt
  have hBs:=h.Bs;have hlow:=h.low;have hgB:=h.gB;have hw0:=h.w0w
  have hz:=s.oth.size
  have hbut:=put8_but W2 B (us.length*8) x.c
  have hne:B ≠ g:=by omega
  have hb:w.heap.size≤B:=by omega
  have h0:w0.heap.size≤B:=by omega
  have hst:=h2.st.fresh8 hb hne h0 (us.length*8) x.c
  have hblk:=put8_blk h2.blk us.length (by rw [List.length_append,List.length_map,List.length_replicate];omega) x.c
  rw [cells_add hk] at hblk
  have hind:=ind_us h2.ind hx hbut (by omega) hB h.Xl
  have hl:(us++[x]).length≤k:=by rw [List.length_append];exact hk
  have hkp:∀ q,w.heap.size≤q→q<wS.heap.size→(put8 W2 B (us.length*8) x.c).heap[q]? = wS.heap[q]?:=fun q h1 h3=>(hbut.block q (by omega) (by omega)).trans (h2.kp q h1 h3)
  have hXl:∀ q,X q→q<(put8 W2 B (us.length*8) x.c).heap.size:=fun q hq=>Nat.lt_of_lt_of_le (h2.Xl q hq) hbut.size
  generalize put8 W2 B (us.length*8) x.c=W3 at *
  exact ⟨hst,h.low,h.gB,h.w0w,h.Bs,hblk,hl,hXl,hind,hkp⟩
theorem ArP.rep {w0:World} {g d n:Nat} {l:List Nat} {w wS:World} {B:Nat} {X:Nat→Prop} {k:Nat} {us:List MT} {W:World} (h:ArP w0 g d n l w wS B X k us W) (hk:us.length=k) (hm:k≤1000000000000000) (hX:∀ q,X q→wS.heap.size≤q) :
    RdV W (some ⟨B,0,none⟩) (flat (us.map MT.c)):=by
  have:=h.blk.all
  rwa [hk,Nat.sub_self,List.replicate_zero,List.append_nil] at this
theorem ArP.arr {w0:World} {g d n:Nat} {l:List Nat} {w wS:World} {B:Nat} {k:Nat} {us:List MT} {W:World} (h:ArP w0 g d n l w wS B (fun _=>False) k us W) (hk:us.length=k) (hm:k≤1000000000000000) :
    Ind (fun q=>q<wS.heap.size) W (fun W=>Rep W (arrT (some ⟨B,0,none⟩) k k us)):=by
  have hr:=h.rep hk hm (fun q hq=>hq.elim)
  intro W' h1 h2
  have hBs:=h.Bs
  refine arrT_rep hk (Nat.le_refl _) hm (ind_rdv (X:=fun q=>q<wS.heap.size) hr (fun a e hx=>by cases e;simp only at hx;omega) W' h1 h2) (h.ind W' h1 (fun q hq hx=>h2 q hq (fun h=>hx (.inl h))))
theorem pkItems_bad {V:List Nat→Nat→RC MT} {f n:Nat} {us:List MT} {l:List Nat} {x:Int} (h:V l n=.inr x):pkItems V (f+1) us l n=.inr x:=by
  rw [pkItems,h]
theorem pkItems_on {V:List Nat→Nat→RC MT} {f n n2:Nat} {us:List MT} {l r:List Nat} {t:MT} (h:V l n=.inl (t,r,n2)):pkItems V (f+1) us l n=pkItems V f (us++[t]) r n2:=by
  rw [pkItems,h]
theorem pkArr_eq {V:List Nat→Nat→RC MT} {k:Nat} {l:List Nat} {n:Nat} {R:RC (List MT)} (hR:pkItems V k [] l n=R):pkArr V k l n=if 300<k then .inr 4 else arrW R:=by
  unfold pkArr;rw [hR]
  split
  · rfl
  · cases R with
    | inr x=>rfl
    | inl p=>obtain ⟨us,r,n⟩:=p;rfl
theorem val_finP {w0:World} {g d n:Nat} {l:List Nat} {w W:World} {t':MT} {z b:Nat} (h:StP w0 g l d n w W) (hb:w.heap.size≤b) (hg:b ≠ g) (hlow:w0.heap.size≤b) (hz:b<z) (hi:Ind (fun k=>k<z) W (fun W=>Rep W t')) (v0 v1 v2 v3 v4 v5 v6 v7:Value) :
    Ind (fun k=>k<w.heap.size) ((((((((W.setCell ⟨b,0,none⟩ v0).setCell ⟨b,1,none⟩ v1).setCell ⟨b,2,none⟩ v2).setCell ⟨b,3,none⟩ v3).setCell ⟨b,4,none⟩ v4).setCell ⟨b,5,none⟩ v5).setCell ⟨b,6,none⟩ v6).setCell ⟨b,7,none⟩ v7) (fun W=>Rep W t')∧StP w0 g l d n w ((((((((W.setCell ⟨b,0,none⟩ v0).setCell ⟨b,1,none⟩ v1).setCell ⟨b,2,none⟩ v2).setCell ⟨b,3,none⟩ v3).setCell ⟨b,4,none⟩ v4).setCell ⟨b,5,none⟩ v5).setCell ⟨b,6,none⟩ v6).setCell ⟨b,7,none⟩ v7):=by
  constructor
  · refine hi.to (by simp [World.setCell]) (fun k hk hx=>?_) (fun k _ (h:k<w.heap.size)=>(by omega:k<z)) (fun _ h=>h)
    have hne:k ≠ b:=by omega
    rw [set_otherC hne,set_otherC hne,set_otherC hne,set_otherC hne,set_otherC hne,set_otherC hne,set_otherC hne,set_otherC hne]
  · exact (((((((h.fresh hb hg hlow _ _).fresh hb hg hlow _ _).fresh hb hg hlow _ _).fresh hb hg hlow _ _).fresh hb hg hlow _ _).fresh hb hg hlow _ _).fresh hb hg hlow _ _).fresh hb hg hlow _ _
def ArRelP (w0:World) (g d:Nat) (w wS:World) (V:List Nat→Nat→RC MT) (k:Nat) (R:RC (List MT)) (gk:Nat) (v:Value) (wr:World):Prop :=
  ∃ (us:List MT) (l:List Nat) (n:Nat),v=.int .i64 (us.length:Int)∧ArP w0 g d n l w wS wS.heap.size (fun _=>False) k us wr∧n≤2000∧k - us.length≤gk∧pkItems V (k - us.length) (us.map MT.bare) l n=R
theorem array_pk {w0:World} {g d:Nat} (V:List Nat→Nat→RC MT) (hV:ValPC w0 g d V) (hN:NdC V) {l:List Nat} {n:Nat} {w:World} (hr:RdP w0 g l d n w) (m k:Nat) (hkk:k<18446744073709551616) (hn:n≤2000) :
    Calls Tryz.prog 139 #[.pointer (some ⟨g,0,none⟩),hmV (m,k)] w (ValP w0 g d (pkArr V k l n) w):=by
  have hg:=hr.lt
  have hlow:=hr.env.size
  obtain ⟨W1,hW1⟩:∃ x,(w.alloc (.cells #[.int .i64 (m:Int),.int .u64 (k:Int)] 129)).alloc (.cells #[.int .i64 0,.bool false,.bool false,.slice none 0 0,.int .i64 0,.string ⟨#[]⟩,.slice none 0 0,.slice none 0 0] 29)=x:=⟨_,rfl⟩
  have hb1:Below w.heap.size w W1:=by rw [← hW1];exact ((Below.refl _ _).alloc (Nat.le_refl _) _).alloc (by simp) _
  have hq0:W1.heap[w.heap.size]? = some (.cells #[.int .i64 (m:Int),.int .u64 (k:Int)] 129):=by
    rw [← hW1]
    exact (Below.heap_alloc _ _ _ (by simp)).trans (heap_alloc_new w _)
  have hq1:W1.heap[w.heap.size+1]? = some (.cells #[.int .i64 0,.bool false,.bool false,.slice none 0 0,.int .i64 0,.string ⟨#[]⟩,.slice none 0 0,.slice none 0 0] 29):=by
    rw [← hW1]
    have:=heap_alloc_new (w.alloc (.cells #[.int .i64 (m:Int),.int .u64 (k:Int)] 129)) (.cells #[.int .i64 0,.bool false,.bool false,.slice none 0 0,.int .i64 0,.string ⟨#[]⟩,.slice none 0 0,.slice none 0 0] 29)
    simpa using this
  have hs1:W1.heap.size=w.heap.size+2:=by rw [← hW1];simp
  have H1:=Lib.hid (StP.of_below hr hb1)
  have HQ0:=Lib.hid hq0;have HQ1:=Lib.hid hq1;have HS1:=Lib.hid hs1
  have KR:=Lib.hid (refuse_pk m k 300 W1)
  have HV:=Lib.hid hV
  have HNN:=Lib.hid hN
  have HW1:=Lib.hid hW1
  obtain ⟨R0,hR0⟩:∃ R0,pkArr V k l n=R0:=⟨_,rfl⟩
  obtain ⟨R,hR⟩:∃ R,pkItems V k [] l n=R:=⟨_,rfl⟩
  have HAR:Hid (R0=if 300<k then .inr 4 else arrW R):=Lib.hid (hR0.symm.trans (pkArr_eq hR))
  rw [hR0]
  have HR:=Lib.hid hR
  have HY0:W1.cell? ⟨w.heap.size,0,none⟩=some (.int .i64 (m:Int)):=cellOf hq0 0 rfl
  have HY1:W1.cell? ⟨w.heap.size,1,none⟩=some (.int .u64 (k:Int)):=cellOf hq0 1 rfl
  dsimp only [hmV]
  clear hr hb1 hV hN hR0 hR hq0 hq1 hs1 hW1
  go_enter Tryz.func139,Tryz.ntmps139
  go_upto_region 1 with fail
  rw [HW1.out]
  go_wp2_with fail
  refine KR.out.mono ?_
  rintro r wS ⟨hb,⟨hle,rfl⟩ | ⟨hlt,rfl⟩⟩
  · have H2:=Lib.hid (H1.out.more hb)
    have hs2:=hb.size
    have HB0:=Lib.hid ((hb.block w.heap.size (by have:=HS1.out;omega)).trans HQ0.out)
    have HB1:=Lib.hid ((hb.block (w.heap.size+1) (by have:=HS1.out;omega)).trans HQ1.out)
    have HSZ:=Lib.hid (show w.heap.size+1<wS.heap.size by have:=HS1.out;omega)
    have HLE:=Lib.hid hle
    have HAR2:Hid (R0=arrW R):=Lib.hid (HAR.out.trans (if_neg (by omega)))
    have yk:wS.cell? ⟨w.heap.size,1,none⟩=some (.int .u64 (k:Int)):=cellOf HB0.out 1 rfl
    clear hb hle KR HY0 HY1 hs2
    go_wp2_with (at_make;refine wpl_make_trees _ rfl _ _ rfl _ _ _ _ k rfl rfl rfl rfl (by have:=HLE.out;omega) ?_)
    intro wM hk1 hb1
    have hst:ArP w0 g d n l w wS wS.heap.size (fun _=>False) k [] wM:=⟨H2.out.more hb1,H2.out.oth.size,hg,hlow,Nat.le_refl _,by simpa using hk1,Nat.zero_le _,fun q hq=>hq.elim,fun W _ _=>nofun,fun q _ h2=>hb1.block q h2⟩
    have HST:=Lib.hid (show ArRelP w0 g d w wS V k R k (.int .i64 0) wM from ⟨[],l,n,rfl,hst,hn,by simp,HR.out⟩)
    clear hk1 hb1 hst yk
    go_wp2_with fail
    go_loopg [14] k (fun gk v wr=>ArRelP w0 g d w wS V k R gk v wr)
    case atStart=>exact HST.out
    case round =>
      clear HST
      obtain ⟨us,l1,n1,rfl,hit,hn1,hgk,hR1⟩:=hrel
      have HIT:=Lib.hid hit
      have HR1:=Lib.hid hR1
      have hul:=hit.ul
      have hbk:=hit.blk
      clear hit hR1
      generalize hun:us.length=un at *
      have HUN:=Lib.hid hun
      clear hun
      by_cases hlt:un<k
      · obtain ⟨f,rfl⟩:∃ f,gk=f+1:=⟨gk - 1,by omega⟩
        have hz1:(un:Int)<(k:Int):=by omega
        have hz2:(0:Int)≤(un:Int):=by omega
        have KV:=Lib.hid (HV.out wr l1 n1 hn1 HIT.out.st.rd)
        obtain ⟨j,hj⟩:∃ j,k - un=j+1:=⟨k - un - 1,by omega⟩
        have HJ:=Lib.hid hj
        clear hbk hj
        go_wp2_with fail
        refine KV.out.mono ?_
        intro r W2 hp
        cases hv:V l1 n1 with
        | inr x =>
          rw [hv] at hp
          obtain ⟨rfl,l',d',n',h2⟩:=hp
          have H3:=Lib.hid (HIT.out.st.trans h2)
          have HE:Hid (R0=.inr x):=Lib.hid (by rw [HAR2.out,← HR1.out,HJ.out,pkItems_bad hv];rfl)
          clear h2 hv KV
          go_wp2_with fail
          exact ⟨rfl,ValP.no HE.out (ThrowP.mk H3.out)⟩
        | inl p =>
          obtain ⟨t,r2,n2⟩:=p
          rw [hv] at hp
          obtain ⟨x,rfl,hbare,hin,h2⟩:=hp
          have HE:Hid (pkItems V (k - (us++[x]).length) ((us++[x]).map MT.bare) r2 n2=R):=Lib.hid (by
            have e:k - (us++[x]).length=j:=by rw [List.length_append,HUN.out];simp;have:=HJ.out;omega
            rw [e,← HR1.out,HJ.out,pkItems_on hv,List.map_append,List.map_cons,List.map_nil,hbare])
          have HN2:=Lib.hid (HNN.out _ _ _ hn1 hv)
          have hon:=HIT.out.on h2
          have hlen:un<(us.map MT.c++List.replicate (k - us.length) zeroC).length:=by rw [List.length_append,List.length_map,List.length_replicate,HUN.out];omega
          obtain ⟨⟨q0,d0⟩,⟨q1,d1⟩,⟨q2,d2⟩,⟨q3,d3⟩,⟨q4,d4⟩,⟨q5,d5⟩,⟨q6,d6⟩,⟨q7,d7⟩⟩:=blk_olds hon.blk hlen
          have f0:=hon.blk.free (un*8);have f1:=hon.blk.free (un*8+1);have f2:=hon.blk.free (un*8+2);have f3:=hon.blk.free (un*8+3)
          have f4:=hon.blk.free (un*8+4);have f5:=hon.blk.free (un*8+5);have f6:=hon.blk.free (un*8+6);have f7:=hon.blk.free (un*8+7)
          have hadd:=HIT.out.add h2 hin (by rw [HUN.out];exact hlt)
          rw [HUN.out] at hadd
          have HADD:=Lib.hid hadd
          clear h2 hv KV hbare hin hon hlen hadd
          obtain ⟨xc,xm,xk,xv⟩:=x
          obtain ⟨k0,b0,ng,ma,mn,mc,ex,st,ka,kn,kc,xa,vn,xvc⟩:=xc
          dsimp only [MT.c,Cel.val]
          dsimp only [MT.c,put8] at HADD
          go_wp2_with fail
          go_roundg f
          case measure=>omega
          case rel=>exact ⟨us++[_],r2,n2,by rw [List.length_append,HUN.out];have h3:=HLE.out;have h4:un≤300:=(by omega);first | (go_num;done) | (simp [wrap64];omega),HADD.out,HN2.out,by rw [List.length_append,HUN.out];simp;omega,HE.out⟩
      · obtain rfl:un=k:=by omega
        have hz1:¬ (un:Int)<(un:Int):=by omega
        have HUK:=Lib.hid hul
        have HE:Hid (R0=.inl (barrC (us.map MT.bare),l1,n1)):=Lib.hid (by rw [HAR2.out,← HR1.out,Nat.sub_self];rfl)
        have harr:=HIT.out.arr HUN.out (by have:=HLE.out;omega)
        have hq1:=(HIT.out.kp (w.heap.size+1) (by omega) HSZ.out).trans HB1.out
        have hgne:w.heap.size+1 ≠ g:=by omega
        have HFIN:=Lib.hid (val_finP HIT.out.st (b:=w.heap.size+1) (by omega) hgne (by omega) HSZ.out harr (.int .i64 6) (.bool false) (.bool false) (.slice none 0 0) (.int .i64 0) (.string ⟨#[]⟩) (.slice none 0 0) (.slice (some ⟨wS.heap.size,0,none⟩) un un))
        have y0:wr.cell? ⟨w.heap.size+1,0,none⟩=some (.int .i64 0):=cellOf hq1 0 rfl
        have z0:=freeOf hq1 0
        have y1:wr.cell? ⟨w.heap.size+1,1,none⟩=some (.bool false):=cellOf hq1 1 rfl
        have z1:=freeOf hq1 1
        have y2:wr.cell? ⟨w.heap.size+1,2,none⟩=some (.bool false):=cellOf hq1 2 rfl
        have z2:=freeOf hq1 2
        have y3:wr.cell? ⟨w.heap.size+1,3,none⟩=some (.slice none 0 0):=cellOf hq1 3 rfl
        have z3:=freeOf hq1 3
        have y4:wr.cell? ⟨w.heap.size+1,4,none⟩=some (.int .i64 0):=cellOf hq1 4 rfl
        have z4:=freeOf hq1 4
        have y5:wr.cell? ⟨w.heap.size+1,5,none⟩=some (.string ⟨#[]⟩):=cellOf hq1 5 rfl
        have z5:=freeOf hq1 5
        have y6:wr.cell? ⟨w.heap.size+1,6,none⟩=some (.slice none 0 0):=cellOf hq1 6 rfl
        have z6:=freeOf hq1 6
        have y7:wr.cell? ⟨w.heap.size+1,7,none⟩=some (.slice none 0 0):=cellOf hq1 7 rfl
        have z7:=freeOf hq1 7
        clear harr hq1 hbk
        go_wp2_with fail
        refine bodyPost_ret (v:=.agg #[.int .i64 6,.bool false,.bool false,.slice none 0 0,.int .i64 0,.string ⟨#[]⟩,.slice none 0 0,.slice (some ⟨wS.heap.size,0,none⟩) un un]) (by simp [results,Tryz.results139,go_sem,y0,y1,y2,y3,y4,y5,y6,y7]) rfl ?_
        exact ValP.yes (arrT (some ⟨wS.heap.size,0,none⟩) un un us) HE.out rfl (barr_bare _ _ _ _ HUN.out) HFIN.out.1 HFIN.out.2
  · have H2:=Lib.hid (H1.out.more hb)
    have HE:Hid (R0=.inr 4):=Lib.hid (HAR.out.trans (if_pos hlt))
    clear hb KR hlt
    go_wp2_with fail
    exact ⟨rfl,ValP.no HE.out (ThrowP.mk H2.out)⟩
theorem obj_newP {w0:World} {g d n:Nat} {l:List Nat} {w wS:World} {VB NB:Nat} {m:Nat} {N:List ByteArray} {us:List MT} {W W':World} {g1 g2:Nat} (hK:ArP w0 g d n l w wS VB (fun q=>q=NB) m us W) (hm:m≤300) (hN:N.length=m) (hu:us.length=m) (hz:∀ s∈N,s.size≤2000)
    (q1:W.heap.size≤g1) (q2:W.heap.size≤g2) (hk1:BlkV W' g1 9 (sv (pickB N (srt Op.bytesLess (keyB N) 0 m)))) (hk2:BlkV W' g2 29 (flat (pickC (us.map MT.c) (srt Op.bytesLess (keyB N) 0 m)))) (hb:Below W.heap.size W W') :
    Ind (fun k=>k<wS.heap.size) W' (fun X=>Rep X (.mk (objC g1 g2 m) [] (pickB N (srt Op.bytesLess (keyB N) 0 m)) (pickUC us (srt Op.bytesLess (keyB N) 0 m)))):=by
  have hS:∀ p∈srt Op.bytesLess (keyB N) 0 m,p<m:=fun p hp=>by have:=srt_mem.1 hp;omega
  rw [pickUC_c us _ (fun p hp=>by have:=hS p hp;omega)] at hk2
  have hB:wS.heap.size≤W.heap.size:=Nat.le_trans hK.Bs (Nat.le_of_lt hK.blk.lt)
  intro X h1 h2
  have i1:=ind_rdv (X:=fun k=>k<wS.heap.size) hk1.all (fun a e hx=>by cases e;simp only at hx;omega) X h1 h2
  have i2:=ind_rdv (X:=fun k=>k<wS.heap.size) hk2.all (fun a e hx=>by cases e;simp only at hx;omega) X h1 h2
  have i3:=hK.ind X (Nat.le_trans hb.size h1) (fun k hk hx=>by
    rw [h2 k (Nat.lt_of_lt_of_le hk hb.size) (fun h=>hx (.inl h)),hb.block k hk])
  refine Rep.mk ⟨rfl,Nat.le_refl _,Okl.nil,Rd.nil _ _,?_,Nat.le_refl _,i1,?_,Nat.le_refl _,i2,⟨Nat.zero_le _,(by show m≤_;omega),(by show m≤_;omega)⟩,(by show ByteArray.empty.size≤_;exact Nat.zero_le _),?_,⟨(by show (-9223372036854775808:Int)≤0;decide),(by show (0:Int)≤9223372036854775807;decide)⟩,⟨(by show (-9223372036854775808:Int)≤7;decide),(by show (7:Int)≤9223372036854775807;decide)⟩⟩ ?_
  · show (pickB _ _).length=m;rw [pickB_len,srt_len]
  · show (pickUC _ _).length=m;unfold pickUC;rw [List.length_map,srt_len]
  · intro s hs
    change s∈pickB _ _ at hs
    unfold pickB at hs
    obtain ⟨p,hp,rfl⟩:=List.mem_map.1 hs
    have hp:=hS p hp
    have hpN:p<N.length:=by omega
    have e:N.getD p ByteArray.empty=N[p]:=by simp [List.getD,hpN]
    rw [e]
    have:=hz N[p] (List.getElem_mem _)
    unfold maxLen;omega
  · intro x hx
    exact i3 x (pickUC_mem (fun p hp=>by have:=hS p hp;omega) hx)
theorem pkBytes_le {k:Nat} {l s r:List Nat} (h:pkBytes k l=.inl (s,r)):s.length≤2000:=by
  unfold pkBytes at h
  split at h
  · cases h
  · split at h
    · cases h
    · simp only [Sum.inl.injEq,Prod.mk.injEq] at h
      rw [← h.1,List.length_take];omega
theorem pkText_le {k:Nat} {l s r:List Nat} (h:pkText k l=.inl (s,r)):s.length≤2000:=by
  unfold pkText at h
  split at h
  · cases h
  · rename_i p q e
    split at h
    · simp only [Sum.inl.injEq,Prod.mk.injEq] at h
      rw [← h.1];exact pkBytes_le e
    · cases h
theorem pkName_le {l s r:List Nat} (h:pkName l=.inl (s,r)):s.length≤2000:=by
  unfold pkName at h
  split at h
  · cases h
  · split at h
    · cases h
    · exact pkText_le h
theorem pkObj_eq {V:List Nat→Nat→RC MT} {k:Nat} {l:List Nat} {n:Nat} {R:RC (List ByteArray × List MT)} (hR:pkMembers V k [] [] l n=R):pkObj V k l n=if 300<k then .inr 4 else obW R:=by
  unfold pkObj;rw [hR]
  split
  · rfl
  · cases R with
    | inr x=>rfl
    | inl p=>obtain ⟨⟨ks,us⟩,r,n⟩:=p;rfl
theorem pkMem_name {V:List Nat→Nat→RC MT} {f n:Nat} {ks:List ByteArray} {us:List MT} {l:List Nat} {x:Int} (h2:pkName l=.inr x):pkMembers V (f+1) ks us l n=.inr x:=by
  rw [pkMembers,h2]
theorem pkMem_bad {V:List Nat→Nat→RC MT} {f n:Nat} {ks:List ByteArray} {us:List MT} {l s r2:List Nat} {x:Int} (h2:pkName l=.inl (s,r2)) (h3:V r2 n=.inr x):pkMembers V (f+1) ks us l n=.inr x:=by
  rw [pkMembers,h2];simp only;rw [h3]
theorem pkMem_on {V:List Nat→Nat→RC MT} {f n n2:Nat} {ks:List ByteArray} {us:List MT} {l s r2 r3:List Nat} {t:MT} (h2:pkName l=.inl (s,r2)) (h3:V r2 n=.inl (t,r3,n2)):pkMembers V (f+1) ks us l n=pkMembers V f (ks++[strB s]) (us++[t]) r3 n2:=by
  rw [pkMembers,h2];simp only;rw [h3]
theorem ArP.nm {w0:World} {g d n:Nat} {l:List Nat} {w wS:World} {VB NB:Nat} {k:Nat} {us:List MT} {W:World} (h:ArP w0 g d n l w wS VB (fun q=>q=NB) k us W) (hN:wS.heap.size≤NB) (hne:NB ≠ VB) (o:Nat) (v:Value):ArP w0 g d n l w wS VB (fun q=>q=NB) k us (W.setCell ⟨NB,o,none⟩ v):=by
  have hlow:=h.low;have hgB:=h.gB;have hw0:=h.w0w
  refine ⟨h.st.fresh (by omega) (by omega) (by omega) _ _,h.low,h.gB,h.w0w,h.Bs,?_,h.ul,fun q hq=>by have:=h.Xl q hq;simpa [World.setCell] using this,h.ind.to (by simp [World.setCell]) (fun q hq hx=>set_otherC (fun e=>hx (.inr (.inr e)))) (fun _ _ h=>h) (fun _ h=>h),fun q h1 h2=>(set_otherC (by omega)).trans (h.kp q h1 h2)⟩
  exact (set_otherC (fun e=>hne e.symm)).trans h.blk
structure NmP (NB k:Nat) (ks:List ByteArray) (W:World):Prop where
  blk:BlkV W NB 9 (sv ks++List.replicate (k - ks.length) (.string ByteArray.empty))
  kl:ks.length≤k
theorem NmP.cell {NB k:Nat} {ks:List ByteArray} {W:World} (h:NmP NB k ks W) (hk:ks.length<k):W.cell? ⟨NB,ks.length,none⟩=some (.string ByteArray.empty):=by
  rw [h.blk.cell,List.getElem?_append_right (by rw [sv_len];exact Nat.le_refl _),sv_len,Nat.sub_self]
  obtain ⟨j,hj⟩:∃ j,k - ks.length=j+1:=⟨k - ks.length - 1,by omega⟩
  rw [hj];rfl
theorem NmP.add {NB k:Nat} {ks:List ByteArray} {W:World} (h:NmP NB k ks W) (hk:ks.length<k) (s:ByteArray):NmP NB k (ks++[s]) (W.setCell ⟨NB,ks.length,none⟩ (.string s)):=by
  refine ⟨?_,by rw [List.length_append];exact hk⟩
  have:=h.blk.set ks.length (.string s)
  obtain ⟨j,hj⟩:∃ j,k - ks.length=j+1:=⟨k - ks.length - 1,by omega⟩
  have hj2:k - (ks++[s]).length=j:=by rw [List.length_append];simp only [List.length_cons,List.length_nil];omega
  rw [hj,List.replicate_succ,list_setP (sv ks) (List.replicate j _) _ (.string s) ks.length (sv_len _)] at this
  rw [hj2]
  have e:sv (ks++[s])=sv ks++[.string s]:=by simp [sv]
  rw [e];exact this
theorem NmP.on {NB k:Nat} {ks:List ByteArray} {W W':World} (h:NmP NB k ks W) {g:Nat} (hb:But g W W') (hg:NB ≠ g):NmP NB k ks W' :=
  ⟨(hb.block NB h.blk.lt hg).trans h.blk,h.kl⟩
theorem NmP.put {NB k VB:Nat} {ks:List ByteArray} {W:World} (h:NmP NB k ks W) (hne:NB ≠ VB) (o:Nat) (c:Cel):NmP NB k ks (put8 W VB o c):=h.on (put8_but W VB o c) hne
theorem NmP.rd {NB k:Nat} {ks:List ByteArray} {W:World} (h:NmP NB k ks W) (hk:ks.length=k):RdV W (some ⟨NB,0,none⟩) (sv ks):=by
  have:=h.blk.all
  rwa [hk,Nat.sub_self,List.replicate_zero,List.append_nil] at this
theorem make_treesW (n:Nat) (hn:n≤1000) (W:World):(Instr.makeSlice 27 (.int .u64 (n:Int)) (.int .u64 (n:Int))).run Tryz.prog W=.ok (.slice (some ⟨W.heap.size,0,none⟩) n n) (W.alloc (.cells (flat (List.replicate n zeroC)).toArray 29)):=by
  obtain ⟨i0,hi,hz0,hz1,hz2⟩:=info_parts info_tree
  have hr:=run_make (P:=Tryz.prog) W 27 29 i0 zeroC.val Tryz.underlying27 hi hz0 .u64 .u64 n n (by omega) (Int.le_refl _) (by rw [hz2];omega) (by omega)
  simp only [Int.toNat_natCast,hz1] at hr
  rw [hr,← made_trees]
theorem make_strsW (n:Nat) (hn:n≤1000) (W:World):(Instr.makeSlice 26 (.int .u64 (n:Int)) (.int .u64 (n:Int))).run Tryz.prog W=.ok (.slice (some ⟨W.heap.size,0,none⟩) n n) (W.alloc (.cells (madeCells #[.string ByteArray.empty] n) 9)) :=
  run_make_row' (P:=Tryz.prog) 26 9 (.string ByteArray.empty) 16 Tryz.underlying26 info_string rfl .u64 .u64 n (by omega) (by omega) W
structure CutO (wS:World) (k:Nat) (p v:Value) (W:World):Prop where
  ex:∃ NB VB,p=.slice (some ⟨NB,0,none⟩) k k∧v=.slice (some ⟨VB,0,none⟩) k k∧NB ≠ VB∧wS.heap.size≤NB∧wS.heap.size≤VB∧NmP NB k [] W∧BlkV W VB 29 (flat (List.replicate k zeroC))∧Below wS.heap.size wS W
theorem CutO.drew {wS:World} {k:Nat} {p v:Value} {W:World} (h:CutO wS k p v W):CutO wS k p v W.drew:=by
  obtain ⟨⟨a,b,c1,c2,c3,c4,c5,c6,c7,c8⟩⟩:=h
  exact ⟨⟨a,b,c1,c2,c3,c4,c5,⟨c6.blk,c6.kl⟩,c7,below_drew c8⟩⟩
theorem nmP_new (w:World) (k:Nat):NmP w.heap.size k [] (w.alloc (.cells (madeCells #[.string ByteArray.empty] k) 9)):=by
  refine ⟨?_,Nat.zero_le _⟩
  have:=made_blk w (.string ByteArray.empty) k 9
  simpa [sv] using this
def ObRelP (w0:World) (g d:Nat) (w wS:World) (NB VB:Nat) (V:List Nat→Nat→RC MT) (k:Nat) (R:RC (List ByteArray × List MT)) (gk:Nat) (v:Value) (wr:World):Prop :=
  ∃ (ks:List ByteArray) (us:List MT) (l:List Nat) (n:Nat),v=.int .i64 (us.length:Int)∧ks.length=us.length∧ArP w0 g d n l w wS VB (fun q=>q=NB) k us wr∧NmP NB k ks wr∧(∀ s∈ks,s.size≤2000)∧n≤2000∧k - us.length≤gk∧pkMembers V (k - us.length) ks (us.map MT.bare) l n=R
theorem object_pk {w0:World} (hU:UT w0) {g d:Nat} (V:List Nat→Nat→RC MT) (hV:ValPC w0 g d V) (hN:NdC V) {l:List Nat} {n:Nat} {w:World} (hr:RdP w0 g l d n w) (m k:Nat) (hkk:k<18446744073709551616) (hn:n≤2000) :
    Calls Tryz.prog 140 #[.pointer (some ⟨g,0,none⟩),hmV (m,k)] w (ValP w0 g d (pkObj V k l n) w):=by
  have hg:=hr.lt
  have hlow:=hr.env.size
  obtain ⟨W1,hW1⟩:∃ x,(w.alloc (.cells #[.int .i64 (m:Int),.int .u64 (k:Int)] 129)).alloc (.cells #[.int .i64 0,.bool false,.bool false,.slice none 0 0,.int .i64 0,.string ⟨#[]⟩,.slice none 0 0,.slice none 0 0] 29)=x:=⟨_,rfl⟩
  have hb1:Below w.heap.size w W1:=by rw [← hW1];exact ((Below.refl _ _).alloc (Nat.le_refl _) _).alloc (by simp) _
  have hq0:W1.heap[w.heap.size]? = some (.cells #[.int .i64 (m:Int),.int .u64 (k:Int)] 129):=by
    rw [← hW1]
    exact (Below.heap_alloc _ _ _ (by simp)).trans (heap_alloc_new w _)
  have hq1:W1.heap[w.heap.size+1]? = some (.cells #[.int .i64 0,.bool false,.bool false,.slice none 0 0,.int .i64 0,.string ⟨#[]⟩,.slice none 0 0,.slice none 0 0] 29):=by
    rw [← hW1]
    have:=heap_alloc_new (w.alloc (.cells #[.int .i64 (m:Int),.int .u64 (k:Int)] 129)) (.cells #[.int .i64 0,.bool false,.bool false,.slice none 0 0,.int .i64 0,.string ⟨#[]⟩,.slice none 0 0,.slice none 0 0] 29)
    simpa using this
  have hs1:W1.heap.size=w.heap.size+2:=by rw [← hW1];simp
  have H1:=Lib.hid (StP.of_below hr hb1)
  have HQ0:=Lib.hid hq0;have HQ1:=Lib.hid hq1;have HS1:=Lib.hid hs1
  have KR:=Lib.hid (refuse_pk m k 300 W1)
  have HV:=Lib.hid hV
  have HNN:=Lib.hid hN
  have HU:=Lib.hid hU
  have HW1:=Lib.hid hW1
  obtain ⟨R0,hR0⟩:∃ R0,pkObj V k l n=R0:=⟨_,rfl⟩
  obtain ⟨R,hR⟩:∃ R,pkMembers V k [] [] l n=R:=⟨_,rfl⟩
  have HAR:Hid (R0=if 300<k then .inr 4 else obW R):=Lib.hid (hR0.symm.trans (pkObj_eq hR))
  rw [hR0]
  have HR:=Lib.hid hR
  have HY0:W1.cell? ⟨w.heap.size,0,none⟩=some (.int .i64 (m:Int)):=cellOf hq0 0 rfl
  have HY1:W1.cell? ⟨w.heap.size,1,none⟩=some (.int .u64 (k:Int)):=cellOf hq0 1 rfl
  dsimp only [hmV]
  clear hr hb1 hV hN hR0 hR hq0 hq1 hs1 hW1 hU
  go_enter Tryz.func140,Tryz.ntmps140
  go_upto_region 1 with fail
  rw [HW1.out]
  go_wp2_with fail
  refine KR.out.mono ?_
  rintro r wS ⟨hb,⟨hle,rfl⟩ | ⟨hlt,rfl⟩⟩
  · have H2:=Lib.hid (H1.out.more hb)
    have hs2:=hb.size
    have HB0:=Lib.hid ((hb.block w.heap.size (by have:=HS1.out;omega)).trans HQ0.out)
    have HB1:=Lib.hid ((hb.block (w.heap.size+1) (by have:=HS1.out;omega)).trans HQ1.out)
    have HSZ:=Lib.hid (show w.heap.size+1<wS.heap.size by have:=HS1.out;omega)
    have HLE:=Lib.hid hle
    have HAR2:Hid (R0=obW R):=Lib.hid (HAR.out.trans (if_neg (by omega)))
    have yk:wS.cell? ⟨w.heap.size,1,none⟩=some (.int .u64 (k:Int)):=cellOf HB0.out 1 rfl
    clear hb hle KR HY0 HY1 hs2
    go_upto_region 2 with fail
    go_cut [5,6] from 13 to 18 (fun p v W=>CutO wS k p v W)
    case first =>
      rename_i J K hJ hK
      have HJ:=Lib.hid hJ
      clear hJ
      have hmt:=fun W=>make_treesW k (by have:=HLE.out;omega) W
      have hms:=fun W=>make_strsW k (by have:=HLE.out;omega) W
      have hb1:∀ W o,Below W.heap.size W (W.alloc o):=fun W o=>(Below.refl _ _).alloc (Nat.le_refl _) _
      have HF1:Hid (CutO wS k (.slice (some ⟨wS.heap.size,0,none⟩) k k) (.slice (some ⟨wS.heap.size+1,0,none⟩) k k) ((wS.alloc (.cells (madeCells #[.string ByteArray.empty] k) 9)).alloc (.cells (flat (List.replicate k zeroC)).toArray 29))):=Lib.hid (by
        have hs:(wS.alloc (.cells (madeCells #[.string ByteArray.empty] k) 9)).heap.size=wS.heap.size+1:=by simp
        refine ⟨⟨wS.heap.size,wS.heap.size+1,rfl,rfl,by omega,Nat.le_refl _,by omega,?_,?_,?_⟩⟩
        · exact ⟨((hb1 _ _).block wS.heap.size (by simp)).trans (nmP_new wS k).blk,Nat.zero_le _⟩
        · rw [← hs];exact heap_alloc_new _ _
        · exact (hb1 _ _).trans ((hb1 _ _).mono (by simp)))
      have HF2:Hid (CutO wS k (.slice (some ⟨wS.heap.size+1,0,none⟩) k k) (.slice (some ⟨wS.heap.size,0,none⟩) k k) ((wS.alloc (.cells (flat (List.replicate k zeroC)).toArray 29)).alloc (.cells (madeCells #[.string ByteArray.empty] k) 9))):=Lib.hid (by
        have hs:(wS.alloc (.cells (flat (List.replicate k zeroC)).toArray 29)).heap.size=wS.heap.size+1:=by simp
        refine ⟨⟨wS.heap.size+1,wS.heap.size,rfl,rfl,by omega,by omega,Nat.le_refl _,?_,?_,?_⟩⟩
        · rw [← hs];exact nmP_new _ k
        · exact ((hb1 _ _).block wS.heap.size (by simp)).trans (heap_alloc_new _ _)
        · exact (hb1 _ _).trans ((hb1 _ _).mono (by simp)))
      have yk1:(wS.alloc (.cells (madeCells #[.string ByteArray.empty] k) 9)).cell? ⟨w.heap.size,1,none⟩=some (.int .u64 (k:Int)):=((hb1 wS (.cells (madeCells #[.string ByteArray.empty] k) 9)).cell (p:=⟨w.heap.size,1,none⟩) (by have:=HSZ.out;simp only;omega)).trans yk
      have yk2:(wS.alloc (.cells (flat (List.replicate k zeroC)).toArray 29)).cell? ⟨w.heap.size,1,none⟩=some (.int .u64 (k:Int)):=((hb1 wS (.cells (flat (List.replicate k zeroC)).toArray 29)).cell (p:=⟨w.heap.size,1,none⟩) (by have:=HSZ.out;simp only;omega)).trans yk
      clear hb1
      generalize (flat (List.replicate k zeroC)).toArray=FT at *
      generalize madeCells #[.string ByteArray.empty] k=FS at *
      go_region
      all_goals
        refine hK _ _ (HJ.out _ _ ?_)
        (repeat apply Exists.intro)
        first
        | exact ⟨HF1.out.drew,rfl⟩
        | exact ⟨HF2.out.drew,rfl⟩
    case rest =>
      obtain ⟨⟨NB,VB,rfl,rfl,hne,hN1,hV1,hnm0,hbk0,hbl0⟩⟩:=hcut
      have hst:ArP w0 g d n l w wS VB (fun q=>q=NB) k [] wc:=⟨H2.out.more hbl0,H2.out.oth.size,hg,hlow,hV1,by simpa using hbk0,Nat.zero_le _,fun q hq=>by rw [hq];exact hnm0.blk.lt,fun W _ _=>nofun,fun q _ h2=>hbl0.block q h2⟩
      have HST:=Lib.hid (show ObRelP w0 g d w wS NB VB V k R k (.int .i64 0) wc from ⟨[],[],l,n,rfl,rfl,hst,hnm0,nofun,hn,by simp,HR.out⟩)
      have HNE:=Lib.hid hne;have HN1:=Lib.hid hN1;have HV1:=Lib.hid hV1
      clear hst hnm0 hbk0 hbl0 yk hne hN1 hV1
      go_wp2_with fail
      go_loopg [21] k (fun gk v wr=>ObRelP w0 g d w wS NB VB V k R gk v wr)
      case atStart=>exact HST.out
      case round =>
        clear HST
        obtain ⟨ks,us,l1,n1,rfl,hkl,hit,hnm,hss,hn1,hgk,hR1⟩:=hrel
        have HIT:=Lib.hid hit
        have HNM:=Lib.hid hnm
        have HSS:=Lib.hid hss
        have HR1:=Lib.hid hR1
        have hul:=hit.ul
        clear hit hnm hss hR1
        generalize hun:us.length=un at *
        have HUN:=Lib.hid hun
        have HKL:=Lib.hid hkl
        clear hun hkl
        by_cases hlt:un<k
        · obtain ⟨f,rfl⟩:∃ f,gk=f+1:=⟨gk - 1,by omega⟩
          have hz1:(un:Int)<(k:Int):=by omega
          have hz2:(0:Int)≤(un:Int):=by omega
          have KN:=Lib.hid (name_pk HU.out HIT.out.st.rd)
          obtain ⟨j,hj⟩:∃ j,k - un=j+1:=⟨k - un - 1,by omega⟩
          have HJ:=Lib.hid hj
          clear hj
          go_wp2_with fail
          refine KN.out.mono ?_
          intro r W2 hp
          cases hnq:pkName l1 with
          | inr x =>
            rw [hnq] at hp
            obtain ⟨rfl,l',d',n',h2⟩:=hp
            have H3:=Lib.hid (HIT.out.st.trans h2)
            have HE:Hid (R0=.inr x):=Lib.hid (by rw [HAR2.out,← HR1.out,HJ.out,pkMem_name hnq];rfl)
            clear h2 hnq KN
            go_wp2_with fail
            exact ⟨rfl,ValP.no HE.out (ThrowP.mk H3.out)⟩
          | inl p =>
            obtain ⟨s,r2⟩:=p
            rw [hnq] at hp
            obtain ⟨rfl,h2⟩:=hp
            have HNQ:=Lib.hid hnq
            have HSL:=Lib.hid (show (strB s).size≤2000 by rw [strB_size];exact pkName_le hnq)
            have hgN:NB ≠ g:=by have:=HN1.out;have:=HIT.out.gB;have:=HIT.out.low;omega
            have hnm2:=HNM.out.on h2.oth hgN
            have hcell:=hnm2.cell (by rw [HKL.out];exact hlt)
            have hfree:=hnm2.blk.free ks.length
            have hnm3:=hnm2.add (by rw [HKL.out];exact hlt) (strB s)
            have har3:=(HIT.out.on h2).nm HN1.out HNE.out ks.length (.string (strB s))
            rw [HKL.out] at hcell hfree hnm3 har3
            have HNM3:=Lib.hid hnm3
            have HAR3:=Lib.hid har3
            dsimp only [strV]
            have HSS1:Hid (∀ q∈ks++[strB s],q.size≤2000):=Lib.hid (fun q hq=>(List.mem_append.1 hq).elim (HSS.out q) (fun h=>by rw [List.mem_singleton.1 h];exact HSL.out))
            clear h2 hnq KN hnm2 hnm3 har3
            generalize hsb:strB s=sb at *
            have HSB:=Lib.hid hsb
            clear hsb
            have KV:=Lib.hid (HV.out _ r2 n1 hn1 HAR3.out.st.rd)
            go_wp2_with fail
            refine KV.out.mono ?_
            intro r W6 hp
            cases hv:V r2 n1 with
            | inr x =>
              rw [hv] at hp
              obtain ⟨rfl,l',d',n',h2⟩:=hp
              have H3:=Lib.hid (HAR3.out.st.trans h2)
              have HE:Hid (R0=.inr x):=Lib.hid (by rw [HAR2.out,← HR1.out,HJ.out,pkMem_bad HNQ.out hv];rfl)
              clear h2 hv KV hcell hfree
              go_wp2_with fail
              exact ⟨rfl,ValP.no HE.out (ThrowP.mk H3.out)⟩
            | inl p =>
              obtain ⟨t,r3,n2⟩:=p
              rw [hv] at hp
              obtain ⟨x,rfl,hbare,hin,h2⟩:=hp
              have HE:Hid (pkMembers V (k - (us++[x]).length) (ks++[sb]) ((us++[x]).map MT.bare) r3 n2=R):=Lib.hid (by
                have e:k - (us++[x]).length=j:=by rw [List.length_append,HUN.out];simp;have:=HJ.out;omega
                rw [e,← HR1.out,HJ.out,pkMem_on HNQ.out hv,List.map_append,List.map_cons,List.map_nil,hbare,HSB.out])
              have HN2:=Lib.hid (HNN.out _ _ _ hn1 hv)
              have hon:=HAR3.out.on h2
              have hlen:un<(us.map MT.c++List.replicate (k - us.length) zeroC).length:=by rw [List.length_append,List.length_map,List.length_replicate,HUN.out];omega
              obtain ⟨⟨q0,d0⟩,⟨q1,d1⟩,⟨q2,d2⟩,⟨q3,d3⟩,⟨q4,d4⟩,⟨q5,d5⟩,⟨q6,d6⟩,⟨q7,d7⟩⟩:=blk_olds hon.blk hlen
              have f0:=hon.blk.free (un*8);have f1:=hon.blk.free (un*8+1);have f2:=hon.blk.free (un*8+2);have f3:=hon.blk.free (un*8+3)
              have f4:=hon.blk.free (un*8+4);have f5:=hon.blk.free (un*8+5);have f6:=hon.blk.free (un*8+6);have f7:=hon.blk.free (un*8+7)
              have hadd:=HAR3.out.add h2 hin (by rw [HUN.out];exact hlt)
              have hnm6:=((HNM3.out.on h2.oth hgN).put HNE.out (us.length*8) x.c)
              rw [HUN.out] at hadd hnm6
              have HADD:=Lib.hid hadd
              have HNM6:=Lib.hid hnm6
              clear h2 hv KV hbare hin hon hlen hadd hnm6 hcell hfree
              obtain ⟨xc,xm,xk,xv⟩:=x
              obtain ⟨k0,b0,ng,ma,mn,mc,ex,st,ka,kn,kc,xa,vn,xvc⟩:=xc
              dsimp only [MT.c,Cel.val]
              dsimp only [MT.c,put8] at HADD HNM6
              go_wp2_with fail
              go_roundg f
              case measure=>omega
              case rel=>exact ⟨ks++[sb],us++[_],r3,n2,by rw [List.length_append,HUN.out];have h3:=HLE.out;have h4:un≤300:=(by omega);first | (go_num;done) | (simp [wrap64];omega),by rw [List.length_append,List.length_append,HUN.out,HKL.out];rfl,HADD.out,HNM6.out,HSS1.out,HN2.out,by rw [List.length_append,HUN.out];simp;omega,HE.out⟩
        · obtain rfl:un=k:=by omega
          have hz1:¬ (un:Int)<(un:Int):=by omega
          have HE:Hid (R0=obW (.inl ((ks,us.map MT.bare),l1,n1))):=Lib.hid (by rw [HAR2.out,← HR1.out,Nat.sub_self];rfl)
          have hkr:=HNM.out.rd HKL.out
          have hvr:=HIT.out.rep HUN.out (by have:=HLE.out;omega) (fun q hq=>by rw [hq];exact HN1.out)
          have KO:=Lib.hid (object_core (some ⟨NB,0,none⟩) un un un ks (some ⟨VB,0,none⟩) un un (us.map MT.c) wr (Nat.le_refl _) (by have:=HLE.out;omega) HKL.out hkr (by rw [List.length_map,HUN.out]) (Nat.le_refl _) (by have:=HLE.out;omega) hvr (.inl ⟨Nat.le_refl _,rfl⟩))
          have HQ1b:=Lib.hid ((HIT.out.kp (w.heap.size+1) (by omega) HSZ.out).trans HB1.out)
          have hgne:w.heap.size+1 ≠ g:=by omega
          clear hkr hvr
          go_wp2_with fail
          refine KO.out.mono ?_
          rintro r2 W2 ⟨lo,fl,hT,hp1,hp2⟩
          cases fl with
          | true =>
            obtain ⟨hr2,hb2⟩:=hp2 rfl
            obtain rfl:r2=.returned (.tuple #[.agg #[.int .i64 0,.bool false,.bool false,.slice none 0 0,.int .i64 0,.string ⟨#[]⟩,.slice none 0 0,.slice none 0 0],.int .i64 (lo:Int),.bool false]):=hr2
            have HX:=Lib.hid (HIT.out.st.more hb2)
            have HEE:Hid (R0=.inr 2):=Lib.hid (by
              rw [HE.out]
              unfold obW
              simp only
              rw [if_neg (fun h=>by have:=(twc_nodup (n:=un) HKL.out hT).2 h;cases this)])
            clear hT hp1 hp2 hb2 KO
            go_wp2_with fail
            exact ⟨rfl,ValP.no HEE.out (ThrowP.mk (HX.out.alloc _))⟩
          | false =>
            obtain ⟨g1,g2,hr2,q1,q2,hk1,hk2,hb2⟩:=hp1 rfl
            obtain rfl:r2=.returned (.tuple #[.agg #[.int .i64 7,.bool false,.bool false,.slice none 0 0,.int .i64 0,.string ⟨#[]⟩,.slice (some ⟨g1,0,none⟩) un un,.slice (some ⟨g2,0,none⟩) un un],.int .i64 0,.bool true]):=hr2
            have HND:Hid (R0=.inl (bobjC ((sortC ks).map fun i=>ks.getD i ByteArray.empty) ((sortC ks).map fun i=>(us.map MT.bare).getD i (leafT 0 false ⟨#[]⟩)),l1,n1)):=Lib.hid (by
              rw [HE.out]
              unfold obW
              simp only
              rw [if_pos ((twc_nodup (n:=un) HKL.out hT).1 rfl)])
            have hind:=obj_newP HIT.out (m:=un) HLE.out HKL.out HUN.out HSS.out q1 q2 hk1 hk2 hb2
            obtain ⟨W3,hW3⟩:∃ V,W2.alloc (.cells #[.int .i64 7,.bool false,.bool false,.slice none 0 0,.int .i64 0,.string ⟨#[]⟩,.slice (some ⟨g1,0,none⟩) un un,.slice (some ⟨g2,0,none⟩) un un] 29)=V:=⟨_,rfl⟩
            have hal:Below W2.heap.size W2 W3:=by rw [← hW3];exact (Below.refl _ _).alloc (Nat.le_refl _) _
            have hst:=(HIT.out.st.more hb2).more hal
            have hq2:=(hb2.block _ (Array.getElem?_eq_some_iff.1 HQ1b.out).1).trans HQ1b.out
            have hq1:=(hal.block _ (Array.getElem?_eq_some_iff.1 hq2).1).trans hq2
            have HFIN:=Lib.hid (val_finP hst (b:=w.heap.size+1) (by omega) hgne (by omega) HSZ.out (hind.below hal) (.int .i64 7) (.bool false) (.bool false) (.slice none 0 0) (.int .i64 0) (.string ⟨#[]⟩) (.slice (some ⟨g1,0,none⟩) un un) (.slice (some ⟨g2,0,none⟩) un un))
            have hnb:W3.heap[W2.heap.size]? = some (.cells #[.int .i64 7,.bool false,.bool false,.slice none 0 0,.int .i64 0,.string ⟨#[]⟩,.slice (some ⟨g1,0,none⟩) un un,.slice (some ⟨g2,0,none⟩) un un] 29):=by rw [← hW3];exact heap_alloc_new W2 _
            have hn5:¬ W2.heap.size=w.heap.size+1:=by have:=(Array.getElem?_eq_some_iff.1 hq2).1;omega
            have hn6:¬ w.heap.size+1=W2.heap.size:=fun e=>hn5 e.symm
            have y0:W3.cell? ⟨w.heap.size+1,0,none⟩=some (.int .i64 0):=cellOf hq1 0 rfl
            have z0:=freeOf hq1 0
            have y1:W3.cell? ⟨w.heap.size+1,1,none⟩=some (.bool false):=cellOf hq1 1 rfl
            have z1:=freeOf hq1 1
            have y2:W3.cell? ⟨w.heap.size+1,2,none⟩=some (.bool false):=cellOf hq1 2 rfl
            have z2:=freeOf hq1 2
            have y3:W3.cell? ⟨w.heap.size+1,3,none⟩=some (.slice none 0 0):=cellOf hq1 3 rfl
            have z3:=freeOf hq1 3
            have y4:W3.cell? ⟨w.heap.size+1,4,none⟩=some (.int .i64 0):=cellOf hq1 4 rfl
            have z4:=freeOf hq1 4
            have y5:W3.cell? ⟨w.heap.size+1,5,none⟩=some (.string ⟨#[]⟩):=cellOf hq1 5 rfl
            have z5:=freeOf hq1 5
            have y6:W3.cell? ⟨w.heap.size+1,6,none⟩=some (.slice none 0 0):=cellOf hq1 6 rfl
            have z6:=freeOf hq1 6
            have y7:W3.cell? ⟨w.heap.size+1,7,none⟩=some (.slice none 0 0):=cellOf hq1 7 rfl
            have z7:=freeOf hq1 7
            have x0:W3.cell? ⟨W2.heap.size,0,none⟩=some (.int .i64 7):=cellOf hnb 0 rfl
            have x1:W3.cell? ⟨W2.heap.size,1,none⟩=some (.bool false):=cellOf hnb 1 rfl
            have x2:W3.cell? ⟨W2.heap.size,2,none⟩=some (.bool false):=cellOf hnb 2 rfl
            have x3:W3.cell? ⟨W2.heap.size,3,none⟩=some (.slice none 0 0):=cellOf hnb 3 rfl
            have x4:W3.cell? ⟨W2.heap.size,4,none⟩=some (.int .i64 0):=cellOf hnb 4 rfl
            have x5:W3.cell? ⟨W2.heap.size,5,none⟩=some (.string ⟨#[]⟩):=cellOf hnb 5 rfl
            have x6:W3.cell? ⟨W2.heap.size,6,none⟩=some (.slice (some ⟨g1,0,none⟩) un un):=cellOf hnb 6 rfl
            have x7:W3.cell? ⟨W2.heap.size,7,none⟩=some (.slice (some ⟨g2,0,none⟩) un un):=cellOf hnb 7 rfl
            have HW3:=Lib.hid hW3
            clear hT hp1 hp2 hb2 KO q1 q2 hk1 hk2 hind hal hst hq1 hq2 hnb hW3
            go_upto_region 10 with fail
            rw [HW3.out]
            go_wp2_with fail
            refine bodyPost_ret (v:=.agg #[.int .i64 7,.bool false,.bool false,.slice none 0 0,.int .i64 0,.string ⟨#[]⟩,.slice (some ⟨g1,0,none⟩) un un,.slice (some ⟨g2,0,none⟩) un un]) (by simp [results,Tryz.results140,go_sem,y0,y1,y2,y3,y4,y5,y6,y7,hn5,hn6]) rfl ?_
            exact ValP.yes _ HND.out rfl (obj_bareC g1 g2 HKL.out HUN.out) HFIN.out.1 HFIN.out.2
  · have H2:=Lib.hid (H1.out.more hb)
    have HE:Hid (R0=.inr 4):=Lib.hid (HAR.out.trans (if_pos hlt))
    clear hb KR hlt
    go_wp2_with fail
    exact ⟨rfl,ValP.no HE.out (ThrowP.mk H2.out)⟩
end Go.Proofs.YtnacbakcalcgaaaGreatDoor
