/- Texts of the claim. -/
import Derived.Test.YtnacbakcalcgaaaGreatDoorVI
set_option linter.unusedVariables false
set_option linter.unusedSimpArgs false
set_option maxHeartbeats 8000000
set_option maxRecDepth 100000
namespace Go.Proofs.YtnacbakcalcgaaaGreatDoor
open Go.RowKit Go.Lib Go.Sort
theorem obj_newP {w0:World} {g d n:Nat} {l:List Nat} {w wS:World} {VB NB:Nat} {m:Nat} {N:List ByteArray} {us:List MT} {W W':World} {g1 g2:Nat} (hK:ArP w0 g d n l w wS VB (fun q=>q=NB) m us W) (hm:m≤300) (hN:N.length=m) (hu:us.length=m) (hz:∀ s∈N,s.size≤2000)
    (q1:W.heap.size≤g1) (q2:W.heap.size≤g2) (hk1:BlkV W' g1 9 (sv (pickB N (srt Op.bytesLess (keyB N) 0 m)))) (hk2:BlkV W' g2 29 (flat (pickC (us.map MT.c) (srt Op.bytesLess (keyB N) 0 m)))) (hb:Below W.heap.size W W') :
    Ind (fun k=>k<wS.heap.size) W' (fun X=>Rep X (.mk (objC g1 g2 m) [] (pickB N (srt Op.bytesLess (keyB N) 0 m)) (pickUC us (srt Op.bytesLess (keyB N) 0 m)))):=by
  have hS:∀ p∈srt Op.bytesLess (keyB N) 0 m,p<m:=fun p hp=>by have:=srt_mem.1 hp;omega
  rw [pickUC_c us _ (fun p hp=>by have:=hS p hp;omega)] at hk2
  have hB:wS.heap.size≤W.heap.size:=Nat.le_trans hK.Bs (Nat.le_of_lt hK.blk.lt)
  intro X h1 h2
  have i1:=ind_rdv (X:=fun k=>k<wS.heap.size) hk1.all (fun a e hx=>by cases e;simp only at hx;omega) X h1 h2
  have i2:=ind_rdv (X:=fun k=>k<wS.heap.size) hk2.all (fun a e hx=>by cases e;simp only at hx;omega) X h1 h2
  have i3:=hK.ind X (Nat.le_trans hb.size h1) (fun k hk hx=>by
    rw [h2 k (Nat.lt_of_lt_of_le hk hb.size) (fun h=>hx (.inl h)),hb.block k hk])
  refine Rep.mk ⟨rfl,Nat.le_refl _,Okl.nil,Rd.nil _ _,?_,Nat.le_refl _,i1,?_,Nat.le_refl _,i2,⟨Nat.zero_le _,(by show m≤_;omega),(by show m≤_;omega)⟩,(by show ByteArray.empty.size≤_;exact Nat.zero_le _),?_,⟨(by show (-9223372036854775808:Int)≤0;decide),(by show (0:Int)≤9223372036854775807;decide)⟩,⟨(by show (-9223372036854775808:Int)≤7;decide),(by show (7:Int)≤9223372036854775807;decide)⟩⟩ ?_
  · show (pickB _ _).length=m;rw [pickB_len,srt_len]
  · show (pickUC _ _).length=m;unfold pickUC;rw [List.length_map,srt_len]
  · intro s hs
    change s∈pickB _ _ at hs
    unfold pickB at hs
    obtain ⟨p,hp,rfl⟩:=List.mem_map.1 hs
    have hp:=hS p hp
    have hpN:p<N.length:=by omega
    have e:N.getD p ByteArray.empty=N[p]:=by simp [List.getD,hpN]
    rw [e]
    have:=hz N[p] (List.getElem_mem _)
    unfold maxLen;omega
  · intro x hx
    exact i3 x (pickUC_mem (fun p hp=>by have:=hS p hp;omega) hx)
theorem pkBytes_le {k:Nat} {l s r:List Nat} (h:pkBytes k l=.inl (s,r)):s.length≤2000:=by
  unfold pkBytes at h
  split at h
  · cases h
  · split at h
    · cases h
    · simp only [Sum.inl.injEq,Prod.mk.injEq] at h
      rw [← h.1,List.length_take];omega
theorem pkText_le {k:Nat} {l s r:List Nat} (h:pkText k l=.inl (s,r)):s.length≤2000:=by
  unfold pkText at h
  split at h
  · cases h
  · rename_i p q e
    split at h
    · simp only [Sum.inl.injEq,Prod.mk.injEq] at h
      rw [← h.1];exact pkBytes_le e
    · cases h
theorem pkName_le {l s r:List Nat} (h:pkName l=.inl (s,r)):s.length≤2000:=by
  unfold pkName at h
  split at h
  · cases h
  · split at h
    · cases h
    · exact pkText_le h
theorem pkObj_eq {V:List Nat→Nat→RC MT} {k:Nat} {l:List Nat} {n:Nat} {R:RC (List ByteArray × List MT)} (hR:pkMembers V k [] [] l n=R):pkObj V k l n=if 300<k then .inr 4 else obW R:=by
  unfold pkObj;rw [hR]
  split
  · rfl
  · cases R with
    | inr x=>rfl
    | inl p=>obtain ⟨⟨ks,us⟩,r,n⟩:=p;rfl
theorem pkMem_name {V:List Nat→Nat→RC MT} {f n:Nat} {ks:List ByteArray} {us:List MT} {l:List Nat} {x:Int} (h2:pkName l=.inr x):pkMembers V (f+1) ks us l n=.inr x:=by
  rw [pkMembers,h2]
theorem pkMem_bad {V:List Nat→Nat→RC MT} {f n:Nat} {ks:List ByteArray} {us:List MT} {l s r2:List Nat} {x:Int} (h2:pkName l=.inl (s,r2)) (h3:V r2 n=.inr x):pkMembers V (f+1) ks us l n=.inr x:=by
  rw [pkMembers,h2];simp only;rw [h3]
theorem pkMem_on {V:List Nat→Nat→RC MT} {f n n2:Nat} {ks:List ByteArray} {us:List MT} {l s r2 r3:List Nat} {t:MT} (h2:pkName l=.inl (s,r2)) (h3:V r2 n=.inl (t,r3,n2)):pkMembers V (f+1) ks us l n=pkMembers V f (ks++[strB s]) (us++[t]) r3 n2:=by
  rw [pkMembers,h2];simp only;rw [h3]
theorem ArP.nm {w0:World} {g d n:Nat} {l:List Nat} {w wS:World} {VB NB:Nat} {k:Nat} {us:List MT} {W:World} (h:ArP w0 g d n l w wS VB (fun q=>q=NB) k us W) (hN:wS.heap.size≤NB) (hne:NB ≠ VB) (o:Nat) (v:Value):ArP w0 g d n l w wS VB (fun q=>q=NB) k us (W.setCell ⟨NB,o,none⟩ v):=by
  have hlow:=h.low;have hgB:=h.gB;have hw0:=h.w0w
  refine ⟨h.st.fresh (by omega) (by omega) (by omega) _ _,h.low,h.gB,h.w0w,h.Bs,?_,h.ul,fun q hq=>by have:=h.Xl q hq;simpa [World.setCell] using this,h.ind.to (by simp [World.setCell]) (fun q hq hx=>set_otherC (fun e=>hx (.inr (.inr e)))) (fun _ _ h=>h) (fun _ h=>h),fun q h1 h2=>(set_otherC (by omega)).trans (h.kp q h1 h2)⟩
  exact (set_otherC (fun e=>hne e.symm)).trans h.blk
structure NmP (NB k:Nat) (ks:List ByteArray) (W:World):Prop where
  blk:BlkV W NB 9 (sv ks++List.replicate (k - ks.length) (.string ByteArray.empty))
  kl:ks.length≤k
theorem NmP.cell {NB k:Nat} {ks:List ByteArray} {W:World} (h:NmP NB k ks W) (hk:ks.length<k):W.cell? ⟨NB,ks.length,none⟩=some (.string ByteArray.empty):=by
  rw [h.blk.cell,List.getElem?_append_right (by rw [sv_len];exact Nat.le_refl _),sv_len,Nat.sub_self]
  obtain ⟨j,hj⟩:∃ j,k - ks.length=j+1:=⟨k - ks.length - 1,by omega⟩
  rw [hj];rfl
theorem NmP.add {NB k:Nat} {ks:List ByteArray} {W:World} (h:NmP NB k ks W) (hk:ks.length<k) (s:ByteArray):NmP NB k (ks++[s]) (W.setCell ⟨NB,ks.length,none⟩ (.string s)):=by
  refine ⟨?_,by rw [List.length_append];exact hk⟩
  have:=h.blk.set ks.length (.string s)
  obtain ⟨j,hj⟩:∃ j,k - ks.length=j+1:=⟨k - ks.length - 1,by omega⟩
  have hj2:k - (ks++[s]).length=j:=by rw [List.length_append];simp only [List.length_cons,List.length_nil];omega
  rw [hj,List.replicate_succ,list_setP (sv ks) (List.replicate j _) _ (.string s) ks.length (sv_len _)] at this
  rw [hj2]
  have e:sv (ks++[s])=sv ks++[.string s]:=by simp [sv]
  rw [e];exact this
theorem NmP.on {NB k:Nat} {ks:List ByteArray} {W W':World} (h:NmP NB k ks W) {g:Nat} (hb:But g W W') (hg:NB ≠ g):NmP NB k ks W' :=
  ⟨(hb.block NB h.blk.lt hg).trans h.blk,h.kl⟩
theorem NmP.put {NB k VB:Nat} {ks:List ByteArray} {W:World} (h:NmP NB k ks W) (hne:NB ≠ VB) (o:Nat) (c:Cel):NmP NB k ks (put8 W VB o c):=h.on (put8_but W VB o c) hne
theorem NmP.rd {NB k:Nat} {ks:List ByteArray} {W:World} (h:NmP NB k ks W) (hk:ks.length=k):RdV W (some ⟨NB,0,none⟩) (sv ks):=by
  have:=h.blk.all
  rwa [hk,Nat.sub_self,List.replicate_zero,List.append_nil] at this
theorem make_treesW (n:Nat) (hn:n≤1000) (W:World):(Instr.makeSlice 27 (.int .u64 (n:Int)) (.int .u64 (n:Int))).run Tryz.prog W=.ok (.slice (some ⟨W.heap.size,0,none⟩) n n) (W.alloc (.cells (flat (List.replicate n zeroC)).toArray 29)):=by
  obtain ⟨i0,hi,hz0,hz1,hz2⟩:=info_parts info_tree
  have hr:=run_make (P:=Tryz.prog) W 27 29 i0 zeroC.val Tryz.underlying27 hi hz0 .u64 .u64 n n (by omega) (Int.le_refl _) (by rw [hz2];omega) (by omega)
  simp only [Int.toNat_natCast,hz1] at hr
  rw [hr,← made_trees]
theorem make_strsW (n:Nat) (hn:n≤1000) (W:World):(Instr.makeSlice 26 (.int .u64 (n:Int)) (.int .u64 (n:Int))).run Tryz.prog W=.ok (.slice (some ⟨W.heap.size,0,none⟩) n n) (W.alloc (.cells (madeCells #[.string ByteArray.empty] n) 9)) :=
  run_make_row' (P:=Tryz.prog) 26 9 (.string ByteArray.empty) 16 Tryz.underlying26 info_string rfl .u64 .u64 n (by omega) (by omega) W
structure CutO (wS:World) (k:Nat) (p v:Value) (W:World):Prop where
  ex:∃ NB VB,p=.slice (some ⟨NB,0,none⟩) k k∧v=.slice (some ⟨VB,0,none⟩) k k∧NB ≠ VB∧wS.heap.size≤NB∧wS.heap.size≤VB∧NmP NB k [] W∧BlkV W VB 29 (flat (List.replicate k zeroC))∧Below wS.heap.size wS W
theorem CutO.drew {wS:World} {k:Nat} {p v:Value} {W:World} (h:CutO wS k p v W):CutO wS k p v W.drew:=by
  obtain ⟨⟨a,b,c1,c2,c3,c4,c5,c6,c7,c8⟩⟩:=h
  exact ⟨⟨a,b,c1,c2,c3,c4,c5,⟨c6.blk,c6.kl⟩,c7,below_drew c8⟩⟩
theorem nmP_new (w:World) (k:Nat):NmP w.heap.size k [] (w.alloc (.cells (madeCells #[.string ByteArray.empty] k) 9)):=by
  refine ⟨?_,Nat.zero_le _⟩
  have:=made_blk w (.string ByteArray.empty) k 9
  simpa [sv] using this
def ObRelP (w0:World) (g d:Nat) (w wS:World) (NB VB:Nat) (V:List Nat→Nat→RC MT) (k:Nat) (R:RC (List ByteArray × List MT)) (gk:Nat) (v:Value) (wr:World):Prop :=
  ∃ (ks:List ByteArray) (us:List MT) (l:List Nat) (n:Nat),v=.int .i64 (us.length:Int)∧ks.length=us.length∧ArP w0 g d n l w wS VB (fun q=>q=NB) k us wr∧NmP NB k ks wr∧(∀ s∈ks,s.size≤2000)∧n≤2000∧k - us.length≤gk∧pkMembers V (k - us.length) ks (us.map MT.bare) l n=R
theorem object_pk {w0:World} (hU:UT w0) {g d:Nat} (V:List Nat→Nat→RC MT) (hV:ValPC w0 g d V) (hN:NdC V) {l:List Nat} {n:Nat} {w:World} (hr:RdP w0 g l d n w) (m k:Nat) (hkk:k<18446744073709551616) (hn:n≤2000) :
    Calls Tryz.prog 140 #[.pointer (some ⟨g,0,none⟩),hmV (m,k)] w (ValP w0 g d (pkObj V k l n) w):=by
  have hg:=hr.lt
  have hlow:=hr.env.size
  obtain ⟨W1,hW1⟩:∃ x,(w.alloc (.cells #[.int .i64 (m:Int),.int .u64 (k:Int)] 129)).alloc (.cells #[.int .i64 0,.bool false,.bool false,.slice none 0 0,.int .i64 0,.string ⟨#[]⟩,.slice none 0 0,.slice none 0 0] 29)=x:=⟨_,rfl⟩
  have hb1:Below w.heap.size w W1:=by rw [← hW1];exact ((Below.refl _ _).alloc (Nat.le_refl _) _).alloc (by simp) _
  have hq0:W1.heap[w.heap.size]? = some (.cells #[.int .i64 (m:Int),.int .u64 (k:Int)] 129):=by
    rw [← hW1]
    exact (Below.heap_alloc _ _ _ (by simp)).trans (heap_alloc_new w _)
  have hq1:W1.heap[w.heap.size+1]? = some (.cells #[.int .i64 0,.bool false,.bool false,.slice none 0 0,.int .i64 0,.string ⟨#[]⟩,.slice none 0 0,.slice none 0 0] 29):=by
    rw [← hW1]
    have:=heap_alloc_new (w.alloc (.cells #[.int .i64 (m:Int),.int .u64 (k:Int)] 129)) (.cells #[.int .i64 0,.bool false,.bool false,.slice none 0 0,.int .i64 0,.string ⟨#[]⟩,.slice none 0 0,.slice none 0 0] 29)
    simpa using this
  have hs1:W1.heap.size=w.heap.size+2:=by rw [← hW1];simp
  have H1:=Lib.hid (StP.of_below hr hb1)
  have HQ0:=Lib.hid hq0;have HQ1:=Lib.hid hq1;have HS1:=Lib.hid hs1
  have KR:=Lib.hid (refuse_pk m k 300 W1)
  have HV:=Lib.hid hV
  have HNN:=Lib.hid hN
  have HU:=Lib.hid hU
  have HW1:=Lib.hid hW1
  obtain ⟨R0,hR0⟩:∃ R0,pkObj V k l n=R0:=⟨_,rfl⟩
  obtain ⟨R,hR⟩:∃ R,pkMembers V k [] [] l n=R:=⟨_,rfl⟩
  have HAR:Hid (R0=if 300<k then .inr 4 else obW R):=Lib.hid (hR0.symm.trans (pkObj_eq hR))
  rw [hR0]
  have HR:=Lib.hid hR
  have HY0:W1.cell? ⟨w.heap.size,0,none⟩=some (.int .i64 (m:Int)):=cellOf hq0 0 rfl
  have HY1:W1.cell? ⟨w.heap.size,1,none⟩=some (.int .u64 (k:Int)):=cellOf hq0 1 rfl
  dsimp only [hmV]
  clear hr hb1 hV hN hR0 hR hq0 hq1 hs1 hW1 hU
  go_enter Tryz.func140,Tryz.ntmps140
  go_upto_region 1 with fail
  rw [HW1.out]
  go_wp2_with fail
  refine KR.out.mono ?_
  rintro r wS ⟨hb,⟨hle,rfl⟩ | ⟨hlt,rfl⟩⟩
  · have H2:=Lib.hid (H1.out.more hb)
    have hs2:=hb.size
    have HB0:=Lib.hid ((hb.block w.heap.size (by have:=HS1.out;omega)).trans HQ0.out)
    have HB1:=Lib.hid ((hb.block (w.heap.size+1) (by have:=HS1.out;omega)).trans HQ1.out)
    have HSZ:=Lib.hid (show w.heap.size+1<wS.heap.size by have:=HS1.out;omega)
    have HLE:=Lib.hid hle
    have HAR2:Hid (R0=obW R):=Lib.hid (HAR.out.trans (if_neg (by omega)))
    have yk:wS.cell? ⟨w.heap.size,1,none⟩=some (.int .u64 (k:Int)):=cellOf HB0.out 1 rfl
    clear hb hle KR HY0 HY1 hs2
    go_upto_region 2 with fail
    go_cut [5,6] from 13 to 18 (fun p v W=>CutO wS k p v W)
    case first =>
      rename_i J K hJ hK
      have HJ:=Lib.hid hJ
      clear hJ
      have hmt:=fun W=>make_treesW k (by have:=HLE.out;omega) W
      have hms:=fun W=>make_strsW k (by have:=HLE.out;omega) W
      have hb1:∀ W o,Below W.heap.size W (W.alloc o):=fun W o=>(Below.refl _ _).alloc (Nat.le_refl _) _
      have HF1:Hid (CutO wS k (.slice (some ⟨wS.heap.size,0,none⟩) k k) (.slice (some ⟨wS.heap.size+1,0,none⟩) k k) ((wS.alloc (.cells (madeCells #[.string ByteArray.empty] k) 9)).alloc (.cells (flat (List.replicate k zeroC)).toArray 29))):=Lib.hid (by
        have hs:(wS.alloc (.cells (madeCells #[.string ByteArray.empty] k) 9)).heap.size=wS.heap.size+1:=by simp
        refine ⟨⟨wS.heap.size,wS.heap.size+1,rfl,rfl,by omega,Nat.le_refl _,by omega,?_,?_,?_⟩⟩
        · exact ⟨((hb1 _ _).block wS.heap.size (by simp)).trans (nmP_new wS k).blk,Nat.zero_le _⟩
        · rw [← hs];exact heap_alloc_new _ _
        · exact (hb1 _ _).trans ((hb1 _ _).mono (by simp)))
      have HF2:Hid (CutO wS k (.slice (some ⟨wS.heap.size+1,0,none⟩) k k) (.slice (some ⟨wS.heap.size,0,none⟩) k k) ((wS.alloc (.cells (flat (List.replicate k zeroC)).toArray 29)).alloc (.cells (madeCells #[.string ByteArray.empty] k) 9))):=Lib.hid (by
        have hs:(wS.alloc (.cells (flat (List.replicate k zeroC)).toArray 29)).heap.size=wS.heap.size+1:=by simp
        refine ⟨⟨wS.heap.size+1,wS.heap.size,rfl,rfl,by omega,by omega,Nat.le_refl _,?_,?_,?_⟩⟩
        · rw [← hs];exact nmP_new _ k
        · exact ((hb1 _ _).block wS.heap.size (by simp)).trans (heap_alloc_new _ _)
        · exact (hb1 _ _).trans ((hb1 _ _).mono (by simp)))
      have yk1:(wS.alloc (.cells (madeCells #[.string ByteArray.empty] k) 9)).cell? ⟨w.heap.size,1,none⟩=some (.int .u64 (k:Int)):=((hb1 wS (.cells (madeCells #[.string ByteArray.empty] k) 9)).cell (p:=⟨w.heap.size,1,none⟩) (by have:=HSZ.out;simp only;omega)).trans yk
      have yk2:(wS.alloc (.cells (flat (List.replicate k zeroC)).toArray 29)).cell? ⟨w.heap.size,1,none⟩=some (.int .u64 (k:Int)):=((hb1 wS (.cells (flat (List.replicate k zeroC)).toArray 29)).cell (p:=⟨w.heap.size,1,none⟩) (by have:=HSZ.out;simp only;omega)).trans yk
      clear hb1
      generalize (flat (List.replicate k zeroC)).toArray=FT at *
      generalize madeCells #[.string ByteArray.empty] k=FS at *
      go_region
      all_goals
        refine hK _ _ (HJ.out _ _ ?_)
        (repeat apply Exists.intro)
        first
        | exact ⟨HF1.out.drew,rfl⟩
        | exact ⟨HF2.out.drew,rfl⟩
    case rest =>
      obtain ⟨⟨NB,VB,rfl,rfl,hne,hN1,hV1,hnm0,hbk0,hbl0⟩⟩:=hcut
      have hst:ArP w0 g d n l w wS VB (fun q=>q=NB) k [] wc:=⟨H2.out.more hbl0,H2.out.oth.size,hg,hlow,hV1,by simpa using hbk0,Nat.zero_le _,fun q hq=>by rw [hq];exact hnm0.blk.lt,fun W _ _=>nofun,fun q _ h2=>hbl0.block q h2⟩
      have HST:=Lib.hid (show ObRelP w0 g d w wS NB VB V k R k (.int .i64 0) wc from ⟨[],[],l,n,rfl,rfl,hst,hnm0,nofun,hn,by simp,HR.out⟩)
      have HNE:=Lib.hid hne;have HN1:=Lib.hid hN1;have HV1:=Lib.hid hV1
      clear hst hnm0 hbk0 hbl0 yk hne hN1 hV1
      go_wp2_with fail
      go_loopg [21] k (fun gk v wr=>ObRelP w0 g d w wS NB VB V k R gk v wr)
      case atStart=>exact HST.out
      case round =>
        clear HST
        obtain ⟨ks,us,l1,n1,rfl,hkl,hit,hnm,hss,hn1,hgk,hR1⟩:=hrel
        have HIT:=Lib.hid hit
        have HNM:=Lib.hid hnm
        have HSS:=Lib.hid hss
        have HR1:=Lib.hid hR1
        have hul:=hit.ul
        clear hit hnm hss hR1
        generalize hun:us.length=un at *
        have HUN:=Lib.hid hun
        have HKL:=Lib.hid hkl
        clear hun hkl
        by_cases hlt:un<k
        · obtain ⟨f,rfl⟩:∃ f,gk=f+1:=⟨gk - 1,by omega⟩
          have hz1:(un:Int)<(k:Int):=by omega
          have hz2:(0:Int)≤(un:Int):=by omega
          have KN:=Lib.hid (name_pk HU.out HIT.out.st.rd)
          obtain ⟨j,hj⟩:∃ j,k - un=j+1:=⟨k - un - 1,by omega⟩
          have HJ:=Lib.hid hj
          clear hj
          go_wp2_with fail
          refine KN.out.mono ?_
          intro r W2 hp
          cases hnq:pkName l1 with
          | inr x =>
            rw [hnq] at hp
            obtain ⟨rfl,l',d',n',h2⟩:=hp
            have H3:=Lib.hid (HIT.out.st.trans h2)
            have HE:Hid (R0=.inr x):=Lib.hid (by rw [HAR2.out,← HR1.out,HJ.out,pkMem_name hnq];rfl)
            clear h2 hnq KN
            go_wp2_with fail
            exact ⟨rfl,ValP.no HE.out (ThrowP.mk H3.out)⟩
          | inl p =>
            obtain ⟨s,r2⟩:=p
            rw [hnq] at hp
            obtain ⟨rfl,h2⟩:=hp
            have HNQ:=Lib.hid hnq
            have HSL:=Lib.hid (show (strB s).size≤2000 by rw [strB_size];exact pkName_le hnq)
            have hgN:NB ≠ g:=by have:=HN1.out;have:=HIT.out.gB;have:=HIT.out.low;omega
            have hnm2:=HNM.out.on h2.oth hgN
            have hcell:=hnm2.cell (by rw [HKL.out];exact hlt)
            have hfree:=hnm2.blk.free ks.length
            have hnm3:=hnm2.add (by rw [HKL.out];exact hlt) (strB s)
            have har3:=(HIT.out.on h2).nm HN1.out HNE.out ks.length (.string (strB s))
            rw [HKL.out] at hcell hfree hnm3 har3
            have HNM3:=Lib.hid hnm3
            have HAR3:=Lib.hid har3
            dsimp only [strV]
            have HSS1:Hid (∀ q∈ks++[strB s],q.size≤2000):=Lib.hid (fun q hq=>(List.mem_append.1 hq).elim (HSS.out q) (fun h=>by rw [List.mem_singleton.1 h];exact HSL.out))
            clear h2 hnq KN hnm2 hnm3 har3
            generalize hsb:strB s=sb at *
            have HSB:=Lib.hid hsb
            clear hsb
            have KV:=Lib.hid (HV.out _ r2 n1 hn1 HAR3.out.st.rd)
            go_wp2_with fail
            refine KV.out.mono ?_
            intro r W6 hp
            cases hv:V r2 n1 with
            | inr x =>
              rw [hv] at hp
              obtain ⟨rfl,l',d',n',h2⟩:=hp
              have H3:=Lib.hid (HAR3.out.st.trans h2)
              have HE:Hid (R0=.inr x):=Lib.hid (by rw [HAR2.out,← HR1.out,HJ.out,pkMem_bad HNQ.out hv];rfl)
              clear h2 hv KV hcell hfree
              go_wp2_with fail
              exact ⟨rfl,ValP.no HE.out (ThrowP.mk H3.out)⟩
            | inl p =>
              obtain ⟨t,r3,n2⟩:=p
              rw [hv] at hp
              obtain ⟨x,rfl,hbare,hin,h2⟩:=hp
              have HE:Hid (pkMembers V (k - (us++[x]).length) (ks++[sb]) ((us++[x]).map MT.bare) r3 n2=R):=Lib.hid (by
                have e:k - (us++[x]).length=j:=by rw [List.length_append,HUN.out];simp;have:=HJ.out;omega
                rw [e,← HR1.out,HJ.out,pkMem_on HNQ.out hv,List.map_append,List.map_cons,List.map_nil,hbare,HSB.out])
              have HN2:=Lib.hid (HNN.out _ _ _ hn1 hv)
              have hon:=HAR3.out.on h2
              have hlen:un<(us.map MT.c++List.replicate (k - us.length) zeroC).length:=by rw [List.length_append,List.length_map,List.length_replicate,HUN.out];omega
              obtain ⟨⟨q0,d0⟩,⟨q1,d1⟩,⟨q2,d2⟩,⟨q3,d3⟩,⟨q4,d4⟩,⟨q5,d5⟩,⟨q6,d6⟩,⟨q7,d7⟩⟩:=blk_olds hon.blk hlen
              have f0:=hon.blk.free (un*8);have f1:=hon.blk.free (un*8+1);have f2:=hon.blk.free (un*8+2);have f3:=hon.blk.free (un*8+3)
              have f4:=hon.blk.free (un*8+4);have f5:=hon.blk.free (un*8+5);have f6:=hon.blk.free (un*8+6);have f7:=hon.blk.free (un*8+7)
              have hadd:=HAR3.out.add h2 hin (by rw [HUN.out];exact hlt)
              have hnm6:=((HNM3.out.on h2.oth hgN).put HNE.out (us.length*8) x.c)
              rw [HUN.out] at hadd hnm6
              have HADD:=Lib.hid hadd
              have HNM6:=Lib.hid hnm6
              clear h2 hv KV hbare hin hon hlen hadd hnm6 hcell hfree
              obtain ⟨xc,xm,xk,xv⟩:=x
              obtain ⟨k0,b0,ng,ma,mn,mc,ex,st,ka,kn,kc,xa,vn,xvc⟩:=xc
              dsimp only [MT.c,Cel.val]
              dsimp only [MT.c,put8] at HADD HNM6
              go_wp2_with fail
              go_roundg f
              case measure=>omega
              case rel=>exact ⟨ks++[sb],us++[_],r3,n2,by rw [List.length_append,HUN.out];have h3:=HLE.out;have h4:un≤300:=(by omega);first | (go_num;done) | (simp [wrap64];omega),by rw [List.length_append,List.length_append,HUN.out,HKL.out];rfl,HADD.out,HNM6.out,HSS1.out,HN2.out,by rw [List.length_append,HUN.out];simp;omega,HE.out⟩
        · obtain rfl:un=k:=by omega
          have hz1:¬ (un:Int)<(un:Int):=by omega
          have HE:Hid (R0=obW (.inl ((ks,us.map MT.bare),l1,n1))):=Lib.hid (by rw [HAR2.out,← HR1.out,Nat.sub_self];rfl)
          have hkr:=HNM.out.rd HKL.out
          have hvr:=HIT.out.rep HUN.out (by have:=HLE.out;omega) (fun q hq=>by rw [hq];exact HN1.out)
          have KO:=Lib.hid (object_core (some ⟨NB,0,none⟩) un un un ks (some ⟨VB,0,none⟩) un un (us.map MT.c) wr (Nat.le_refl _) (by have:=HLE.out;omega) HKL.out hkr (by rw [List.length_map,HUN.out]) (Nat.le_refl _) (by have:=HLE.out;omega) hvr (.inl ⟨Nat.le_refl _,rfl⟩))
          have HQ1b:=Lib.hid ((HIT.out.kp (w.heap.size+1) (by omega) HSZ.out).trans HB1.out)
          have hgne:w.heap.size+1 ≠ g:=by omega
          clear hkr hvr
          go_wp2_with fail
          refine KO.out.mono ?_
          rintro r2 W2 ⟨lo,fl,hT,hp1,hp2⟩
          cases fl with
          | true =>
            obtain ⟨hr2,hb2⟩:=hp2 rfl
            obtain rfl:r2=.returned (.tuple #[.agg #[.int .i64 0,.bool false,.bool false,.slice none 0 0,.int .i64 0,.string ⟨#[]⟩,.slice none 0 0,.slice none 0 0],.int .i64 (lo:Int),.bool false]):=hr2
            have HX:=Lib.hid (HIT.out.st.more hb2)
            have HEE:Hid (R0=.inr 2):=Lib.hid (by
              rw [HE.out]
              unfold obW
              simp only
              rw [if_neg (fun h=>by have:=(twc_nodup (n:=un) HKL.out hT).2 h;cases this)])
            clear hT hp1 hp2 hb2 KO
            go_wp2_with fail
            exact ⟨rfl,ValP.no HEE.out (ThrowP.mk (HX.out.alloc _))⟩
          | false =>
            obtain ⟨g1,g2,hr2,q1,q2,hk1,hk2,hb2⟩:=hp1 rfl
            obtain rfl:r2=.returned (.tuple #[.agg #[.int .i64 7,.bool false,.bool false,.slice none 0 0,.int .i64 0,.string ⟨#[]⟩,.slice (some ⟨g1,0,none⟩) un un,.slice (some ⟨g2,0,none⟩) un un],.int .i64 0,.bool true]):=hr2
            have HND:Hid (R0=.inl (bobjC ((sortC ks).map fun i=>ks.getD i ByteArray.empty) ((sortC ks).map fun i=>(us.map MT.bare).getD i (leafT 0 false ⟨#[]⟩)),l1,n1)):=Lib.hid (by
              rw [HE.out]
              unfold obW
              simp only
              rw [if_pos ((twc_nodup (n:=un) HKL.out hT).1 rfl)])
            have hind:=obj_newP HIT.out (m:=un) HLE.out HKL.out HUN.out HSS.out q1 q2 hk1 hk2 hb2
            obtain ⟨W3,hW3⟩:∃ V,W2.alloc (.cells #[.int .i64 7,.bool false,.bool false,.slice none 0 0,.int .i64 0,.string ⟨#[]⟩,.slice (some ⟨g1,0,none⟩) un un,.slice (some ⟨g2,0,none⟩) un un] 29)=V:=⟨_,rfl⟩
            have hal:Below W2.heap.size W2 W3:=by rw [← hW3];exact (Below.refl _ _).alloc (Nat.le_refl _) _
            have hst:=(HIT.out.st.more hb2).more hal
            have hq2:=(hb2.block _ (Array.getElem?_eq_some_iff.1 HQ1b.out).1).trans HQ1b.out
            have hq1:=(hal.block _ (Array.getElem?_eq_some_iff.1 hq2).1).trans hq2
            have HFIN:=Lib.hid (val_finP hst (b:=w.heap.size+1) (by omega) hgne (by omega) HSZ.out (hind.below hal) (.int .i64 7) (.bool false) (.bool false) (.slice none 0 0) (.int .i64 0) (.string ⟨#[]⟩) (.slice (some ⟨g1,0,none⟩) un un) (.slice (some ⟨g2,0,none⟩) un un))
            have hnb:W3.heap[W2.heap.size]? = some (.cells #[.int .i64 7,.bool false,.bool false,.slice none 0 0,.int .i64 0,.string ⟨#[]⟩,.slice (some ⟨g1,0,none⟩) un un,.slice (some ⟨g2,0,none⟩) un un] 29):=by rw [← hW3];exact heap_alloc_new W2 _
            have hn5:¬ W2.heap.size=w.heap.size+1:=by have:=(Array.getElem?_eq_some_iff.1 hq2).1;omega
            have hn6:¬ w.heap.size+1=W2.heap.size:=fun e=>hn5 e.symm
            have y0:W3.cell? ⟨w.heap.size+1,0,none⟩=some (.int .i64 0):=cellOf hq1 0 rfl
            have z0:=freeOf hq1 0
            have y1:W3.cell? ⟨w.heap.size+1,1,none⟩=some (.bool false):=cellOf hq1 1 rfl
            have z1:=freeOf hq1 1
            have y2:W3.cell? ⟨w.heap.size+1,2,none⟩=some (.bool false):=cellOf hq1 2 rfl
            have z2:=freeOf hq1 2
            have y3:W3.cell? ⟨w.heap.size+1,3,none⟩=some (.slice none 0 0):=cellOf hq1 3 rfl
            have z3:=freeOf hq1 3
            have y4:W3.cell? ⟨w.heap.size+1,4,none⟩=some (.int .i64 0):=cellOf hq1 4 rfl
            have z4:=freeOf hq1 4
            have y5:W3.cell? ⟨w.heap.size+1,5,none⟩=some (.string ⟨#[]⟩):=cellOf hq1 5 rfl
            have z5:=freeOf hq1 5
            have y6:W3.cell? ⟨w.heap.size+1,6,none⟩=some (.slice none 0 0):=cellOf hq1 6 rfl
            have z6:=freeOf hq1 6
            have y7:W3.cell? ⟨w.heap.size+1,7,none⟩=some (.slice none 0 0):=cellOf hq1 7 rfl
            have z7:=freeOf hq1 7
            have x0:W3.cell? ⟨W2.heap.size,0,none⟩=some (.int .i64 7):=cellOf hnb 0 rfl
            have x1:W3.cell? ⟨W2.heap.size,1,none⟩=some (.bool false):=cellOf hnb 1 rfl
            have x2:W3.cell? ⟨W2.heap.size,2,none⟩=some (.bool false):=cellOf hnb 2 rfl
            have x3:W3.cell? ⟨W2.heap.size,3,none⟩=some (.slice none 0 0):=cellOf hnb 3 rfl
            have x4:W3.cell? ⟨W2.heap.size,4,none⟩=some (.int .i64 0):=cellOf hnb 4 rfl
            have x5:W3.cell? ⟨W2.heap.size,5,none⟩=some (.string ⟨#[]⟩):=cellOf hnb 5 rfl
            have x6:W3.cell? ⟨W2.heap.size,6,none⟩=some (.slice (some ⟨g1,0,none⟩) un un):=cellOf hnb 6 rfl
            have x7:W3.cell? ⟨W2.heap.size,7,none⟩=some (.slice (some ⟨g2,0,none⟩) un un):=cellOf hnb 7 rfl
            have HW3:=Lib.hid hW3
            clear hT hp1 hp2 hb2 KO q1 q2 hk1 hk2 hind hal hst hq1 hq2 hnb hW3
            go_upto_region 10 with fail
            rw [HW3.out]
            go_wp2_with fail
            refine bodyPost_ret (v:=.agg #[.int .i64 7,.bool false,.bool false,.slice none 0 0,.int .i64 0,.string ⟨#[]⟩,.slice (some ⟨g1,0,none⟩) un un,.slice (some ⟨g2,0,none⟩) un un]) (by simp [results,Tryz.results140,go_sem,y0,y1,y2,y3,y4,y5,y6,y7,hn5,hn6]) rfl ?_
            exact ValP.yes _ HND.out rfl (obj_bareC g1 g2 HKL.out HUN.out) HFIN.out.1 HFIN.out.2
  · have H2:=Lib.hid (H1.out.more hb)
    have HE:Hid (R0=.inr 4):=Lib.hid (HAR.out.trans (if_pos hlt))
    clear hb KR hlt
    go_wp2_with fail
    exact ⟨rfl,ValP.no HE.out (ThrowP.mk H2.out)⟩
theorem ValP.on {w0:World} {g d d0 n0:Nat} {l:List Nat} {r:RC MT} {w w1 w':World} {e:Ending} (h:StP w0 g l d0 n0 w w1) (hs:w.heap.size≤w1.heap.size) (h2:ValP w0 g d r w1 e w'):ValP w0 g d r w e w':=by
  unfold ValP at *
  cases r with
  | inr x=>exact ThrowP.on h h2
  | inl p =>
    obtain ⟨t',h3,h4,h5,h6⟩:=h2
    exact ⟨t',h3,h4,h5.to (Nat.le_refl _) (fun _ _ _=>rfl) (fun k _ (h:k<w.heap.size)=>Nat.lt_of_lt_of_le h hs) (fun _ h=>h),h.trans h6⟩
theorem ValN.valP {w0:World} {g d n:Nat} {l:List Nat} {r:MT ⊕ Int} {w w':World} {e:Ending} (hr:RdP w0 g l d n w) (h:ValN w r e w'):ValP w0 g d (liftN n l r) w e w':=by
  unfold ValN at h
  unfold ValP
  cases r with
  | inr x=>exact ⟨h.1,_,_,_,StP.of_below hr h.2⟩
  | inl t =>
    obtain ⟨t',h3,h4,h5,h6⟩:=h
    exact ⟨t',h3,h4,h5,StP.of_below hr h6⟩
def txtW (kd:Int) (n:Nat):(List Nat × List Nat) ⊕ Int→RC MT
  | .inr x=>.inr x
  | .inl (s,r)=>.inl (leafT kd false (strB s),r,n)
structure BhP (w0:World) (g d n:Nat) (l:List Nat) (m k:Nat) (w W1:World):Prop where
  st:StP w0 g l d n w W1
  g:g<w.heap.size
  low:w0.heap.size≤w.heap.size
  q0:W1.heap[w.heap.size]? = some (.cells #[.int .i64 (m:Int),.int .u64 (k:Int)] 129)
  q1:W1.heap[w.heap.size+1]? = some (.cells #[.int .i64 0,.bool false,.bool false,.slice none 0 0,.int .i64 0,.string ⟨#[]⟩,.slice none 0 0,.slice none 0 0] 29)
  sz:W1.heap.size=w.heap.size+2
theorem bhP_new {w0:World} {g d n:Nat} {l:List Nat} {w:World} (hr:RdP w0 g l d n w) (m k:Nat):BhP w0 g d n l m k w ((w.alloc (.cells #[.int .i64 (m:Int),.int .u64 (k:Int)] 129)).alloc (.cells #[.int .i64 0,.bool false,.bool false,.slice none 0 0,.int .i64 0,.string ⟨#[]⟩,.slice none 0 0,.slice none 0 0] 29)):=by
  refine ⟨StP.of_below hr (((Below.refl _ _).alloc (Nat.le_refl _) _).alloc (by simp) _),hr.lt,hr.env.size,(Below.heap_alloc _ _ _ (by simp)).trans (heap_alloc_new w _),?_,by simp⟩
  have:=heap_alloc_new (w.alloc (.cells #[.int .i64 (m:Int),.int .u64 (k:Int)] 129)) (.cells #[.int .i64 0,.bool false,.bool false,.slice none 0 0,.int .i64 0,.string ⟨#[]⟩,.slice none 0 0,.slice none 0 0] 29)
  simpa using this
theorem behind_nil {w0:World} {g d:Nat} {l:List Nat} {n:Nat} {w:World} (hr:RdP w0 g l d n w) (k:Nat) :
    Calls Tryz.prog 98 #[.pointer (some ⟨g,0,none⟩),hmV (1,k)] w (ValP w0 g d (.inl (leafT 1 false ⟨#[]⟩,l,n)) w):=by
  obtain ⟨W1,hW1⟩:∃ x,(w.alloc (.cells #[.int .i64 1,.int .u64 (k:Int)] 129)).alloc (.cells #[.int .i64 0,.bool false,.bool false,.slice none 0 0,.int .i64 0,.string ⟨#[]⟩,.slice none 0 0,.slice none 0 0] 29)=x:=⟨_,rfl⟩
  have HB:=Lib.hid (show BhP w0 g d n l 1 k w W1 by rw [← hW1];exact bhP_new hr 1 k)
  have HW1:=Lib.hid hW1
  have x0:W1.cell? ⟨w.heap.size,0,none⟩=some (.int .i64 1):=cellOf HB.out.q0 0 rfl
  have x1:W1.cell? ⟨w.heap.size,1,none⟩=some (.int .u64 (k:Int)):=cellOf HB.out.q0 1 rfl
  have HGN:=Lib.hid (show w.heap.size+1 ≠ g by have:=HB.out.g;omega)
  have HFIN:=Lib.hid (val_finP HB.out.st (t':=leafT 1 false ⟨#[]⟩) (b:=w.heap.size+1) (z:=w.heap.size+2) (by omega) HGN.out (by have:=HB.out.low;omega) (by omega) (fun W _ _=>leafT_rep W 1 false ⟨#[]⟩ (by decide) (by decide)) (.int .i64 1) (.bool false) (.bool false) (.slice none 0 0) (.int .i64 0) (.string ⟨#[]⟩) (.slice none 0 0) (.slice none 0 0))
  have hq1:=HB.out.q1
  have y0:W1.cell? ⟨w.heap.size+1,0,none⟩=some (.int .i64 0):=cellOf hq1 0 rfl
  have z0:=freeOf hq1 0
  have y1:W1.cell? ⟨w.heap.size+1,1,none⟩=some (.bool false):=cellOf hq1 1 rfl
  have z1:=freeOf hq1 1
  have y2:W1.cell? ⟨w.heap.size+1,2,none⟩=some (.bool false):=cellOf hq1 2 rfl
  have z2:=freeOf hq1 2
  have y3:W1.cell? ⟨w.heap.size+1,3,none⟩=some (.slice none 0 0):=cellOf hq1 3 rfl
  have z3:=freeOf hq1 3
  have y4:W1.cell? ⟨w.heap.size+1,4,none⟩=some (.int .i64 0):=cellOf hq1 4 rfl
  have z4:=freeOf hq1 4
  have y5:W1.cell? ⟨w.heap.size+1,5,none⟩=some (.string ⟨#[]⟩):=cellOf hq1 5 rfl
  have z5:=freeOf hq1 5
  have y6:W1.cell? ⟨w.heap.size+1,6,none⟩=some (.slice none 0 0):=cellOf hq1 6 rfl
  have z6:=freeOf hq1 6
  have y7:W1.cell? ⟨w.heap.size+1,7,none⟩=some (.slice none 0 0):=cellOf hq1 7 rfl
  have z7:=freeOf hq1 7
  clear hq1
  clear hr hW1
  change Calls _ _ #[.pointer (some ⟨g,0,none⟩),.agg #[.int .i64 1,.int .u64 (k:Int)]] _ _
  go_enter Tryz.func98,Tryz.ntmps98
  go_upto_region 1 with fail
  rw [HW1.out]
  go_wp2_with fail
  refine bodyPost_ret (v:=.agg #[.int .i64 1,.bool false,.bool false,.slice none 0 0,.int .i64 0,.string ⟨#[]⟩,.slice none 0 0,.slice none 0 0]) (by simp [results,Tryz.results98,go_sem,y0,y1,y2,y3,y4,y5,y6,y7]) rfl ?_
  exact ValP.yes (leafT 1 false ⟨#[]⟩) rfl rfl (by rw [MT.bare_eq];rfl) HFIN.out.1 HFIN.out.2
theorem behind_false {w0:World} {g d:Nat} {l:List Nat} {n:Nat} {w:World} (hr:RdP w0 g l d n w) (k:Nat) :
    Calls Tryz.prog 98 #[.pointer (some ⟨g,0,none⟩),hmV (2,k)] w (ValP w0 g d (.inl (leafT 2 false ⟨#[]⟩,l,n)) w):=by
  obtain ⟨W1,hW1⟩:∃ x,(w.alloc (.cells #[.int .i64 2,.int .u64 (k:Int)] 129)).alloc (.cells #[.int .i64 0,.bool false,.bool false,.slice none 0 0,.int .i64 0,.string ⟨#[]⟩,.slice none 0 0,.slice none 0 0] 29)=x:=⟨_,rfl⟩
  have HB:=Lib.hid (show BhP w0 g d n l 2 k w W1 by rw [← hW1];exact bhP_new hr 2 k)
  have HW1:=Lib.hid hW1
  have x0:W1.cell? ⟨w.heap.size,0,none⟩=some (.int .i64 2):=cellOf HB.out.q0 0 rfl
  have x1:W1.cell? ⟨w.heap.size,1,none⟩=some (.int .u64 (k:Int)):=cellOf HB.out.q0 1 rfl
  have HGN:=Lib.hid (show w.heap.size+1 ≠ g by have:=HB.out.g;omega)
  have HFIN:=Lib.hid (val_finP HB.out.st (t':=leafT 2 false ⟨#[]⟩) (b:=w.heap.size+1) (z:=w.heap.size+2) (by omega) HGN.out (by have:=HB.out.low;omega) (by omega) (fun W _ _=>leafT_rep W 2 false ⟨#[]⟩ (by decide) (by decide)) (.int .i64 2) (.bool false) (.bool false) (.slice none 0 0) (.int .i64 0) (.string ⟨#[]⟩) (.slice none 0 0) (.slice none 0 0))
  have hq1:=HB.out.q1
  have y0:W1.cell? ⟨w.heap.size+1,0,none⟩=some (.int .i64 0):=cellOf hq1 0 rfl
  have z0:=freeOf hq1 0
  have y1:W1.cell? ⟨w.heap.size+1,1,none⟩=some (.bool false):=cellOf hq1 1 rfl
  have z1:=freeOf hq1 1
  have y2:W1.cell? ⟨w.heap.size+1,2,none⟩=some (.bool false):=cellOf hq1 2 rfl
  have z2:=freeOf hq1 2
  have y3:W1.cell? ⟨w.heap.size+1,3,none⟩=some (.slice none 0 0):=cellOf hq1 3 rfl
  have z3:=freeOf hq1 3
  have y4:W1.cell? ⟨w.heap.size+1,4,none⟩=some (.int .i64 0):=cellOf hq1 4 rfl
  have z4:=freeOf hq1 4
  have y5:W1.cell? ⟨w.heap.size+1,5,none⟩=some (.string ⟨#[]⟩):=cellOf hq1 5 rfl
  have z5:=freeOf hq1 5
  have y6:W1.cell? ⟨w.heap.size+1,6,none⟩=some (.slice none 0 0):=cellOf hq1 6 rfl
  have z6:=freeOf hq1 6
  have y7:W1.cell? ⟨w.heap.size+1,7,none⟩=some (.slice none 0 0):=cellOf hq1 7 rfl
  have z7:=freeOf hq1 7
  clear hq1
  clear hr hW1
  change Calls _ _ #[.pointer (some ⟨g,0,none⟩),.agg #[.int .i64 2,.int .u64 (k:Int)]] _ _
  go_enter Tryz.func98,Tryz.ntmps98
  go_upto_region 1 with fail
  rw [HW1.out]
  go_wp2_with fail
  refine bodyPost_ret (v:=.agg #[.int .i64 2,.bool false,.bool false,.slice none 0 0,.int .i64 0,.string ⟨#[]⟩,.slice none 0 0,.slice none 0 0]) (by simp [results,Tryz.results98,go_sem,y0,y1,y2,y3,y4,y5,y6,y7]) rfl ?_
  exact ValP.yes (leafT 2 false ⟨#[]⟩) rfl rfl (by rw [MT.bare_eq];rfl) HFIN.out.1 HFIN.out.2
theorem behind_true {w0:World} {g d:Nat} {l:List Nat} {n:Nat} {w:World} (hr:RdP w0 g l d n w) (k:Nat) :
    Calls Tryz.prog 98 #[.pointer (some ⟨g,0,none⟩),hmV (3,k)] w (ValP w0 g d (.inl (leafT 2 true ⟨#[]⟩,l,n)) w):=by
  obtain ⟨W1,hW1⟩:∃ x,(w.alloc (.cells #[.int .i64 3,.int .u64 (k:Int)] 129)).alloc (.cells #[.int .i64 0,.bool false,.bool false,.slice none 0 0,.int .i64 0,.string ⟨#[]⟩,.slice none 0 0,.slice none 0 0] 29)=x:=⟨_,rfl⟩
  have HB:=Lib.hid (show BhP w0 g d n l 3 k w W1 by rw [← hW1];exact bhP_new hr 3 k)
  have HW1:=Lib.hid hW1
  have x0:W1.cell? ⟨w.heap.size,0,none⟩=some (.int .i64 3):=cellOf HB.out.q0 0 rfl
  have x1:W1.cell? ⟨w.heap.size,1,none⟩=some (.int .u64 (k:Int)):=cellOf HB.out.q0 1 rfl
  have HGN:=Lib.hid (show w.heap.size+1 ≠ g by have:=HB.out.g;omega)
  have HFIN:=Lib.hid (val_finP HB.out.st (t':=leafT 2 true ⟨#[]⟩) (b:=w.heap.size+1) (z:=w.heap.size+2) (by omega) HGN.out (by have:=HB.out.low;omega) (by omega) (fun W _ _=>leafT_rep W 2 true ⟨#[]⟩ (by decide) (by decide)) (.int .i64 2) (.bool true) (.bool false) (.slice none 0 0) (.int .i64 0) (.string ⟨#[]⟩) (.slice none 0 0) (.slice none 0 0))
  have hq1:=HB.out.q1
  have y0:W1.cell? ⟨w.heap.size+1,0,none⟩=some (.int .i64 0):=cellOf hq1 0 rfl
  have z0:=freeOf hq1 0
  have y1:W1.cell? ⟨w.heap.size+1,1,none⟩=some (.bool false):=cellOf hq1 1 rfl
  have z1:=freeOf hq1 1
  have y2:W1.cell? ⟨w.heap.size+1,2,none⟩=some (.bool false):=cellOf hq1 2 rfl
  have z2:=freeOf hq1 2
  have y3:W1.cell? ⟨w.heap.size+1,3,none⟩=some (.slice none 0 0):=cellOf hq1 3 rfl
  have z3:=freeOf hq1 3
  have y4:W1.cell? ⟨w.heap.size+1,4,none⟩=some (.int .i64 0):=cellOf hq1 4 rfl
  have z4:=freeOf hq1 4
  have y5:W1.cell? ⟨w.heap.size+1,5,none⟩=some (.string ⟨#[]⟩):=cellOf hq1 5 rfl
  have z5:=freeOf hq1 5
  have y6:W1.cell? ⟨w.heap.size+1,6,none⟩=some (.slice none 0 0):=cellOf hq1 6 rfl
  have z6:=freeOf hq1 6
  have y7:W1.cell? ⟨w.heap.size+1,7,none⟩=some (.slice none 0 0):=cellOf hq1 7 rfl
  have z7:=freeOf hq1 7
  clear hq1
  clear hr hW1
  change Calls _ _ #[.pointer (some ⟨g,0,none⟩),.agg #[.int .i64 3,.int .u64 (k:Int)]] _ _
  go_enter Tryz.func98,Tryz.ntmps98
  go_upto_region 1 with fail
  rw [HW1.out]
  go_wp2_with fail
  refine bodyPost_ret (v:=.agg #[.int .i64 2,.bool true,.bool false,.slice none 0 0,.int .i64 0,.string ⟨#[]⟩,.slice none 0 0,.slice none 0 0]) (by simp [results,Tryz.results98,go_sem,y0,y1,y2,y3,y4,y5,y6,y7]) rfl ?_
  exact ValP.yes (leafT 2 true ⟨#[]⟩) rfl rfl (by rw [MT.bare_eq];rfl) HFIN.out.1 HFIN.out.2
theorem behind_uint {w0:World} {g d:Nat} {l:List Nat} {n:Nat} {w:World} (hr:RdP w0 g l d n w) (k:Nat) (hk:k<18446744073709551616) (R:RC MT) (hRR:liftN n l (.inl (pkNum false k))=R) :
    Calls Tryz.prog 98 #[.pointer (some ⟨g,0,none⟩),hmV (4,k)] w (ValP w0 g d R w):=by
  have HRR:=Lib.hid hRR
  clear hRR
  obtain ⟨W1,hW1⟩:∃ x,(w.alloc (.cells #[.int .i64 4,.int .u64 (k:Int)] 129)).alloc (.cells #[.int .i64 0,.bool false,.bool false,.slice none 0 0,.int .i64 0,.string ⟨#[]⟩,.slice none 0 0,.slice none 0 0] 29)=x:=⟨_,rfl⟩
  have HB:=Lib.hid (show BhP w0 g d n l 4 k w W1 by rw [← hW1];exact bhP_new hr 4 k)
  have HW1:=Lib.hid hW1
  have y0:W1.cell? ⟨w.heap.size,0,none⟩=some (.int .i64 4):=cellOf HB.out.q0 0 rfl
  have y1:W1.cell? ⟨w.heap.size,1,none⟩=some (.int .u64 (k:Int)):=cellOf HB.out.q0 1 rfl
  have HGN:=Lib.hid (show w.heap.size+1 ≠ g by have:=HB.out.g;omega)
  have KV:=Lib.hid (((whole_pk false k hk W1:Calls Tryz.prog _ _ W1 (ValN W1 (.inl (pkNum false k))))).mono (fun _ _ h=>ValN.valP (d:=d) HB.out.st.rd h))
  rw [HRR.out] at KV
  clear hr hW1
  change Calls _ _ #[.pointer (some ⟨g,0,none⟩),.agg #[.int .i64 4,.int .u64 (k:Int)]] _ _
  go_enter Tryz.func98,Tryz.ntmps98
  go_upto_region 1 with fail
  rw [HW1.out]
  go_wp2_with fail
  refine KV.out.mono ?_
  intro r w2 hp
  cases R with
  | inr x =>
    obtain ⟨rfl,l',d',n',h2⟩:=hp
    have H3:=Lib.hid (HB.out.st.trans h2)
    clear h2 KV
    go_wp2_with fail
    exact ⟨rfl,ValP.no rfl (ThrowP.mk H3.out)⟩
  | inl q =>
    obtain ⟨t,l2,n2⟩:=q
    obtain ⟨t',rfl,hbare,hind,h2⟩:=hp
    have HST:=Lib.hid (HB.out.st.trans h2)
    have HBX:=Lib.hid ((h2.oth.block (w.heap.size+1) (by have:=HB.out.sz;omega) HGN.out).trans HB.out.q1)
    have HIN:=Lib.hid hind
    have HBA:=Lib.hid hbare
    have HZ:=Lib.hid (show w.heap.size+1<W1.heap.size by have:=HB.out.sz;omega)
    have HLO:=Lib.hid HB.out.low
    clear h2 hind hbare KV
    generalize hc:t'.c=c at *
    obtain ⟨k0,b0,ng,ma,mn,mc,ex,st,ka,kn,kc,va,vn,vc⟩:=c
    have HC:=Lib.hid hc
    clear hc
    unfold Cel.val
    have hq:=HBX.out
    clear y0 y1
    have y0:w2.cell? ⟨w.heap.size+1,0,none⟩=some (.int .i64 0):=cellOf hq 0 rfl
    have z0:=freeOf hq 0
    have y1:w2.cell? ⟨w.heap.size+1,1,none⟩=some (.bool false):=cellOf hq 1 rfl
    have z1:=freeOf hq 1
    have y2:w2.cell? ⟨w.heap.size+1,2,none⟩=some (.bool false):=cellOf hq 2 rfl
    have z2:=freeOf hq 2
    have y3:w2.cell? ⟨w.heap.size+1,3,none⟩=some (.slice none 0 0):=cellOf hq 3 rfl
    have z3:=freeOf hq 3
    have y4:w2.cell? ⟨w.heap.size+1,4,none⟩=some (.int .i64 0):=cellOf hq 4 rfl
    have z4:=freeOf hq 4
    have y5:w2.cell? ⟨w.heap.size+1,5,none⟩=some (.string ⟨#[]⟩):=cellOf hq 5 rfl
    have z5:=freeOf hq 5
    have y6:w2.cell? ⟨w.heap.size+1,6,none⟩=some (.slice none 0 0):=cellOf hq 6 rfl
    have z6:=freeOf hq 6
    have y7:w2.cell? ⟨w.heap.size+1,7,none⟩=some (.slice none 0 0):=cellOf hq 7 rfl
    have z7:=freeOf hq 7
    have HFIN:=Lib.hid (val_finP HST.out (b:=w.heap.size+1) (by omega) HGN.out (by have:=HLO.out;omega) HZ.out HIN.out (.int .i64 k0) (.bool b0) (.bool ng) (.slice ma mn mc) (.int .i64 ex) (.string st) (.slice ka kn kc) (.slice va vn vc))
    clear hq
    go_wp2_with fail
    refine bodyPost_ret (v:=.agg #[.int .i64 k0,.bool b0,.bool ng,.slice ma mn mc,.int .i64 ex,.string st,.slice ka kn kc,.slice va vn vc]) (by simp [results,Tryz.results98,go_sem,y0,y1,y2,y3,y4,y5,y6,y7]) rfl ?_
    exact ValP.yes t' rfl (by rw [HC.out];rfl) HBA.out HFIN.out.1 HFIN.out.2
theorem behind_int {w0:World} {g d:Nat} {l:List Nat} {n:Nat} {w:World} (hr:RdP w0 g l d n w) (k:Nat) (hk:k<18446744073709551616) (R:RC MT) (hRR:liftN n l (.inl (pkSigned k))=R) :
    Calls Tryz.prog 98 #[.pointer (some ⟨g,0,none⟩),hmV (5,k)] w (ValP w0 g d R w):=by
  have HRR:=Lib.hid hRR
  clear hRR
  obtain ⟨W1,hW1⟩:∃ x,(w.alloc (.cells #[.int .i64 5,.int .u64 (k:Int)] 129)).alloc (.cells #[.int .i64 0,.bool false,.bool false,.slice none 0 0,.int .i64 0,.string ⟨#[]⟩,.slice none 0 0,.slice none 0 0] 29)=x:=⟨_,rfl⟩
  have HB:=Lib.hid (show BhP w0 g d n l 5 k w W1 by rw [← hW1];exact bhP_new hr 5 k)
  have HW1:=Lib.hid hW1
  have y0:W1.cell? ⟨w.heap.size,0,none⟩=some (.int .i64 5):=cellOf HB.out.q0 0 rfl
  have y1:W1.cell? ⟨w.heap.size,1,none⟩=some (.int .u64 (k:Int)):=cellOf HB.out.q0 1 rfl
  have HGN:=Lib.hid (show w.heap.size+1 ≠ g by have:=HB.out.g;omega)
  have KV:=Lib.hid (((signed_pk k hk W1:Calls Tryz.prog _ _ W1 (ValN W1 (.inl (pkSigned k))))).mono (fun _ _ h=>ValN.valP (d:=d) HB.out.st.rd h))
  rw [HRR.out] at KV
  clear hr hW1
  change Calls _ _ #[.pointer (some ⟨g,0,none⟩),.agg #[.int .i64 5,.int .u64 (k:Int)]] _ _
  go_enter Tryz.func98,Tryz.ntmps98
  go_upto_region 1 with fail
  rw [HW1.out]
  go_wp2_with fail
  refine KV.out.mono ?_
  intro r w2 hp
  cases R with
  | inr x =>
    obtain ⟨rfl,l',d',n',h2⟩:=hp
    have H3:=Lib.hid (HB.out.st.trans h2)
    clear h2 KV
    go_wp2_with fail
    exact ⟨rfl,ValP.no rfl (ThrowP.mk H3.out)⟩
  | inl q =>
    obtain ⟨t,l2,n2⟩:=q
    obtain ⟨t',rfl,hbare,hind,h2⟩:=hp
    have HST:=Lib.hid (HB.out.st.trans h2)
    have HBX:=Lib.hid ((h2.oth.block (w.heap.size+1) (by have:=HB.out.sz;omega) HGN.out).trans HB.out.q1)
    have HIN:=Lib.hid hind
    have HBA:=Lib.hid hbare
    have HZ:=Lib.hid (show w.heap.size+1<W1.heap.size by have:=HB.out.sz;omega)
    have HLO:=Lib.hid HB.out.low
    clear h2 hind hbare KV
    generalize hc:t'.c=c at *
    obtain ⟨k0,b0,ng,ma,mn,mc,ex,st,ka,kn,kc,va,vn,vc⟩:=c
    have HC:=Lib.hid hc
    clear hc
    unfold Cel.val
    have hq:=HBX.out
    clear y0 y1
    have y0:w2.cell? ⟨w.heap.size+1,0,none⟩=some (.int .i64 0):=cellOf hq 0 rfl
    have z0:=freeOf hq 0
    have y1:w2.cell? ⟨w.heap.size+1,1,none⟩=some (.bool false):=cellOf hq 1 rfl
    have z1:=freeOf hq 1
    have y2:w2.cell? ⟨w.heap.size+1,2,none⟩=some (.bool false):=cellOf hq 2 rfl
    have z2:=freeOf hq 2
    have y3:w2.cell? ⟨w.heap.size+1,3,none⟩=some (.slice none 0 0):=cellOf hq 3 rfl
    have z3:=freeOf hq 3
    have y4:w2.cell? ⟨w.heap.size+1,4,none⟩=some (.int .i64 0):=cellOf hq 4 rfl
    have z4:=freeOf hq 4
    have y5:w2.cell? ⟨w.heap.size+1,5,none⟩=some (.string ⟨#[]⟩):=cellOf hq 5 rfl
    have z5:=freeOf hq 5
    have y6:w2.cell? ⟨w.heap.size+1,6,none⟩=some (.slice none 0 0):=cellOf hq 6 rfl
    have z6:=freeOf hq 6
    have y7:w2.cell? ⟨w.heap.size+1,7,none⟩=some (.slice none 0 0):=cellOf hq 7 rfl
    have z7:=freeOf hq 7
    have HFIN:=Lib.hid (val_finP HST.out (b:=w.heap.size+1) (by omega) HGN.out (by have:=HLO.out;omega) HZ.out HIN.out (.int .i64 k0) (.bool b0) (.bool ng) (.slice ma mn mc) (.int .i64 ex) (.string st) (.slice ka kn kc) (.slice va vn vc))
    clear hq
    go_wp2_with fail
    refine bodyPost_ret (v:=.agg #[.int .i64 k0,.bool b0,.bool ng,.slice ma mn mc,.int .i64 ex,.string st,.slice ka kn kc,.slice va vn vc]) (by simp [results,Tryz.results98,go_sem,y0,y1,y2,y3,y4,y5,y6,y7]) rfl ?_
    exact ValP.yes t' rfl (by rw [HC.out];rfl) HBA.out HFIN.out.1 HFIN.out.2
theorem behind_half {w0:World} {g d:Nat} {l:List Nat} {n:Nat} {w:World} (hr:RdP w0 g l d n w) (k:Nat) (hk:k<18446744073709551616) (R:RC MT) (hRR:liftN n l (pkFloat 32 k)=R) :
    Calls Tryz.prog 98 #[.pointer (some ⟨g,0,none⟩),hmV (12,k)] w (ValP w0 g d R w):=by
  have HRR:=Lib.hid hRR
  clear hRR
  obtain ⟨W1,hW1⟩:∃ x,(w.alloc (.cells #[.int .i64 12,.int .u64 (k:Int)] 129)).alloc (.cells #[.int .i64 0,.bool false,.bool false,.slice none 0 0,.int .i64 0,.string ⟨#[]⟩,.slice none 0 0,.slice none 0 0] 29)=x:=⟨_,rfl⟩
  have HB:=Lib.hid (show BhP w0 g d n l 12 k w W1 by rw [← hW1];exact bhP_new hr 12 k)
  have HW1:=Lib.hid hW1
  have y0:W1.cell? ⟨w.heap.size,0,none⟩=some (.int .i64 12):=cellOf HB.out.q0 0 rfl
  have y1:W1.cell? ⟨w.heap.size,1,none⟩=some (.int .u64 (k:Int)):=cellOf HB.out.q0 1 rfl
  have HGN:=Lib.hid (show w.heap.size+1 ≠ g by have:=HB.out.g;omega)
  have KV:=Lib.hid (((float_pk 32 k hk W1:Calls Tryz.prog _ _ W1 (ValN W1 (pkFloat 32 k)))).mono (fun _ _ h=>ValN.valP (d:=d) HB.out.st.rd h))
  rw [HRR.out] at KV
  clear hr hW1
  change Calls _ _ #[.pointer (some ⟨g,0,none⟩),.agg #[.int .i64 12,.int .u64 (k:Int)]] _ _
  go_enter Tryz.func98,Tryz.ntmps98
  go_upto_region 1 with fail
  rw [HW1.out]
  go_wp2_with fail
  refine KV.out.mono ?_
  intro r w2 hp
  cases R with
  | inr x =>
    obtain ⟨rfl,l',d',n',h2⟩:=hp
    have H3:=Lib.hid (HB.out.st.trans h2)
    clear h2 KV
    go_wp2_with fail
    exact ⟨rfl,ValP.no rfl (ThrowP.mk H3.out)⟩
  | inl q =>
    obtain ⟨t,l2,n2⟩:=q
    obtain ⟨t',rfl,hbare,hind,h2⟩:=hp
    have HST:=Lib.hid (HB.out.st.trans h2)
    have HBX:=Lib.hid ((h2.oth.block (w.heap.size+1) (by have:=HB.out.sz;omega) HGN.out).trans HB.out.q1)
    have HIN:=Lib.hid hind
    have HBA:=Lib.hid hbare
    have HZ:=Lib.hid (show w.heap.size+1<W1.heap.size by have:=HB.out.sz;omega)
    have HLO:=Lib.hid HB.out.low
    clear h2 hind hbare KV
    generalize hc:t'.c=c at *
    obtain ⟨k0,b0,ng,ma,mn,mc,ex,st,ka,kn,kc,va,vn,vc⟩:=c
    have HC:=Lib.hid hc
    clear hc
    unfold Cel.val
    have hq:=HBX.out
    clear y0 y1
    have y0:w2.cell? ⟨w.heap.size+1,0,none⟩=some (.int .i64 0):=cellOf hq 0 rfl
    have z0:=freeOf hq 0
    have y1:w2.cell? ⟨w.heap.size+1,1,none⟩=some (.bool false):=cellOf hq 1 rfl
    have z1:=freeOf hq 1
    have y2:w2.cell? ⟨w.heap.size+1,2,none⟩=some (.bool false):=cellOf hq 2 rfl
    have z2:=freeOf hq 2
    have y3:w2.cell? ⟨w.heap.size+1,3,none⟩=some (.slice none 0 0):=cellOf hq 3 rfl
    have z3:=freeOf hq 3
    have y4:w2.cell? ⟨w.heap.size+1,4,none⟩=some (.int .i64 0):=cellOf hq 4 rfl
    have z4:=freeOf hq 4
    have y5:w2.cell? ⟨w.heap.size+1,5,none⟩=some (.string ⟨#[]⟩):=cellOf hq 5 rfl
    have z5:=freeOf hq 5
    have y6:w2.cell? ⟨w.heap.size+1,6,none⟩=some (.slice none 0 0):=cellOf hq 6 rfl
    have z6:=freeOf hq 6
    have y7:w2.cell? ⟨w.heap.size+1,7,none⟩=some (.slice none 0 0):=cellOf hq 7 rfl
    have z7:=freeOf hq 7
    have HFIN:=Lib.hid (val_finP HST.out (b:=w.heap.size+1) (by omega) HGN.out (by have:=HLO.out;omega) HZ.out HIN.out (.int .i64 k0) (.bool b0) (.bool ng) (.slice ma mn mc) (.int .i64 ex) (.string st) (.slice ka kn kc) (.slice va vn vc))
    clear hq
    go_wp2_with fail
    refine bodyPost_ret (v:=.agg #[.int .i64 k0,.bool b0,.bool ng,.slice ma mn mc,.int .i64 ex,.string st,.slice ka kn kc,.slice va vn vc]) (by simp [results,Tryz.results98,go_sem,y0,y1,y2,y3,y4,y5,y6,y7]) rfl ?_
    exact ValP.yes t' rfl (by rw [HC.out];rfl) HBA.out HFIN.out.1 HFIN.out.2
theorem behind_float {w0:World} {g d:Nat} {l:List Nat} {n:Nat} {w:World} (hr:RdP w0 g l d n w) (k:Nat) (hk:k<18446744073709551616) (R:RC MT) (hRR:liftN n l (pkFloat 64 k)=R) :
    Calls Tryz.prog 98 #[.pointer (some ⟨g,0,none⟩),hmV (6,k)] w (ValP w0 g d R w):=by
  have HRR:=Lib.hid hRR
  clear hRR
  obtain ⟨W1,hW1⟩:∃ x,(w.alloc (.cells #[.int .i64 6,.int .u64 (k:Int)] 129)).alloc (.cells #[.int .i64 0,.bool false,.bool false,.slice none 0 0,.int .i64 0,.string ⟨#[]⟩,.slice none 0 0,.slice none 0 0] 29)=x:=⟨_,rfl⟩
  have HB:=Lib.hid (show BhP w0 g d n l 6 k w W1 by rw [← hW1];exact bhP_new hr 6 k)
  have HW1:=Lib.hid hW1
  have y0:W1.cell? ⟨w.heap.size,0,none⟩=some (.int .i64 6):=cellOf HB.out.q0 0 rfl
  have y1:W1.cell? ⟨w.heap.size,1,none⟩=some (.int .u64 (k:Int)):=cellOf HB.out.q0 1 rfl
  have HGN:=Lib.hid (show w.heap.size+1 ≠ g by have:=HB.out.g;omega)
  have KV:=Lib.hid (((float_pk 64 k hk W1:Calls Tryz.prog _ _ W1 (ValN W1 (pkFloat 64 k)))).mono (fun _ _ h=>ValN.valP (d:=d) HB.out.st.rd h))
  rw [HRR.out] at KV
  clear hr hW1
  change Calls _ _ #[.pointer (some ⟨g,0,none⟩),.agg #[.int .i64 6,.int .u64 (k:Int)]] _ _
  go_enter Tryz.func98,Tryz.ntmps98
  go_upto_region 1 with fail
  rw [HW1.out]
  go_wp2_with fail
  refine KV.out.mono ?_
  intro r w2 hp
  cases R with
  | inr x =>
    obtain ⟨rfl,l',d',n',h2⟩:=hp
    have H3:=Lib.hid (HB.out.st.trans h2)
    clear h2 KV
    go_wp2_with fail
    exact ⟨rfl,ValP.no rfl (ThrowP.mk H3.out)⟩
  | inl q =>
    obtain ⟨t,l2,n2⟩:=q
    obtain ⟨t',rfl,hbare,hind,h2⟩:=hp
    have HST:=Lib.hid (HB.out.st.trans h2)
    have HBX:=Lib.hid ((h2.oth.block (w.heap.size+1) (by have:=HB.out.sz;omega) HGN.out).trans HB.out.q1)
    have HIN:=Lib.hid hind
    have HBA:=Lib.hid hbare
    have HZ:=Lib.hid (show w.heap.size+1<W1.heap.size by have:=HB.out.sz;omega)
    have HLO:=Lib.hid HB.out.low
    clear h2 hind hbare KV
    generalize hc:t'.c=c at *
    obtain ⟨k0,b0,ng,ma,mn,mc,ex,st,ka,kn,kc,va,vn,vc⟩:=c
    have HC:=Lib.hid hc
    clear hc
    unfold Cel.val
    have hq:=HBX.out
    clear y0 y1
    have y0:w2.cell? ⟨w.heap.size+1,0,none⟩=some (.int .i64 0):=cellOf hq 0 rfl
    have z0:=freeOf hq 0
    have y1:w2.cell? ⟨w.heap.size+1,1,none⟩=some (.bool false):=cellOf hq 1 rfl
    have z1:=freeOf hq 1
    have y2:w2.cell? ⟨w.heap.size+1,2,none⟩=some (.bool false):=cellOf hq 2 rfl
    have z2:=freeOf hq 2
    have y3:w2.cell? ⟨w.heap.size+1,3,none⟩=some (.slice none 0 0):=cellOf hq 3 rfl
    have z3:=freeOf hq 3
    have y4:w2.cell? ⟨w.heap.size+1,4,none⟩=some (.int .i64 0):=cellOf hq 4 rfl
    have z4:=freeOf hq 4
    have y5:w2.cell? ⟨w.heap.size+1,5,none⟩=some (.string ⟨#[]⟩):=cellOf hq 5 rfl
    have z5:=freeOf hq 5
    have y6:w2.cell? ⟨w.heap.size+1,6,none⟩=some (.slice none 0 0):=cellOf hq 6 rfl
    have z6:=freeOf hq 6
    have y7:w2.cell? ⟨w.heap.size+1,7,none⟩=some (.slice none 0 0):=cellOf hq 7 rfl
    have z7:=freeOf hq 7
    have HFIN:=Lib.hid (val_finP HST.out (b:=w.heap.size+1) (by omega) HGN.out (by have:=HLO.out;omega) HZ.out HIN.out (.int .i64 k0) (.bool b0) (.bool ng) (.slice ma mn mc) (.int .i64 ex) (.string st) (.slice ka kn kc) (.slice va vn vc))
    clear hq
    go_wp2_with fail
    refine bodyPost_ret (v:=.agg #[.int .i64 k0,.bool b0,.bool ng,.slice ma mn mc,.int .i64 ex,.string st,.slice ka kn kc,.slice va vn vc]) (by simp [results,Tryz.results98,go_sem,y0,y1,y2,y3,y4,y5,y6,y7]) rfl ?_
    exact ValP.yes t' rfl (by rw [HC.out];rfl) HBA.out HFIN.out.1 HFIN.out.2
theorem behind_array {w0:World} {g d:Nat} {l:List Nat} {n:Nat} {w:World} (hr:RdP w0 g l d n w) (k:Nat) (hk:k<18446744073709551616) (V:List Nat→Nat→RC MT) (hV:ValPC w0 g d V) (hN:NdC V) (hn:n≤2000) (R:RC MT) (hRR:pkArr V k l n=R) :
    Calls Tryz.prog 98 #[.pointer (some ⟨g,0,none⟩),hmV (9,k)] w (ValP w0 g d R w):=by
  have HRR:=Lib.hid hRR
  clear hRR
  obtain ⟨W1,hW1⟩:∃ x,(w.alloc (.cells #[.int .i64 9,.int .u64 (k:Int)] 129)).alloc (.cells #[.int .i64 0,.bool false,.bool false,.slice none 0 0,.int .i64 0,.string ⟨#[]⟩,.slice none 0 0,.slice none 0 0] 29)=x:=⟨_,rfl⟩
  have HB:=Lib.hid (show BhP w0 g d n l 9 k w W1 by rw [← hW1];exact bhP_new hr 9 k)
  have HW1:=Lib.hid hW1
  have y0:W1.cell? ⟨w.heap.size,0,none⟩=some (.int .i64 9):=cellOf HB.out.q0 0 rfl
  have y1:W1.cell? ⟨w.heap.size,1,none⟩=some (.int .u64 (k:Int)):=cellOf HB.out.q0 1 rfl
  have HGN:=Lib.hid (show w.heap.size+1 ≠ g by have:=HB.out.g;omega)
  have KV:=Lib.hid (array_pk V hV hN HB.out.st.rd 9 k hk hn)
  rw [HRR.out] at KV
  clear hr hW1
  change Calls _ _ #[.pointer (some ⟨g,0,none⟩),.agg #[.int .i64 9,.int .u64 (k:Int)]] _ _
  go_enter Tryz.func98,Tryz.ntmps98
  go_upto_region 1 with fail
  rw [HW1.out]
  go_wp2_with fail
  refine KV.out.mono ?_
  intro r w2 hp
  cases R with
  | inr x =>
    obtain ⟨rfl,l',d',n',h2⟩:=hp
    have H3:=Lib.hid (HB.out.st.trans h2)
    clear h2 KV
    go_wp2_with fail
    exact ⟨rfl,ValP.no rfl (ThrowP.mk H3.out)⟩
  | inl q =>
    obtain ⟨t,l2,n2⟩:=q
    obtain ⟨t',rfl,hbare,hind,h2⟩:=hp
    have HST:=Lib.hid (HB.out.st.trans h2)
    have HBX:=Lib.hid ((h2.oth.block (w.heap.size+1) (by have:=HB.out.sz;omega) HGN.out).trans HB.out.q1)
    have HIN:=Lib.hid hind
    have HBA:=Lib.hid hbare
    have HZ:=Lib.hid (show w.heap.size+1<W1.heap.size by have:=HB.out.sz;omega)
    have HLO:=Lib.hid HB.out.low
    clear h2 hind hbare KV
    generalize hc:t'.c=c at *
    obtain ⟨k0,b0,ng,ma,mn,mc,ex,st,ka,kn,kc,va,vn,vc⟩:=c
    have HC:=Lib.hid hc
    clear hc
    unfold Cel.val
    have hq:=HBX.out
    clear y0 y1
    have y0:w2.cell? ⟨w.heap.size+1,0,none⟩=some (.int .i64 0):=cellOf hq 0 rfl
    have z0:=freeOf hq 0
    have y1:w2.cell? ⟨w.heap.size+1,1,none⟩=some (.bool false):=cellOf hq 1 rfl
    have z1:=freeOf hq 1
    have y2:w2.cell? ⟨w.heap.size+1,2,none⟩=some (.bool false):=cellOf hq 2 rfl
    have z2:=freeOf hq 2
    have y3:w2.cell? ⟨w.heap.size+1,3,none⟩=some (.slice none 0 0):=cellOf hq 3 rfl
    have z3:=freeOf hq 3
    have y4:w2.cell? ⟨w.heap.size+1,4,none⟩=some (.int .i64 0):=cellOf hq 4 rfl
    have z4:=freeOf hq 4
    have y5:w2.cell? ⟨w.heap.size+1,5,none⟩=some (.string ⟨#[]⟩):=cellOf hq 5 rfl
    have z5:=freeOf hq 5
    have y6:w2.cell? ⟨w.heap.size+1,6,none⟩=some (.slice none 0 0):=cellOf hq 6 rfl
    have z6:=freeOf hq 6
    have y7:w2.cell? ⟨w.heap.size+1,7,none⟩=some (.slice none 0 0):=cellOf hq 7 rfl
    have z7:=freeOf hq 7
    have HFIN:=Lib.hid (val_finP HST.out (b:=w.heap.size+1) (by omega) HGN.out (by have:=HLO.out;omega) HZ.out HIN.out (.int .i64 k0) (.bool b0) (.bool ng) (.slice ma mn mc) (.int .i64 ex) (.string st) (.slice ka kn kc) (.slice va vn vc))
    clear hq
    go_wp2_with fail
    refine bodyPost_ret (v:=.agg #[.int .i64 k0,.bool b0,.bool ng,.slice ma mn mc,.int .i64 ex,.string st,.slice ka kn kc,.slice va vn vc]) (by simp [results,Tryz.results98,go_sem,y0,y1,y2,y3,y4,y5,y6,y7]) rfl ?_
    exact ValP.yes t' rfl (by rw [HC.out];rfl) HBA.out HFIN.out.1 HFIN.out.2
theorem behind_map {w0:World} {g d:Nat} {l:List Nat} {n:Nat} {w:World} (hr:RdP w0 g l d n w) (k:Nat) (hU:UT w0) (hk:k<18446744073709551616) (V:List Nat→Nat→RC MT) (hV:ValPC w0 g d V) (hN:NdC V) (hn:n≤2000) (R:RC MT) (hRR:pkObj V k l n=R) :
    Calls Tryz.prog 98 #[.pointer (some ⟨g,0,none⟩),hmV (10,k)] w (ValP w0 g d R w):=by
  have HRR:=Lib.hid hRR
  clear hRR
  obtain ⟨W1,hW1⟩:∃ x,(w.alloc (.cells #[.int .i64 10,.int .u64 (k:Int)] 129)).alloc (.cells #[.int .i64 0,.bool false,.bool false,.slice none 0 0,.int .i64 0,.string ⟨#[]⟩,.slice none 0 0,.slice none 0 0] 29)=x:=⟨_,rfl⟩
  have HB:=Lib.hid (show BhP w0 g d n l 10 k w W1 by rw [← hW1];exact bhP_new hr 10 k)
  have HW1:=Lib.hid hW1
  have y0:W1.cell? ⟨w.heap.size,0,none⟩=some (.int .i64 10):=cellOf HB.out.q0 0 rfl
  have y1:W1.cell? ⟨w.heap.size,1,none⟩=some (.int .u64 (k:Int)):=cellOf HB.out.q0 1 rfl
  have HGN:=Lib.hid (show w.heap.size+1 ≠ g by have:=HB.out.g;omega)
  have KV:=Lib.hid (object_pk hU V hV hN HB.out.st.rd 10 k hk hn)
  rw [HRR.out] at KV
  clear hr hW1
  change Calls _ _ #[.pointer (some ⟨g,0,none⟩),.agg #[.int .i64 10,.int .u64 (k:Int)]] _ _
  go_enter Tryz.func98,Tryz.ntmps98
  go_upto_region 1 with fail
  rw [HW1.out]
  go_wp2_with fail
  refine KV.out.mono ?_
  intro r w2 hp
  cases R with
  | inr x =>
    obtain ⟨rfl,l',d',n',h2⟩:=hp
    have H3:=Lib.hid (HB.out.st.trans h2)
    clear h2 KV
    go_wp2_with fail
    exact ⟨rfl,ValP.no rfl (ThrowP.mk H3.out)⟩
  | inl q =>
    obtain ⟨t,l2,n2⟩:=q
    obtain ⟨t',rfl,hbare,hind,h2⟩:=hp
    have HST:=Lib.hid (HB.out.st.trans h2)
    have HBX:=Lib.hid ((h2.oth.block (w.heap.size+1) (by have:=HB.out.sz;omega) HGN.out).trans HB.out.q1)
    have HIN:=Lib.hid hind
    have HBA:=Lib.hid hbare
    have HZ:=Lib.hid (show w.heap.size+1<W1.heap.size by have:=HB.out.sz;omega)
    have HLO:=Lib.hid HB.out.low
    clear h2 hind hbare KV
    generalize hc:t'.c=c at *
    obtain ⟨k0,b0,ng,ma,mn,mc,ex,st,ka,kn,kc,va,vn,vc⟩:=c
    have HC:=Lib.hid hc
    clear hc
    unfold Cel.val
    have hq:=HBX.out
    clear y0 y1
    have y0:w2.cell? ⟨w.heap.size+1,0,none⟩=some (.int .i64 0):=cellOf hq 0 rfl
    have z0:=freeOf hq 0
    have y1:w2.cell? ⟨w.heap.size+1,1,none⟩=some (.bool false):=cellOf hq 1 rfl
    have z1:=freeOf hq 1
    have y2:w2.cell? ⟨w.heap.size+1,2,none⟩=some (.bool false):=cellOf hq 2 rfl
    have z2:=freeOf hq 2
    have y3:w2.cell? ⟨w.heap.size+1,3,none⟩=some (.slice none 0 0):=cellOf hq 3 rfl
    have z3:=freeOf hq 3
    have y4:w2.cell? ⟨w.heap.size+1,4,none⟩=some (.int .i64 0):=cellOf hq 4 rfl
    have z4:=freeOf hq 4
    have y5:w2.cell? ⟨w.heap.size+1,5,none⟩=some (.string ⟨#[]⟩):=cellOf hq 5 rfl
    have z5:=freeOf hq 5
    have y6:w2.cell? ⟨w.heap.size+1,6,none⟩=some (.slice none 0 0):=cellOf hq 6 rfl
    have z6:=freeOf hq 6
    have y7:w2.cell? ⟨w.heap.size+1,7,none⟩=some (.slice none 0 0):=cellOf hq 7 rfl
    have z7:=freeOf hq 7
    have HFIN:=Lib.hid (val_finP HST.out (b:=w.heap.size+1) (by omega) HGN.out (by have:=HLO.out;omega) HZ.out HIN.out (.int .i64 k0) (.bool b0) (.bool ng) (.slice ma mn mc) (.int .i64 ex) (.string st) (.slice ka kn kc) (.slice va vn vc))
    clear hq
    go_wp2_with fail
    refine bodyPost_ret (v:=.agg #[.int .i64 k0,.bool b0,.bool ng,.slice ma mn mc,.int .i64 ex,.string st,.slice ka kn kc,.slice va vn vc]) (by simp [results,Tryz.results98,go_sem,y0,y1,y2,y3,y4,y5,y6,y7]) rfl ?_
    exact ValP.yes t' rfl (by rw [HC.out];rfl) HBA.out HFIN.out.1 HFIN.out.2
theorem behind_text {w0:World} {g d:Nat} {l:List Nat} {n:Nat} {w:World} (hr:RdP w0 g l d n w) (k:Nat) (hU:UT w0) (hk:k<18446744073709551616) :
    Calls Tryz.prog 98 #[.pointer (some ⟨g,0,none⟩),hmV (7,k)] w (ValP w0 g d (txtW 4 n (pkText k l)) w):=by
  obtain ⟨W1,hW1⟩:∃ x,(w.alloc (.cells #[.int .i64 7,.int .u64 (k:Int)] 129)).alloc (.cells #[.int .i64 0,.bool false,.bool false,.slice none 0 0,.int .i64 0,.string ⟨#[]⟩,.slice none 0 0,.slice none 0 0] 29)=x:=⟨_,rfl⟩
  have HB:=Lib.hid (show BhP w0 g d n l 7 k w W1 by rw [← hW1];exact bhP_new hr 7 k)
  have HW1:=Lib.hid hW1
  have y0:W1.cell? ⟨w.heap.size,0,none⟩=some (.int .i64 7):=cellOf HB.out.q0 0 rfl
  have y1:W1.cell? ⟨w.heap.size,1,none⟩=some (.int .u64 (k:Int)):=cellOf HB.out.q0 1 rfl
  have HGN:=Lib.hid (show w.heap.size+1 ≠ g by have:=HB.out.g;omega)
  have KV:=Lib.hid (text_pk hU HB.out.st.rd 7 k hk)
  have HLEN:=Lib.hid (fun s r h=>pkText_le (k:=k) (l:=l) (s:=s) (r:=r) h)
  clear hr hW1
  change Calls _ _ #[.pointer (some ⟨g,0,none⟩),.agg #[.int .i64 7,.int .u64 (k:Int)]] _ _
  go_enter Tryz.func98,Tryz.ntmps98
  go_upto_region 1 with fail
  rw [HW1.out]
  go_wp2_with fail
  refine KV.out.mono ?_
  intro r w2 hp
  generalize pkText k l=Q at *
  cases Q with
  | inr x =>
    obtain ⟨rfl,l',d',n',h2⟩:=hp
    have H3:=Lib.hid (HB.out.st.trans h2)
    clear h2 KV
    go_wp2_with fail
    exact ⟨rfl,ValP.no rfl (ThrowP.mk H3.out)⟩
  | inl q =>
    obtain ⟨s,l2⟩:=q
    obtain ⟨rfl,h2⟩:=hp
    have HST:=Lib.hid (HB.out.st.trans h2)
    have HBX:=Lib.hid ((h2.oth.block (w.heap.size+1) (by have:=HB.out.sz;omega) HGN.out).trans HB.out.q1)
    have HSL:=Lib.hid (show (strB s).size≤maxLen by rw [strB_size];have:=HLEN.out s l2 rfl;unfold maxLen;omega)
    have HLO:=Lib.hid HB.out.low
    dsimp only [strV]
    clear h2 KV
    generalize hsb:strB s=sb at *
    have HSB:=Lib.hid hsb
    clear hsb
    have HFIN:=Lib.hid (val_finP HST.out (t':=leafT 4 false sb) (b:=w.heap.size+1) (z:=w.heap.size+2) (by omega) HGN.out (by have:=HLO.out;omega) (by omega) (fun W _ _=>leafT_rep W 4 false sb (by decide) HSL.out) (.int .i64 4) (.bool false) (.bool false) (.slice none 0 0) (.int .i64 0) (.string sb) (.slice none 0 0) (.slice none 0 0))
    have hq:=HBX.out
    clear y0 y1
    have y0:w2.cell? ⟨w.heap.size+1,0,none⟩=some (.int .i64 0):=cellOf hq 0 rfl
    have z0:=freeOf hq 0
    have y1:w2.cell? ⟨w.heap.size+1,1,none⟩=some (.bool false):=cellOf hq 1 rfl
    have z1:=freeOf hq 1
    have y2:w2.cell? ⟨w.heap.size+1,2,none⟩=some (.bool false):=cellOf hq 2 rfl
    have z2:=freeOf hq 2
    have y3:w2.cell? ⟨w.heap.size+1,3,none⟩=some (.slice none 0 0):=cellOf hq 3 rfl
    have z3:=freeOf hq 3
    have y4:w2.cell? ⟨w.heap.size+1,4,none⟩=some (.int .i64 0):=cellOf hq 4 rfl
    have z4:=freeOf hq 4
    have y5:w2.cell? ⟨w.heap.size+1,5,none⟩=some (.string ⟨#[]⟩):=cellOf hq 5 rfl
    have z5:=freeOf hq 5
    have y6:w2.cell? ⟨w.heap.size+1,6,none⟩=some (.slice none 0 0):=cellOf hq 6 rfl
    have z6:=freeOf hq 6
    have y7:w2.cell? ⟨w.heap.size+1,7,none⟩=some (.slice none 0 0):=cellOf hq 7 rfl
    have z7:=freeOf hq 7
    clear hq
    go_wp2_with fail
    refine bodyPost_ret (v:=.agg #[.int .i64 4,.bool false,.bool false,.slice none 0 0,.int .i64 0,.string sb,.slice none 0 0,.slice none 0 0]) (by simp [results,Tryz.results98,go_sem,y0,y1,y2,y3,y4,y5,y6,y7]) rfl ?_
    exact ValP.yes (leafT 4 false sb) rfl rfl (by rw [MT.bare_eq,HSB.out];rfl) HFIN.out.1 HFIN.out.2
theorem behind_bytes {w0:World} {g d:Nat} {l:List Nat} {n:Nat} {w:World} (hr:RdP w0 g l d n w) (k:Nat) (hk:k<18446744073709551616) :
    Calls Tryz.prog 98 #[.pointer (some ⟨g,0,none⟩),hmV (8,k)] w (ValP w0 g d (txtW 5 n (pkBytes k l)) w):=by
  obtain ⟨W1,hW1⟩:∃ x,(w.alloc (.cells #[.int .i64 8,.int .u64 (k:Int)] 129)).alloc (.cells #[.int .i64 0,.bool false,.bool false,.slice none 0 0,.int .i64 0,.string ⟨#[]⟩,.slice none 0 0,.slice none 0 0] 29)=x:=⟨_,rfl⟩
  have HB:=Lib.hid (show BhP w0 g d n l 8 k w W1 by rw [← hW1];exact bhP_new hr 8 k)
  have HW1:=Lib.hid hW1
  have y0:W1.cell? ⟨w.heap.size,0,none⟩=some (.int .i64 8):=cellOf HB.out.q0 0 rfl
  have y1:W1.cell? ⟨w.heap.size,1,none⟩=some (.int .u64 (k:Int)):=cellOf HB.out.q0 1 rfl
  have HGN:=Lib.hid (show w.heap.size+1 ≠ g by have:=HB.out.g;omega)
  have KV:=Lib.hid (bytes_pk HB.out.st.rd 8 k hk)
  have HLEN:=Lib.hid (fun s r h=>pkBytes_le (k:=k) (l:=l) (s:=s) (r:=r) h)
  clear hr hW1
  change Calls _ _ #[.pointer (some ⟨g,0,none⟩),.agg #[.int .i64 8,.int .u64 (k:Int)]] _ _
  go_enter Tryz.func98,Tryz.ntmps98
  go_upto_region 1 with fail
  rw [HW1.out]
  go_wp2_with fail
  refine KV.out.mono ?_
  intro r w2 hp
  generalize pkBytes k l=Q at *
  cases Q with
  | inr x =>
    obtain ⟨rfl,l',d',n',h2⟩:=hp
    have H3:=Lib.hid (HB.out.st.trans h2)
    clear h2 KV
    go_wp2_with fail
    exact ⟨rfl,ValP.no rfl (ThrowP.mk H3.out)⟩
  | inl q =>
    obtain ⟨s,l2⟩:=q
    obtain ⟨rfl,h2⟩:=hp
    have HST:=Lib.hid (HB.out.st.trans h2)
    have HBX:=Lib.hid ((h2.oth.block (w.heap.size+1) (by have:=HB.out.sz;omega) HGN.out).trans HB.out.q1)
    have HSL:=Lib.hid (show (strB s).size≤maxLen by rw [strB_size];have:=HLEN.out s l2 rfl;unfold maxLen;omega)
    have HLO:=Lib.hid HB.out.low
    dsimp only [strV]
    clear h2 KV
    generalize hsb:strB s=sb at *
    have HSB:=Lib.hid hsb
    clear hsb
    have HFIN:=Lib.hid (val_finP HST.out (t':=leafT 5 false sb) (b:=w.heap.size+1) (z:=w.heap.size+2) (by omega) HGN.out (by have:=HLO.out;omega) (by omega) (fun W _ _=>leafT_rep W 5 false sb (by decide) HSL.out) (.int .i64 5) (.bool false) (.bool false) (.slice none 0 0) (.int .i64 0) (.string sb) (.slice none 0 0) (.slice none 0 0))
    have hq:=HBX.out
    clear y0 y1
    have y0:w2.cell? ⟨w.heap.size+1,0,none⟩=some (.int .i64 0):=cellOf hq 0 rfl
    have z0:=freeOf hq 0
    have y1:w2.cell? ⟨w.heap.size+1,1,none⟩=some (.bool false):=cellOf hq 1 rfl
    have z1:=freeOf hq 1
    have y2:w2.cell? ⟨w.heap.size+1,2,none⟩=some (.bool false):=cellOf hq 2 rfl
    have z2:=freeOf hq 2
    have y3:w2.cell? ⟨w.heap.size+1,3,none⟩=some (.slice none 0 0):=cellOf hq 3 rfl
    have z3:=freeOf hq 3
    have y4:w2.cell? ⟨w.heap.size+1,4,none⟩=some (.int .i64 0):=cellOf hq 4 rfl
    have z4:=freeOf hq 4
    have y5:w2.cell? ⟨w.heap.size+1,5,none⟩=some (.string ⟨#[]⟩):=cellOf hq 5 rfl
    have z5:=freeOf hq 5
    have y6:w2.cell? ⟨w.heap.size+1,6,none⟩=some (.slice none 0 0):=cellOf hq 6 rfl
    have z6:=freeOf hq 6
    have y7:w2.cell? ⟨w.heap.size+1,7,none⟩=some (.slice none 0 0):=cellOf hq 7 rfl
    have z7:=freeOf hq 7
    clear hq
    go_wp2_with fail
    refine bodyPost_ret (v:=.agg #[.int .i64 5,.bool false,.bool false,.slice none 0 0,.int .i64 0,.string sb,.slice none 0 0,.slice none 0 0]) (by simp [results,Tryz.results98,go_sem,y0,y1,y2,y3,y4,y5,y6,y7]) rfl ?_
    exact ValP.yes (leafT 5 false sb) rfl rfl (by rw [MT.bare_eq,HSB.out];rfl) HFIN.out.1 HFIN.out.2
theorem behind_none0 {w0:World} {g d:Nat} {l:List Nat} {n:Nat} {w:World} (hr:RdP w0 g l d n w) (k:Nat) :
    Calls Tryz.prog 98 #[.pointer (some ⟨g,0,none⟩),hmV (0,k)] w (ValP w0 g d (.inr 3) w):=by
  obtain ⟨W1,hW1⟩:∃ x,(w.alloc (.cells #[.int .i64 0,.int .u64 (k:Int)] 129)).alloc (.cells #[.int .i64 0,.bool false,.bool false,.slice none 0 0,.int .i64 0,.string ⟨#[]⟩,.slice none 0 0,.slice none 0 0] 29)=x:=⟨_,rfl⟩
  have HB:=Lib.hid (show BhP w0 g d n l 0 k w W1 by rw [← hW1];exact bhP_new hr 0 k)
  have HW1:=Lib.hid hW1
  have y0:W1.cell? ⟨w.heap.size,0,none⟩=some (.int .i64 0):=cellOf HB.out.q0 0 rfl
  have y1:W1.cell? ⟨w.heap.size,1,none⟩=some (.int .u64 (k:Int)):=cellOf HB.out.q0 1 rfl
  have HGN:=Lib.hid (show w.heap.size+1 ≠ g by have:=HB.out.g;omega)
  clear hr hW1
  change Calls _ _ #[.pointer (some ⟨g,0,none⟩),.agg #[.int .i64 0,.int .u64 (k:Int)]] _ _
  go_enter Tryz.func98,Tryz.ntmps98
  go_upto_region 1 with fail
  rw [HW1.out]
  go_wp2_with fail
  exact ⟨rfl,ValP.no rfl (ThrowP.mk HB.out.st)⟩
theorem behind_none11 {w0:World} {g d:Nat} {l:List Nat} {n:Nat} {w:World} (hr:RdP w0 g l d n w) (k:Nat) :
    Calls Tryz.prog 98 #[.pointer (some ⟨g,0,none⟩),hmV (11,k)] w (ValP w0 g d (.inr 3) w):=by
  obtain ⟨W1,hW1⟩:∃ x,(w.alloc (.cells #[.int .i64 11,.int .u64 (k:Int)] 129)).alloc (.cells #[.int .i64 0,.bool false,.bool false,.slice none 0 0,.int .i64 0,.string ⟨#[]⟩,.slice none 0 0,.slice none 0 0] 29)=x:=⟨_,rfl⟩
  have HB:=Lib.hid (show BhP w0 g d n l 11 k w W1 by rw [← hW1];exact bhP_new hr 11 k)
  have HW1:=Lib.hid hW1
  have y0:W1.cell? ⟨w.heap.size,0,none⟩=some (.int .i64 11):=cellOf HB.out.q0 0 rfl
  have y1:W1.cell? ⟨w.heap.size,1,none⟩=some (.int .u64 (k:Int)):=cellOf HB.out.q0 1 rfl
  have HGN:=Lib.hid (show w.heap.size+1 ≠ g by have:=HB.out.g;omega)
  clear hr hW1
  change Calls _ _ #[.pointer (some ⟨g,0,none⟩),.agg #[.int .i64 11,.int .u64 (k:Int)]] _ _
  go_enter Tryz.func98,Tryz.ntmps98
  go_upto_region 1 with fail
  rw [HW1.out]
  go_wp2_with fail
  exact ⟨rfl,ValP.no rfl (ThrowP.mk HB.out.st)⟩
theorem behind_pk {w0:World} (hU:UT w0) {g d:Nat} (V:List Nat→Nat→RC MT) (hV:ValPC w0 g d V) (hN:NdC V) {l:List Nat} {n:Nat} {w:World} (hr:RdP w0 g l d n w) (m k:Nat) (hm:m<13) (hk:k<18446744073709551616) (hn:n≤2000) :
    Calls Tryz.prog 98 #[.pointer (some ⟨g,0,none⟩),hmV (m,k)] w (ValP w0 g d (pkBehind V (m,k) l n) w):=by
  have:m=0∨m=1∨m=2∨m=3∨m=4∨m=5∨m=6∨m=7∨m=8∨m=9∨m=10∨m=11∨m=12:=by omega
  rcases this with rfl | rfl | rfl | rfl | rfl | rfl | rfl | rfl | rfl | rfl | rfl | rfl | rfl
  · exact behind_none0 hr k
  · exact behind_nil hr k
  · exact behind_false hr k
  · exact behind_true hr k
  · exact behind_uint hr k hk _ rfl
  · exact behind_int hr k hk _ rfl
  · have h:liftN n l (pkFloat 64 k)=pkBehind V (6,k) l n:=by
      unfold pkBehind
      cases pkFloat 64 k <;> rfl
    exact behind_float hr k hk _ h
  · have h:txtW 4 n (pkText k l)=pkBehind V (7,k) l n:=by
      unfold pkBehind
      cases pkText k l <;> rfl
    rw [← h];exact behind_text hr k hU hk
  · have h:txtW 5 n (pkBytes k l)=pkBehind V (8,k) l n:=by
      unfold pkBehind
      cases pkBytes k l <;> rfl
    rw [← h];exact behind_bytes hr k hk
  · exact behind_array hr k hk V hV hN hn _ rfl
  · exact behind_map hr k hU hk V hV hN hn _ rfl
  · exact behind_none11 hr k
  · have h:liftN n l (pkFloat 32 k)=pkBehind V (12,k) l n:=by
      unfold pkBehind
      cases pkFloat 32 k <;> rfl
    exact behind_half hr k hk _ h
end Go.Proofs.YtnacbakcalcgaaaGreatDoor
