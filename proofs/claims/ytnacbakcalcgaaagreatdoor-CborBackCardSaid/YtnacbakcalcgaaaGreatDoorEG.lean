/- Texts of the claim. -/
import Derived.Test.YtnacbakcalcgaaaGreatDoorEF
set_option linter.unusedVariables false
set_option linter.unusedSimpArgs false
set_option maxHeartbeats 16000000
set_option maxRecDepth 100000
namespace Go.Proofs.YtnacbakcalcgaaaGreatDoor
open Go.RowKit Go.Lib Go.Sort
theorem ValV.on {w0:World} {g d d0 n0:Nat} {l:List Nat} {r:RC MT} {w w1 w':World} {e:Ending} (h:StC w0 g l d0 n0 w w1) (hs:w.heap.size≤w1.heap.size) (h2:ValV w0 g d r w1 e w'):ValV w0 g d r w e w':=by
  unfold ValV at *
  cases r with
  | inr x=>exact ThrowC.on h h2
  | inl p =>
    obtain ⟨t',h3,h4,h5,h6⟩:=h2
    exact ⟨t',h3,h4,h5.to (Nat.le_refl _) (fun _ _ _=>rfl) (fun k _ (h:k<w.heap.size)=>Nat.lt_of_lt_of_le h hs) (fun _ h=>h),h.trans h6⟩
def liftN (n:Nat) (l:List Nat):MT ⊕ Int→RC MT
  | .inr x=>.inr x
  | .inl t=>.inl (t,l,n)
theorem ValN.val {w0:World} {g d n:Nat} {l:List Nat} {r:MT ⊕ Int} {w w':World} {e:Ending} (hr:RdC w0 g l d n w) (h:ValN w r e w'):ValV w0 g d (liftN n l r) w e w':=by
  unfold ValN at h
  unfold ValV
  cases r with
  | inr x=>exact ⟨h.1,_,_,_,StC.of_below hr h.2⟩
  | inl t =>
    obtain ⟨t',h3,h4,h5,h6⟩:=h
    exact ⟨t',h3,h4,h5,StC.of_below hr h6⟩
theorem behind_cb {w0:World} (hU:UT w0) {g d:Nat} (V:List Nat→Nat→RC MT) (hV:ValCC w0 g d V) (hN:NdC V) {l:List Nat} {n:Nat} {w:World} (hr:RdC w0 g l d n w) (m i k:Nat) (hi:i<32) (hk:k<18446744073709551616) (hn:n≤2000) :
    Calls Tryz.prog 74 #[.pointer (some ⟨g,0,none⟩),hdV (m,i,k)] w (ValV w0 g d (cbBehind V (m,i,k) l n) w):=by
  have hg:=hr.lt
  have hlow:=hr.env.size
  have hgne:w.heap.size+1 ≠ g:=by omega
  have hb1:Below w.heap.size w ((w.alloc (.cells #[.int .i64 (m:Int),.int .i64 (i:Int),.int .u64 (k:Int)] 111)).alloc (.cells #[.int .i64 0,.bool false,.bool false,.slice none 0 0,.int .i64 0,.string ⟨#[]⟩,.slice none 0 0,.slice none 0 0] 29)):=((Below.refl _ _).alloc (Nat.le_refl _) _).alloc (by simp) _
  have H1:=Lib.hid (StC.of_below hr hb1)
  have hq0:((w.alloc (.cells #[.int .i64 (m:Int),.int .i64 (i:Int),.int .u64 (k:Int)] 111)).alloc (.cells #[.int .i64 0,.bool false,.bool false,.slice none 0 0,.int .i64 0,.string ⟨#[]⟩,.slice none 0 0,.slice none 0 0] 29)).heap[w.heap.size]? = some (.cells #[.int .i64 (m:Int),.int .i64 (i:Int),.int .u64 (k:Int)] 111):=(Below.heap_alloc _ _ _ (by simp)).trans (heap_alloc_new w _)
  have HQ1:Hid (((w.alloc (.cells #[.int .i64 (m:Int),.int .i64 (i:Int),.int .u64 (k:Int)] 111)).alloc (.cells #[.int .i64 0,.bool false,.bool false,.slice none 0 0,.int .i64 0,.string ⟨#[]⟩,.slice none 0 0,.slice none 0 0] 29)).heap[w.heap.size+1]? = some (.cells #[.int .i64 0,.bool false,.bool false,.slice none 0 0,.int .i64 0,.string ⟨#[]⟩,.slice none 0 0,.slice none 0 0] 29)):=Lib.hid (by
    have:=heap_alloc_new (w.alloc (.cells #[.int .i64 (m:Int),.int .i64 (i:Int),.int .u64 (k:Int)] 111)) (.cells #[.int .i64 0,.bool false,.bool false,.slice none 0 0,.int .i64 0,.string ⟨#[]⟩,.slice none 0 0,.slice none 0 0] 29)
    simpa using this)
  have y0:=cellOf hq0 0 rfl
  have y1:=cellOf hq0 1 rfl
  have y2:=cellOf hq0 2 rfl
  have hsz0:w.heap.size+1<((w.alloc (.cells #[.int .i64 (m:Int),.int .i64 (i:Int),.int .u64 (k:Int)] 111)).alloc (.cells #[.int .i64 0,.bool false,.bool false,.slice none 0 0,.int .i64 0,.string ⟨#[]⟩,.slice none 0 0,.slice none 0 0] 29)).heap.size:=by simp
  have HK:=Lib.hid hk
  obtain ⟨R,hR⟩:∃ R,cbBehind V (m,i,k) l n=R:=⟨_,rfl⟩
  rw [hR]
  have HRR:=Lib.hid hR
  dsimp only [hdV]
  clear hr hb1 hk hR
  by_cases h2:m=2
  · have c2:((m:Int) == 2)=true:=by rw [beq_iff_eq];omega
    have HD:Hid (R=match cbText (m,i,k) l with | .inr x=>.inr x | .inl (s,r)=>.inl (leafT 5 false (strB s),r,n)):=Lib.hid (by rw [← HRR.out];unfold cbBehind;simp only;rw [if_pos h2];rfl)
    have KT:=Lib.hid (text_cb hU H1.out.rd m i k HK.out)
    clear h2
    go_enter Tryz.func74,Tryz.ntmps74
    go_wp2_with fail
    refine KT.out.mono ?_
    intro r2 w2 hp
    cases hq:cbText (m,i,k) l with
    | inr x =>
      rw [hq] at hp
      obtain ⟨rfl,l',d',n',h2⟩:=hp
      have H3:=Lib.hid (H1.out.trans h2)
      have HE:=Lib.hid (HD.out.trans (by rw [hq]))
      clear h2 hq KT
      go_wp2_with fail
      exact ⟨rfl,ValV.no HE.out (ThrowC.mk H3.out)⟩
    | inl p =>
      obtain ⟨s,r3⟩:=p
      rw [hq] at hp
      obtain ⟨rfl,h2⟩:=hp
      have HE:=Lib.hid (HD.out.trans (by rw [hq]))
      have HSL:=Lib.hid (show (strB s).size≤maxLen by rw [strB_size];have:=cbText_le hq;unfold maxLen;omega)
      have HST:=Lib.hid (H1.out.trans h2)
      have HBX:=Lib.hid ((h2.oth.block (w.heap.size+1) (by simp) hgne).trans HQ1.out)
      dsimp only [strV]
      clear h2 hq KT
      generalize hsb:strB s=sb at *
      have HSB:=Lib.hid hsb
      clear hsb
      have HFIN:=Lib.hid (val_finB HST.out (t':=leafT 5 false sb) (b:=w.heap.size+1) (z:=w.heap.size+2) (by omega) hgne (by omega) (by omega) (fun W _ _=>leafT_rep W 5 false sb (by decide) HSL.out) (.int .i64 5) (.bool false) (.bool false) (.slice none 0 0) (.int .i64 0) (.string sb) (.slice none 0 0) (.slice none 0 0))
      have y0:w2.cell? ⟨w.heap.size+1,0,none⟩=some (.int .i64 0):=cellOf HBX.out 0 rfl
      have y1:w2.cell? ⟨w.heap.size+1,1,none⟩=some (.bool false):=cellOf HBX.out 1 rfl
      have y2:w2.cell? ⟨w.heap.size+1,2,none⟩=some (.bool false):=cellOf HBX.out 2 rfl
      have y3:w2.cell? ⟨w.heap.size+1,3,none⟩=some (.slice none 0 0):=cellOf HBX.out 3 rfl
      have y4:w2.cell? ⟨w.heap.size+1,4,none⟩=some (.int .i64 0):=cellOf HBX.out 4 rfl
      have y5:w2.cell? ⟨w.heap.size+1,5,none⟩=some (.string ⟨#[]⟩):=cellOf HBX.out 5 rfl
      have y6:w2.cell? ⟨w.heap.size+1,6,none⟩=some (.slice none 0 0):=cellOf HBX.out 6 rfl
      have y7:w2.cell? ⟨w.heap.size+1,7,none⟩=some (.slice none 0 0):=cellOf HBX.out 7 rfl
      have z0:=freeOf HBX.out 0
      have z1:=freeOf HBX.out 1
      have z2:=freeOf HBX.out 2
      have z3:=freeOf HBX.out 3
      have z4:=freeOf HBX.out 4
      have z5:=freeOf HBX.out 5
      have z6:=freeOf HBX.out 6
      have z7:=freeOf HBX.out 7
      go_wp2_with fail
      refine bodyPost_ret (v:=.agg #[.int .i64 5,.bool false,.bool false,.slice none 0 0,.int .i64 0,.string sb,.slice none 0 0,.slice none 0 0]) (by simp [results,Tryz.results74,go_sem,y0,y1,y2,y3,y4,y5,y6,y7]) rfl ?_
      exact ValV.yes (leafT 5 false sb) HE.out rfl (by rw [MT.bare_eq,HSB.out];rfl) HFIN.out.1 HFIN.out.2
  by_cases h3:m=3
  · have c2:((m:Int) == 2)=false:=by rw [beq_eq_false_iff_ne];omega
    have c3:((m:Int) == 3)=true:=by rw [beq_iff_eq];omega
    have HD:Hid (R=match cbText (m,i,k) l with | .inr x=>.inr x | .inl (s,r)=>.inl (leafT 4 false (strB s),r,n)):=Lib.hid (by rw [← HRR.out];unfold cbBehind;simp only;rw [if_neg h2];rw [if_pos h3];rfl)
    have KT:=Lib.hid (text_cb hU H1.out.rd m i k HK.out)
    clear h2 h3
    go_enter Tryz.func74,Tryz.ntmps74
    go_wp2_with fail
    refine KT.out.mono ?_
    intro r2 w2 hp
    cases hq:cbText (m,i,k) l with
    | inr x =>
      rw [hq] at hp
      obtain ⟨rfl,l',d',n',h2⟩:=hp
      have H3:=Lib.hid (H1.out.trans h2)
      have HE:=Lib.hid (HD.out.trans (by rw [hq]))
      clear h2 hq KT
      go_wp2_with fail
      exact ⟨rfl,ValV.no HE.out (ThrowC.mk H3.out)⟩
    | inl p =>
      obtain ⟨s,r3⟩:=p
      rw [hq] at hp
      obtain ⟨rfl,h2⟩:=hp
      have HE:=Lib.hid (HD.out.trans (by rw [hq]))
      have HSL:=Lib.hid (show (strB s).size≤maxLen by rw [strB_size];have:=cbText_le hq;unfold maxLen;omega)
      have HST:=Lib.hid (H1.out.trans h2)
      have HBX:=Lib.hid ((h2.oth.block (w.heap.size+1) (by simp) hgne).trans HQ1.out)
      dsimp only [strV]
      clear h2 hq KT
      generalize hsb:strB s=sb at *
      have HSB:=Lib.hid hsb
      clear hsb
      have HFIN:=Lib.hid (val_finB HST.out (t':=leafT 4 false sb) (b:=w.heap.size+1) (z:=w.heap.size+2) (by omega) hgne (by omega) (by omega) (fun W _ _=>leafT_rep W 4 false sb (by decide) HSL.out) (.int .i64 4) (.bool false) (.bool false) (.slice none 0 0) (.int .i64 0) (.string sb) (.slice none 0 0) (.slice none 0 0))
      have y0:w2.cell? ⟨w.heap.size+1,0,none⟩=some (.int .i64 0):=cellOf HBX.out 0 rfl
      have y1:w2.cell? ⟨w.heap.size+1,1,none⟩=some (.bool false):=cellOf HBX.out 1 rfl
      have y2:w2.cell? ⟨w.heap.size+1,2,none⟩=some (.bool false):=cellOf HBX.out 2 rfl
      have y3:w2.cell? ⟨w.heap.size+1,3,none⟩=some (.slice none 0 0):=cellOf HBX.out 3 rfl
      have y4:w2.cell? ⟨w.heap.size+1,4,none⟩=some (.int .i64 0):=cellOf HBX.out 4 rfl
      have y5:w2.cell? ⟨w.heap.size+1,5,none⟩=some (.string ⟨#[]⟩):=cellOf HBX.out 5 rfl
      have y6:w2.cell? ⟨w.heap.size+1,6,none⟩=some (.slice none 0 0):=cellOf HBX.out 6 rfl
      have y7:w2.cell? ⟨w.heap.size+1,7,none⟩=some (.slice none 0 0):=cellOf HBX.out 7 rfl
      have z0:=freeOf HBX.out 0
      have z1:=freeOf HBX.out 1
      have z2:=freeOf HBX.out 2
      have z3:=freeOf HBX.out 3
      have z4:=freeOf HBX.out 4
      have z5:=freeOf HBX.out 5
      have z6:=freeOf HBX.out 6
      have z7:=freeOf HBX.out 7
      go_wp2_with fail
      refine bodyPost_ret (v:=.agg #[.int .i64 4,.bool false,.bool false,.slice none 0 0,.int .i64 0,.string sb,.slice none 0 0,.slice none 0 0]) (by simp [results,Tryz.results74,go_sem,y0,y1,y2,y3,y4,y5,y6,y7]) rfl ?_
      exact ValV.yes (leafT 4 false sb) HE.out rfl (by rw [MT.bare_eq,HSB.out];rfl) HFIN.out.1 HFIN.out.2
  by_cases h4:m=4
  · have c2:((m:Int) == 2)=false:=by rw [beq_eq_false_iff_ne];omega
    have c3:((m:Int) == 3)=false:=by rw [beq_eq_false_iff_ne];omega
    have c4:((m:Int) == 4)=true:=by rw [beq_iff_eq];omega
    have HD:Hid (R=cbArr V (m,i,k) l n):=Lib.hid (by rw [← HRR.out];unfold cbBehind;simp only;rw [if_neg h2];rw [if_neg h3];rw [if_pos h4])
    have KT:=Lib.hid (array_cb V hV hN H1.out.rd m i k hn)
    clear h2 h3 h4
    have HSZ:=Lib.hid hsz0
    have HQB:=HQ1
    go_enter Tryz.func74,Tryz.ntmps74
    go_wp2_with fail
    refine KT.out.mono ?_
    intro r2 w2 hp
    (try unfold ValT at hp)
    rw [← HD.out] at hp
    clear HRR HD
    cases R with
    | inr x =>
      obtain ⟨rfl,l',d',n',h2⟩:=hp
      have H3:=Lib.hid (H1.out.trans h2)
      clear h2 KT
      go_wp2_with fail
      exact ⟨rfl,ValV.no rfl (ThrowC.mk H3.out)⟩
    | inl p =>
      obtain ⟨t,r3,n3⟩:=p
      obtain ⟨t',rfl,hbare,hin,h2⟩:=hp
      have HST:=Lib.hid (H1.out.trans h2)
      have HBX:=Lib.hid ((h2.oth.block (w.heap.size+1) HSZ.out hgne).trans HQB.out)
      have HBR:=Lib.hid hbare
      obtain ⟨⟨k0,b0,ng,ma,mn,mc,ex,st,ka,kn,kc,va,vn,vc⟩,tm,tk,tv⟩:=t'
      have HFIN:=Lib.hid (val_finB HST.out (b:=w.heap.size+1) (by omega) hgne (by omega) HSZ.out hin (.int .i64 k0) (.bool b0) (.bool ng) (.slice ma mn mc) (.int .i64 ex) (.string st) (.slice ka kn kc) (.slice va vn vc))
      clear h2 KT hbare hin
      dsimp only [MT.c,Cel.val]
      have y0:w2.cell? ⟨w.heap.size+1,0,none⟩=some (.int .i64 0):=cellOf HBX.out 0 rfl
      have y1:w2.cell? ⟨w.heap.size+1,1,none⟩=some (.bool false):=cellOf HBX.out 1 rfl
      have y2:w2.cell? ⟨w.heap.size+1,2,none⟩=some (.bool false):=cellOf HBX.out 2 rfl
      have y3:w2.cell? ⟨w.heap.size+1,3,none⟩=some (.slice none 0 0):=cellOf HBX.out 3 rfl
      have y4:w2.cell? ⟨w.heap.size+1,4,none⟩=some (.int .i64 0):=cellOf HBX.out 4 rfl
      have y5:w2.cell? ⟨w.heap.size+1,5,none⟩=some (.string ⟨#[]⟩):=cellOf HBX.out 5 rfl
      have y6:w2.cell? ⟨w.heap.size+1,6,none⟩=some (.slice none 0 0):=cellOf HBX.out 6 rfl
      have y7:w2.cell? ⟨w.heap.size+1,7,none⟩=some (.slice none 0 0):=cellOf HBX.out 7 rfl
      have z0:=freeOf HBX.out 0
      have z1:=freeOf HBX.out 1
      have z2:=freeOf HBX.out 2
      have z3:=freeOf HBX.out 3
      have z4:=freeOf HBX.out 4
      have z5:=freeOf HBX.out 5
      have z6:=freeOf HBX.out 6
      have z7:=freeOf HBX.out 7
      go_wp2_with fail
      refine bodyPost_ret (v:=.agg #[.int .i64 k0,.bool b0,.bool ng,.slice ma mn mc,.int .i64 ex,.string st,.slice ka kn kc,.slice va vn vc]) (by simp [results,Tryz.results74,go_sem,y0,y1,y2,y3,y4,y5,y6,y7]) rfl ?_
      exact ValV.yes _ rfl rfl HBR.out HFIN.out.1 HFIN.out.2
  by_cases h5:m=5
  · have c2:((m:Int) == 2)=false:=by rw [beq_eq_false_iff_ne];omega
    have c3:((m:Int) == 3)=false:=by rw [beq_eq_false_iff_ne];omega
    have c4:((m:Int) == 4)=false:=by rw [beq_eq_false_iff_ne];omega
    have c5:((m:Int) == 5)=true:=by rw [beq_iff_eq];omega
    have HD:Hid (R=cbObj V (m,i,k) l n):=Lib.hid (by rw [← HRR.out];unfold cbBehind;simp only;rw [if_neg h2];rw [if_neg h3];rw [if_neg h4];rw [if_pos h5])
    have KT:=Lib.hid (object_cb hU V hV hN H1.out.rd m i k hn)
    clear h2 h3 h4 h5
    have HSZ:=Lib.hid hsz0
    have HQB:=HQ1
    go_enter Tryz.func74,Tryz.ntmps74
    go_wp2_with fail
    refine KT.out.mono ?_
    intro r2 w2 hp
    (try unfold ValT at hp)
    rw [← HD.out] at hp
    clear HRR HD
    cases R with
    | inr x =>
      obtain ⟨rfl,l',d',n',h2⟩:=hp
      have H3:=Lib.hid (H1.out.trans h2)
      clear h2 KT
      go_wp2_with fail
      exact ⟨rfl,ValV.no rfl (ThrowC.mk H3.out)⟩
    | inl p =>
      obtain ⟨t,r3,n3⟩:=p
      obtain ⟨t',rfl,hbare,hin,h2⟩:=hp
      have HST:=Lib.hid (H1.out.trans h2)
      have HBX:=Lib.hid ((h2.oth.block (w.heap.size+1) HSZ.out hgne).trans HQB.out)
      have HBR:=Lib.hid hbare
      obtain ⟨⟨k0,b0,ng,ma,mn,mc,ex,st,ka,kn,kc,va,vn,vc⟩,tm,tk,tv⟩:=t'
      have HFIN:=Lib.hid (val_finB HST.out (b:=w.heap.size+1) (by omega) hgne (by omega) HSZ.out hin (.int .i64 k0) (.bool b0) (.bool ng) (.slice ma mn mc) (.int .i64 ex) (.string st) (.slice ka kn kc) (.slice va vn vc))
      clear h2 KT hbare hin
      dsimp only [MT.c,Cel.val]
      have y0:w2.cell? ⟨w.heap.size+1,0,none⟩=some (.int .i64 0):=cellOf HBX.out 0 rfl
      have y1:w2.cell? ⟨w.heap.size+1,1,none⟩=some (.bool false):=cellOf HBX.out 1 rfl
      have y2:w2.cell? ⟨w.heap.size+1,2,none⟩=some (.bool false):=cellOf HBX.out 2 rfl
      have y3:w2.cell? ⟨w.heap.size+1,3,none⟩=some (.slice none 0 0):=cellOf HBX.out 3 rfl
      have y4:w2.cell? ⟨w.heap.size+1,4,none⟩=some (.int .i64 0):=cellOf HBX.out 4 rfl
      have y5:w2.cell? ⟨w.heap.size+1,5,none⟩=some (.string ⟨#[]⟩):=cellOf HBX.out 5 rfl
      have y6:w2.cell? ⟨w.heap.size+1,6,none⟩=some (.slice none 0 0):=cellOf HBX.out 6 rfl
      have y7:w2.cell? ⟨w.heap.size+1,7,none⟩=some (.slice none 0 0):=cellOf HBX.out 7 rfl
      have z0:=freeOf HBX.out 0
      have z1:=freeOf HBX.out 1
      have z2:=freeOf HBX.out 2
      have z3:=freeOf HBX.out 3
      have z4:=freeOf HBX.out 4
      have z5:=freeOf HBX.out 5
      have z6:=freeOf HBX.out 6
      have z7:=freeOf HBX.out 7
      go_wp2_with fail
      refine bodyPost_ret (v:=.agg #[.int .i64 k0,.bool b0,.bool ng,.slice ma mn mc,.int .i64 ex,.string st,.slice ka kn kc,.slice va vn vc]) (by simp [results,Tryz.results74,go_sem,y0,y1,y2,y3,y4,y5,y6,y7]) rfl ?_
      exact ValV.yes _ rfl rfl HBR.out HFIN.out.1 HFIN.out.2
  by_cases h7:m=7
  · have c2:((m:Int) == 2)=false:=by rw [beq_eq_false_iff_ne];omega
    have c3:((m:Int) == 3)=false:=by rw [beq_eq_false_iff_ne];omega
    have c4:((m:Int) == 4)=false:=by rw [beq_eq_false_iff_ne];omega
    have c5:((m:Int) == 5)=false:=by rw [beq_eq_false_iff_ne];omega
    have c7:((m:Int) == 7)=true:=by rw [beq_iff_eq];omega
    have HD:Hid (R=liftN n l (cbSimple (m,i,k))):=Lib.hid (by rw [← HRR.out];unfold cbBehind;simp only;rw [if_neg h2];rw [if_neg h3];rw [if_neg h4];rw [if_neg h5];rw [if_pos h7];cases cbSimple (m,i,k) <;> rfl)
    have KT:=Lib.hid ((simple_cb m i k ((w.alloc (.cells #[.int .i64 (m:Int),.int .i64 (i:Int),.int .u64 (k:Int)] 111)).alloc (.cells #[.int .i64 0,.bool false,.bool false,.slice none 0 0,.int .i64 0,.string ⟨#[]⟩,.slice none 0 0,.slice none 0 0] 29)) hi HK.out).mono fun _ _ h=>ValN.val H1.out.rd h)
    clear h2 h3 h4 h5 h7
    have HSZ:=Lib.hid hsz0
    have HQB:=HQ1
    go_enter Tryz.func74,Tryz.ntmps74
    go_wp2_with fail
    refine KT.out.mono ?_
    intro r2 w2 hp
    (try unfold ValT at hp)
    rw [← HD.out] at hp
    clear HRR HD
    cases R with
    | inr x =>
      obtain ⟨rfl,l',d',n',h2⟩:=hp
      have H3:=Lib.hid (H1.out.trans h2)
      clear h2 KT
      go_wp2_with fail
      exact ⟨rfl,ValV.no rfl (ThrowC.mk H3.out)⟩
    | inl p =>
      obtain ⟨t,r3,n3⟩:=p
      obtain ⟨t',rfl,hbare,hin,h2⟩:=hp
      have HST:=Lib.hid (H1.out.trans h2)
      have HBX:=Lib.hid ((h2.oth.block (w.heap.size+1) HSZ.out hgne).trans HQB.out)
      have HBR:=Lib.hid hbare
      obtain ⟨⟨k0,b0,ng,ma,mn,mc,ex,st,ka,kn,kc,va,vn,vc⟩,tm,tk,tv⟩:=t'
      have HFIN:=Lib.hid (val_finB HST.out (b:=w.heap.size+1) (by omega) hgne (by omega) HSZ.out hin (.int .i64 k0) (.bool b0) (.bool ng) (.slice ma mn mc) (.int .i64 ex) (.string st) (.slice ka kn kc) (.slice va vn vc))
      clear h2 KT hbare hin
      dsimp only [MT.c,Cel.val]
      have y0:w2.cell? ⟨w.heap.size+1,0,none⟩=some (.int .i64 0):=cellOf HBX.out 0 rfl
      have y1:w2.cell? ⟨w.heap.size+1,1,none⟩=some (.bool false):=cellOf HBX.out 1 rfl
      have y2:w2.cell? ⟨w.heap.size+1,2,none⟩=some (.bool false):=cellOf HBX.out 2 rfl
      have y3:w2.cell? ⟨w.heap.size+1,3,none⟩=some (.slice none 0 0):=cellOf HBX.out 3 rfl
      have y4:w2.cell? ⟨w.heap.size+1,4,none⟩=some (.int .i64 0):=cellOf HBX.out 4 rfl
      have y5:w2.cell? ⟨w.heap.size+1,5,none⟩=some (.string ⟨#[]⟩):=cellOf HBX.out 5 rfl
      have y6:w2.cell? ⟨w.heap.size+1,6,none⟩=some (.slice none 0 0):=cellOf HBX.out 6 rfl
      have y7:w2.cell? ⟨w.heap.size+1,7,none⟩=some (.slice none 0 0):=cellOf HBX.out 7 rfl
      have z0:=freeOf HBX.out 0
      have z1:=freeOf HBX.out 1
      have z2:=freeOf HBX.out 2
      have z3:=freeOf HBX.out 3
      have z4:=freeOf HBX.out 4
      have z5:=freeOf HBX.out 5
      have z6:=freeOf HBX.out 6
      have z7:=freeOf HBX.out 7
      go_wp2_with fail
      refine bodyPost_ret (v:=.agg #[.int .i64 k0,.bool b0,.bool ng,.slice ma mn mc,.int .i64 ex,.string st,.slice ka kn kc,.slice va vn vc]) (by simp [results,Tryz.results74,go_sem,y0,y1,y2,y3,y4,y5,y6,y7]) rfl ?_
      exact ValV.yes _ rfl rfl HBR.out HFIN.out.1 HFIN.out.2
  have c2:((m:Int) == 2)=false:=by rw [beq_eq_false_iff_ne];omega
  have c3:((m:Int) == 3)=false:=by rw [beq_eq_false_iff_ne];omega
  have c4:((m:Int) == 4)=false:=by rw [beq_eq_false_iff_ne];omega
  have c5:((m:Int) == 5)=false:=by rw [beq_eq_false_iff_ne];omega
  have c7:((m:Int) == 7)=false:=by rw [beq_eq_false_iff_ne];omega
  have KO:=Lib.hid (open_cb m i k ((w.alloc (.cells #[.int .i64 (m:Int),.int .i64 (i:Int),.int .u64 (k:Int)] 111)).alloc (.cells #[.int .i64 0,.bool false,.bool false,.slice none 0 0,.int .i64 0,.string ⟨#[]⟩,.slice none 0 0,.slice none 0 0] 29)))
  obtain ⟨op,hop⟩:∃ op,decide (i=31)=op:=⟨_,rfl⟩
  have HOP:=Lib.hid hop
  rw [hop] at KO
  clear hop
  go_enter Tryz.func74,Tryz.ntmps74
  go_wp2_with fail
  refine KO.out.mono ?_
  rintro r2 w1 ⟨rfl,hb⟩
  have H2:=Lib.hid (H1.out.more hb)
  have HSZ:=Lib.hid (Nat.lt_of_lt_of_le hsz0 hb.size)
  have HQB:=Lib.hid ((hb.block (w.heap.size+1) hsz0).trans HQ1.out)
  have hq1:=(hb.block w.heap.size (by omega)).trans hq0
  clear hb KO y0 y1 y2 hq0
  have y0:=cellOf hq1 0 rfl
  have y1:=cellOf hq1 1 rfl
  have y2:=cellOf hq1 2 rfl
  cases op with
  | true =>
    have HE:Hid (R=.inr 2):=Lib.hid (by rw [← HRR.out];unfold cbBehind;simp only;rw [if_neg h2];rw [if_neg h3];rw [if_neg h4];rw [if_neg h5];rw [if_neg h7];rw [if_pos (of_decide_eq_true HOP.out)])
    clear h2 h3 h4 h5 h7
    go_wp2_with fail
    exact ⟨rfl,ValV.no HE.out (ThrowC.mk H2.out)⟩
  | false =>
    have h31:=of_decide_eq_false HOP.out
    by_cases h6:m=6
    · have c6:((m:Int) == 6)=true:=by rw [beq_iff_eq];omega
      have HD:Hid (R=withN n (cbTag k l)):=Lib.hid (by rw [← HRR.out];unfold cbBehind;simp only;rw [if_neg h2];rw [if_neg h3];rw [if_neg h4];rw [if_neg h5];rw [if_neg h7];rw [if_neg h31,if_pos h6])
      have KT:=Lib.hid (tagged_cb hU H2.out.rd k)
      clear h2 h3 h4 h5 h7 h6 h31
      go_wp2_with fail
      refine KT.out.mono ?_
      intro r2 w2 hp
      (try unfold ValT at hp)
      rw [← HD.out] at hp
      clear HRR HD
      cases R with
      | inr x =>
        obtain ⟨rfl,l',d',n',h2⟩:=hp
        have H3:=Lib.hid (H2.out.trans h2)
        clear h2 KT
        go_wp2_with fail
        exact ⟨rfl,ValV.no rfl (ThrowC.mk H3.out)⟩
      | inl p =>
        obtain ⟨t,r3,n3⟩:=p
        obtain ⟨t',rfl,hbare,hin,h2⟩:=hp
        have HST:=Lib.hid (H2.out.trans h2)
        have HBX:=Lib.hid ((h2.oth.block (w.heap.size+1) HSZ.out hgne).trans HQB.out)
        have HBR:=Lib.hid hbare
        obtain ⟨⟨k0,b0,ng,ma,mn,mc,ex,st,ka,kn,kc,va,vn,vc⟩,tm,tk,tv⟩:=t'
        have HFIN:=Lib.hid (val_finB HST.out (b:=w.heap.size+1) (by omega) hgne (by omega) HSZ.out hin (.int .i64 k0) (.bool b0) (.bool ng) (.slice ma mn mc) (.int .i64 ex) (.string st) (.slice ka kn kc) (.slice va vn vc))
        clear h2 KT hbare hin
        dsimp only [MT.c,Cel.val]
        have y0:w2.cell? ⟨w.heap.size+1,0,none⟩=some (.int .i64 0):=cellOf HBX.out 0 rfl
        have y1:w2.cell? ⟨w.heap.size+1,1,none⟩=some (.bool false):=cellOf HBX.out 1 rfl
        have y2:w2.cell? ⟨w.heap.size+1,2,none⟩=some (.bool false):=cellOf HBX.out 2 rfl
        have y3:w2.cell? ⟨w.heap.size+1,3,none⟩=some (.slice none 0 0):=cellOf HBX.out 3 rfl
        have y4:w2.cell? ⟨w.heap.size+1,4,none⟩=some (.int .i64 0):=cellOf HBX.out 4 rfl
        have y5:w2.cell? ⟨w.heap.size+1,5,none⟩=some (.string ⟨#[]⟩):=cellOf HBX.out 5 rfl
        have y6:w2.cell? ⟨w.heap.size+1,6,none⟩=some (.slice none 0 0):=cellOf HBX.out 6 rfl
        have y7:w2.cell? ⟨w.heap.size+1,7,none⟩=some (.slice none 0 0):=cellOf HBX.out 7 rfl
        have z0:=freeOf HBX.out 0
        have z1:=freeOf HBX.out 1
        have z2:=freeOf HBX.out 2
        have z3:=freeOf HBX.out 3
        have z4:=freeOf HBX.out 4
        have z5:=freeOf HBX.out 5
        have z6:=freeOf HBX.out 6
        have z7:=freeOf HBX.out 7
        go_wp2_with fail
        refine bodyPost_ret (v:=.agg #[.int .i64 k0,.bool b0,.bool ng,.slice ma mn mc,.int .i64 ex,.string st,.slice ka kn kc,.slice va vn vc]) (by simp [results,Tryz.results74,go_sem,y0,y1,y2,y3,y4,y5,y6,y7]) rfl ?_
        exact ValV.yes _ rfl rfl HBR.out HFIN.out.1 HFIN.out.2
    · have c6:((m:Int) == 6)=false:=by rw [beq_eq_false_iff_ne];omega
      have HD:Hid (R=liftN n l (cbNum (cbWhole (m,i,k)) 0)):=Lib.hid (by rw [← HRR.out];unfold cbBehind;simp only;rw [if_neg h2];rw [if_neg h3];rw [if_neg h4];rw [if_neg h5];rw [if_neg h7];rw [if_neg h31,if_neg h6];cases cbNum (cbWhole (m,i,k)) 0 <;> rfl)
      have KW:=Lib.hid (wholeOf_cb m i k w1 HK.out)
      clear h2 h3 h4 h5 h7 h6 h31
      go_wp2_with fail
      refine KW.out.mono ?_
      rintro r3 w3 ⟨v,rfl,hv,hb3⟩
      obtain ⟨ua,un,uc,xs,rfl,hl⟩:=hv.out
      have H2o:=H2
      have HSZo:=HSZ
      have HQBo:=HQB
      have HSZ:=Lib.hid (Nat.lt_of_lt_of_le HSZo.out hb3.size)
      have HQB:=Lib.hid ((hb3.block (w.heap.size+1) HSZo.out).trans HQBo.out)
      have H3:=Lib.hid (H2o.out.more hb3)
      have KT:=Lib.hid ((number_cb (nb:=(cbWhole (m,i,k)).1) (N:=(cbWhole (m,i,k)).2) hl 0 (by decide)).mono fun _ _ h=>ValN.val H3.out.rd h)
      clear hv hl hb3 KW HSZo HQBo H2o
      skip
      go_wp2_with fail
      refine KT.out.mono ?_
      intro r2 w2 hp
      (try unfold ValT at hp)
      rw [← HD.out] at hp
      clear HRR HD
      cases R with
      | inr x =>
        obtain ⟨rfl,l',d',n',h2⟩:=hp
        have H3:=Lib.hid (H3.out.trans h2)
        clear h2 KT
        go_wp2_with fail
        exact ⟨rfl,ValV.no rfl (ThrowC.mk H3.out)⟩
      | inl p =>
        obtain ⟨t,r3,n3⟩:=p
        obtain ⟨t',rfl,hbare,hin,h2⟩:=hp
        have HST:=Lib.hid (H3.out.trans h2)
        have HBX:=Lib.hid ((h2.oth.block (w.heap.size+1) HSZ.out hgne).trans HQB.out)
        have HBR:=Lib.hid hbare
        obtain ⟨⟨k0,b0,ng,ma,mn,mc,ex,st,ka,kn,kc,va,vn,vc⟩,tm,tk,tv⟩:=t'
        have HFIN:=Lib.hid (val_finB HST.out (b:=w.heap.size+1) (by omega) hgne (by omega) HSZ.out hin (.int .i64 k0) (.bool b0) (.bool ng) (.slice ma mn mc) (.int .i64 ex) (.string st) (.slice ka kn kc) (.slice va vn vc))
        clear h2 KT hbare hin
        dsimp only [MT.c,Cel.val]
        have y0:w2.cell? ⟨w.heap.size+1,0,none⟩=some (.int .i64 0):=cellOf HBX.out 0 rfl
        have y1:w2.cell? ⟨w.heap.size+1,1,none⟩=some (.bool false):=cellOf HBX.out 1 rfl
        have y2:w2.cell? ⟨w.heap.size+1,2,none⟩=some (.bool false):=cellOf HBX.out 2 rfl
        have y3:w2.cell? ⟨w.heap.size+1,3,none⟩=some (.slice none 0 0):=cellOf HBX.out 3 rfl
        have y4:w2.cell? ⟨w.heap.size+1,4,none⟩=some (.int .i64 0):=cellOf HBX.out 4 rfl
        have y5:w2.cell? ⟨w.heap.size+1,5,none⟩=some (.string ⟨#[]⟩):=cellOf HBX.out 5 rfl
        have y6:w2.cell? ⟨w.heap.size+1,6,none⟩=some (.slice none 0 0):=cellOf HBX.out 6 rfl
        have y7:w2.cell? ⟨w.heap.size+1,7,none⟩=some (.slice none 0 0):=cellOf HBX.out 7 rfl
        have z0:=freeOf HBX.out 0
        have z1:=freeOf HBX.out 1
        have z2:=freeOf HBX.out 2
        have z3:=freeOf HBX.out 3
        have z4:=freeOf HBX.out 4
        have z5:=freeOf HBX.out 5
        have z6:=freeOf HBX.out 6
        have z7:=freeOf HBX.out 7
        go_wp2_with fail
        refine bodyPost_ret (v:=.agg #[.int .i64 k0,.bool b0,.bool ng,.slice ma mn mc,.int .i64 ex,.string st,.slice ka kn kc,.slice va vn vc]) (by simp [results,Tryz.results74,go_sem,y0,y1,y2,y3,y4,y5,y6,y7]) rfl ?_
        exact ValV.yes _ rfl rfl HBR.out HFIN.out.1 HFIN.out.2
theorem cbV_nil (f n:Nat):cbValue (f+1) [] n=.inr 2:=by rw [cbValue]
theorem cbV_break (f n:Nat) (r:List Nat):cbValue (f+1) (255::r) n=.inr 2:=by rw [cbValue];simp
theorem cbV_limit {f n c:Nat} {r:List Nat} (hc:c ≠ 255) (h:n=2000∨f=0):cbValue (f+1) (c::r) n=.inr 4:=by rw [cbValue];rw [if_neg hc,if_pos h]
theorem cbV_head {f n c:Nat} {r:List Nat} {x:Int} (hc:c ≠ 255) (h:¬ (n=2000∨f=0)) (h2:cbHead (c::r)=.inr x):cbValue (f+1) (c::r) n=.inr x:=by rw [cbValue];rw [if_neg hc,if_neg h,h2]
theorem cbV_on {f n c:Nat} {r r2:List Nat} {h0:HdC} (hc:c ≠ 255) (h:¬ (n=2000∨f=0)) (h2:cbHead (c::r)=.inl (h0,r2)):cbValue (f+1) (c::r) n=cbBehind (cbValue f) h0 r2 (n+1):=by rw [cbValue];rw [if_neg hc,if_neg h,h2]
theorem nd_items {V:List Nat→Nat→RC MT} (hN:NdC V) (op:Bool) (k:Nat):∀ (f:Nat) (us:List MT) (l:List Nat) (n:Nat) (p:List MT × List Nat × Nat),n≤2000→cbItems V op k f us l n=.inl p→p.2.2≤2000:=by
  intro f
  induction f with
  | zero=>intro us l n p _ h;cases h
  | succ f ih =>
    intro us l n p hn h
    unfold cbItems at h
    split at h
    · cases h
    · simp only [Sum.inl.injEq] at h
      subst h;exact hn
    · split at h
      · cases h
      · rename_i hv
        exact ih _ _ _ _ (hN _ _ _ hn hv) h
theorem nd_members {V:List Nat→Nat→RC MT} (hN:NdC V) (op:Bool) (k:Nat):∀ (f:Nat) (ks:List ByteArray) (us:List MT) (l:List Nat) (n:Nat) (p:(List ByteArray × List MT) × List Nat × Nat),n≤2000→cbMembers V op k f ks us l n=.inl p→p.2.2≤2000:=by
  intro f
  induction f with
  | zero=>intro ks us l n p _ h;cases h
  | succ f ih =>
    intro ks us l n p hn h
    unfold cbMembers at h
    split at h
    · cases h
    · simp only [Sum.inl.injEq] at h
      subst h;exact hn
    · split at h
      · cases h
      · split at h
        · cases h
        · rename_i hv
          exact ih _ _ _ _ _ (hN _ _ _ hn hv) h
theorem nd_behind {V:List Nat→Nat→RC MT} (hN:NdC V) (h:HdC) (l:List Nat) (n:Nat) (p:MT × List Nat × Nat) (hn:n≤2000) (e:cbBehind V h l n=.inl p):p.2.2≤2000:=by
  unfold cbBehind at e
  split at e
  · split at e
    · cases e
    · simp only [Sum.inl.injEq] at e;subst e;exact hn
  · split at e
    · split at e
      · cases e
      · simp only [Sum.inl.injEq] at e;subst e;exact hn
    · split at e
      · unfold cbArr at e
        split at e
        · cases e
        · split at e
          · cases e
          · rename_i hq
            simp only [Sum.inl.injEq] at e;subst e
            exact nd_items hN _ _ _ _ _ _ _ hn hq
      · split at e
        · unfold cbObj at e
          split at e
          · cases e
          · split at e
            · cases e
            · rename_i hq
              split at e
              · simp only [Sum.inl.injEq] at e;subst e
                exact nd_members hN _ _ _ _ _ _ _ _ hn hq
              · cases e
        · split at e
          · split at e
            · cases e
            · simp only [Sum.inl.injEq] at e;subst e;exact hn
          · split at e
            · cases e
            · split at e
              · unfold withN at e
                split at e
                · cases e
                · simp only [Sum.inl.injEq] at e;subst e;exact hn
              · split at e
                · cases e
                · simp only [Sum.inl.injEq] at e;subst e;exact hn
theorem nd_value:∀ f,NdC (cbValue f):=by
  intro f
  induction f with
  | zero=>intro l n p _ h;cases h
  | succ f ih =>
    intro l n p hn h
    cases l with
    | nil=>rw [cbV_nil] at h;cases h
    | cons c r =>
      unfold cbValue at h
      simp only at h
      split at h
      · cases h
      · split at h
        · cases h
        · split at h
          · cases h
          · exact nd_behind ih _ _ _ _ (by omega) h
theorem value_cb {w0:World} (hU:UT w0) {g d f:Nat} (hdf:d+f=64) (hV:f ≠ 0→ValCC w0 g (d+1) (cbValue f)):ValCC w0 g d (cbValue (f+1)):=by
  intro w l n hn hr
  have hg:=hr.lt
  have hlow:=hr.env.size
  have hne2:¬ w.heap.size=g:=by omega
  have hb1:Below w.heap.size w (w.alloc (.cells #[.int .i64 0,.bool false,.bool false,.slice none 0 0,.int .i64 0,.string ⟨#[]⟩,.slice none 0 0,.slice none 0 0] 29)):=(Below.refl _ _).alloc (Nat.le_refl _) _
  have H1:=Lib.hid (StC.of_below hr hb1)
  have HN1:=Lib.hid (heap_alloc_new w (.cells #[.int .i64 0,.bool false,.bool false,.slice none 0 0,.int .i64 0,.string ⟨#[]⟩,.slice none 0 0,.slice none 0 0] 29))
  have KF:=Lib.hid (first_cb H1.out.rd)
  have HV:=Lib.hid hV
  obtain ⟨R,hR⟩:∃ R,cbValue (f+1) l n=R:=⟨_,rfl⟩
  rw [hR]
  have HR:=Lib.hid hR
  clear hr hb1 hV hR
  go_enter Tryz.func41,Tryz.ntmps41
  go_wp2_with fail
  refine KF.out.mono ?_
  intro r w1 hp
  cases l with
  | nil =>
    obtain ⟨rfl,l',d',n',h1⟩:=hp
    have H2:=Lib.hid (H1.out.trans h1)
    have HE:=Lib.hid (HR.out.symm.trans (cbV_nil f n))
    clear h1 KF
    go_wp2_with fail
    exact ⟨rfl,ValV.no HE.out (ThrowC.mk H2.out)⟩
  | cons c r =>
    obtain ⟨rfl,h1⟩:=hp
    have H2:=Lib.hid (H1.out.trans h1)
    have HBX1:=Lib.hid ((h1.oth.block w.heap.size (by simp) hne2).trans HN1.out)
    dsimp only [u8V]
    have c1:=h1.rd.c1
    have c2:=h1.rd.c2
    have f1:=h1.rd.fz 1
    have f2:=h1.rd.fz 2
    by_cases hc:c=255
    · have e1:((c:Int) == 255)=true:=by rw [beq_iff_eq];omega
      have HE:Hid (R=.inr 2):=Lib.hid (HR.out.symm.trans (by rw [hc];exact cbV_break f n r))
      clear h1 KF hc
      go_wp2_with fail
      exact ⟨rfl,ValV.no HE.out (ThrowC.mk H2.out)⟩
    · have e1:((c:Int) == 255)=false:=by rw [beq_eq_false_iff_ne];omega
      by_cases hn2:n=2000
      · have e2:((n:Int) == 2000)=true:=by rw [beq_iff_eq];omega
        have HE:=Lib.hid (HR.out.symm.trans (cbV_limit hc (.inl hn2)))
        clear h1 KF hc hn2
        go_wp2_with fail
        exact ⟨rfl,ValV.no HE.out (ThrowC.mk H2.out)⟩
      · have e2:((n:Int) == 2000)=false:=by rw [beq_eq_false_iff_ne];omega
        by_cases hf:f=0
        · have e3:((d:Int) == 64)=true:=by rw [beq_iff_eq];omega
          have HE:=Lib.hid (HR.out.symm.trans (cbV_limit hc (.inr hf)))
          clear h1 KF hc hn2 hf
          go_wp2_with fail
          exact ⟨rfl,ValV.no HE.out (ThrowC.mk H2.out)⟩
        · have e3:((d:Int) == 64)=false:=by rw [beq_eq_false_iff_ne];omega
          have hnf:¬ (n=2000∨f=0):=fun h=>h.elim hn2 hf
          have H3:Hid (StC w0 g (c::r) (d+1) (n+1) w1 ((w1.setCell ⟨g,2,none⟩ (.int .i64 ((n:Int)+1))).setCell ⟨g,1,none⟩ (.int .i64 ((d:Int)+1)))):=Lib.hid (((StC.refl h1.rd).nodes (n+1) (by simp)).depth (d+1) (by simp))
          have c1b:(w1.setCell ⟨g,2,none⟩ (.int .i64 ((n:Int)+1))).cell? ⟨g,1,none⟩=some (.int .i64 (d:Int)):=by rw [World.cell?_setCell_other (h:=by simp)];exact c1
          have f1b:(w1.setCell ⟨g,2,none⟩ (.int .i64 ((n:Int)+1))).frozen? ⟨g,1,none⟩=false:=by rw [World.frozen?_setCell];exact f1
          have HBX2:Hid (((w1.setCell ⟨g,2,none⟩ (.int .i64 ((n:Int)+1))).setCell ⟨g,1,none⟩ (.int .i64 ((d:Int)+1))).heap[w.heap.size]? = some (.cells #[.int .i64 0,.bool false,.bool false,.slice none 0 0,.int .i64 0,.string ⟨#[]⟩,.slice none 0 0,.slice none 0 0] 29)):=Lib.hid (by rw [set_otherC hne2,set_otherC hne2];exact HBX1.out)
          have KH:=Lib.hid (head_cb H3.out.rd)
          have s1:IntKind.i64.wrap ((n:Int)+1)=(n:Int)+1:=IntWalk.i64_in _ (by omega)
          have s2:IntKind.i64.wrap ((d:Int)+1)=(d:Int)+1:=IntWalk.i64_in _ (by omega)
          have s3:IntKind.i64.wrap ((d:Int)+1 - 1)=(d:Int):=by rw [show (d:Int)+1 - 1=(d:Int) by omega];exact IntWalk.i64_in _ (by omega)
          clear h1 KF
          go_wp2_with fail
          refine KH.out.mono ?_
          intro r3 w3 hp
          cases hh:cbHead (c::r) with
          | inr x =>
            rw [hh] at hp
            obtain ⟨rfl,l',d',n',h3⟩:=hp
            have H4:=Lib.hid ((H2.out.trans H3.out).trans h3)
            have HE:=Lib.hid (HR.out.symm.trans (cbV_head hc hnf hh))
            clear h3 hh KH hc hn2 hf hnf
            go_wp2_with fail
            exact ⟨rfl,ValV.no HE.out (ThrowC.mk H4.out)⟩
          | inl p =>
            obtain ⟨⟨m,i,k⟩,r2⟩:=p
            rw [hh] at hp
            obtain ⟨rfl,h3⟩:=hp
            have hok:=cbHead_ok H3.out.rd.ok hh
            have H4:=Lib.hid ((H2.out.trans H3.out).trans h3)
            have HBX3:=Lib.hid ((h3.oth.block w.heap.size (Array.getElem?_eq_some_iff.1 HBX2.out).1 hne2).trans HBX2.out)
            have KB:=Lib.hid (behind_cb hU (cbValue f) (HV.out hf) (nd_value f) h3.rd m i k hok.i hok.n (by omega))
            have HE0:=Lib.hid (HR.out.symm.trans (cbV_on hc hnf hh))
            rw [← HE0.out] at KB
            clear h3 hh KH hc hn2 hf hnf hok
            go_wp2_with fail
            refine KB.out.mono ?_
            intro r4 w4 hp
            clear HR HE0 KB
            cases R with
            | inr x =>
              obtain ⟨rfl,l',d',n',h4⟩:=hp
              have H5:=Lib.hid (H4.out.trans h4)
              clear h4
              go_wp2_with fail
              exact ⟨rfl,ValV.no rfl (ThrowC.mk H5.out)⟩
            | inl p =>
              obtain ⟨t,r5,n5⟩:=p
              obtain ⟨t',rfl,hbare,hin,h4⟩:=hp
              obtain ⟨⟨k0,b0,ng,ma,mn,mc,ex,st,ka,kn,kc,va,vn,vc⟩,tm,tk,tv⟩:=t'
              have HBR:=Lib.hid hbare
              have h5:Below w4.heap.size w4 (w4.alloc (.cells #[.int .i64 k0,.bool b0,.bool ng,.slice ma mn mc,.int .i64 ex,.string st,.slice ka kn kc,.slice va vn vc] 29)):=(Below.refl _ _).alloc (Nat.le_refl _) _
              have H5:=((H4.out.trans h4).more h5).depth d (v:=.int .i64 (d:Int)) rfl
              have hbx4:=(h4.oth.block w.heap.size (Array.getElem?_eq_some_iff.1 HBX3.out).1 hne2).trans HBX3.out
              have hbx6:((w4.alloc (.cells #[.int .i64 k0,.bool b0,.bool ng,.slice ma mn mc,.int .i64 ex,.string st,.slice ka kn kc,.slice va vn vc] 29)).setCell ⟨g,1,none⟩ (.int .i64 (d:Int))).heap[w.heap.size]? = some (.cells #[.int .i64 0,.bool false,.bool false,.slice none 0 0,.int .i64 0,.string ⟨#[]⟩,.slice none 0 0,.slice none 0 0] 29):=by rw [set_otherC hne2];exact (h5.block _ (Array.getElem?_eq_some_iff.1 hbx4).1).trans hbx4
              have hzz:w.heap.size<w3.heap.size:=(Array.getElem?_eq_some_iff.1 HBX3.out).1
              have hg3:g<w3.heap.size:=H4.out.rd.lt
              have hin6:Ind (fun k=>k<w3.heap.size) ((w4.alloc (.cells #[.int .i64 k0,.bool b0,.bool ng,.slice ma mn mc,.int .i64 ex,.string st,.slice ka kn kc,.slice va vn vc] 29)).setCell ⟨g,1,none⟩ (.int .i64 (d:Int))) (fun W=>Rep W (.mk ⟨k0,b0,ng,ma,mn,mc,ex,st,ka,kn,kc,va,vn,vc⟩ tm tk tv)):=(hin.below h5).to (by simp [World.setCell]) (fun k hk hx=>set_otherC (by omega)) (fun _ _ h=>h) (fun _ h=>h)
              have c1d:(w4.alloc (.cells #[.int .i64 k0,.bool b0,.bool ng,.slice ma mn mc,.int .i64 ex,.string st,.slice ka kn kc,.slice va vn vc] 29)).cell? ⟨g,1,none⟩=some (.int .i64 ((d:Int)+1)):=(h5.cell (p:=⟨g,1,none⟩) (h4.rd.lt)).trans h4.rd.c1
              have f1d:(w4.alloc (.cells #[.int .i64 k0,.bool b0,.bool ng,.slice ma mn mc,.int .i64 ex,.string st,.slice ka kn kc,.slice va vn vc] 29)).frozen? ⟨g,1,none⟩=false:=((h4.rd.on h5).fz 1)
              have hng:¬ w4.heap.size=g:=by have:=h4.rd.lt;omega
              have hgn:¬ g=w4.heap.size:=fun e=>hng e.symm
              have hbn:((w4.alloc (.cells #[.int .i64 k0,.bool b0,.bool ng,.slice ma mn mc,.int .i64 ex,.string st,.slice ka kn kc,.slice va vn vc] 29)).setCell ⟨g,1,none⟩ (.int .i64 (d:Int))).heap[w4.heap.size]? = some (.cells #[.int .i64 k0,.bool b0,.bool ng,.slice ma mn mc,.int .i64 ex,.string st,.slice ka kn kc,.slice va vn vc] 29):=by rw [set_otherC hng];exact heap_alloc_new w4 _
              have HFIN:=Lib.hid (val_finC H5 hne2 hlow hzz hin6 (.int .i64 k0) (.bool b0) (.bool ng) (.slice ma mn mc) (.int .i64 ex) (.string st) (.slice ka kn kc) (.slice va vn vc))
              have x0:((w4.alloc (.cells #[.int .i64 k0,.bool b0,.bool ng,.slice ma mn mc,.int .i64 ex,.string st,.slice ka kn kc,.slice va vn vc] 29)).setCell ⟨g,1,none⟩ (.int .i64 (d:Int))).cell? ⟨w4.heap.size,0,none⟩=some (.int .i64 k0):=cellOf hbn 0 rfl
              have x1:((w4.alloc (.cells #[.int .i64 k0,.bool b0,.bool ng,.slice ma mn mc,.int .i64 ex,.string st,.slice ka kn kc,.slice va vn vc] 29)).setCell ⟨g,1,none⟩ (.int .i64 (d:Int))).cell? ⟨w4.heap.size,1,none⟩=some (.bool b0):=cellOf hbn 1 rfl
              have x2:((w4.alloc (.cells #[.int .i64 k0,.bool b0,.bool ng,.slice ma mn mc,.int .i64 ex,.string st,.slice ka kn kc,.slice va vn vc] 29)).setCell ⟨g,1,none⟩ (.int .i64 (d:Int))).cell? ⟨w4.heap.size,2,none⟩=some (.bool ng):=cellOf hbn 2 rfl
              have x3:((w4.alloc (.cells #[.int .i64 k0,.bool b0,.bool ng,.slice ma mn mc,.int .i64 ex,.string st,.slice ka kn kc,.slice va vn vc] 29)).setCell ⟨g,1,none⟩ (.int .i64 (d:Int))).cell? ⟨w4.heap.size,3,none⟩=some (.slice ma mn mc):=cellOf hbn 3 rfl
              have x4:((w4.alloc (.cells #[.int .i64 k0,.bool b0,.bool ng,.slice ma mn mc,.int .i64 ex,.string st,.slice ka kn kc,.slice va vn vc] 29)).setCell ⟨g,1,none⟩ (.int .i64 (d:Int))).cell? ⟨w4.heap.size,4,none⟩=some (.int .i64 ex):=cellOf hbn 4 rfl
              have x5:((w4.alloc (.cells #[.int .i64 k0,.bool b0,.bool ng,.slice ma mn mc,.int .i64 ex,.string st,.slice ka kn kc,.slice va vn vc] 29)).setCell ⟨g,1,none⟩ (.int .i64 (d:Int))).cell? ⟨w4.heap.size,5,none⟩=some (.string st):=cellOf hbn 5 rfl
              have x6:((w4.alloc (.cells #[.int .i64 k0,.bool b0,.bool ng,.slice ma mn mc,.int .i64 ex,.string st,.slice ka kn kc,.slice va vn vc] 29)).setCell ⟨g,1,none⟩ (.int .i64 (d:Int))).cell? ⟨w4.heap.size,6,none⟩=some (.slice ka kn kc):=cellOf hbn 6 rfl
              have x7:((w4.alloc (.cells #[.int .i64 k0,.bool b0,.bool ng,.slice ma mn mc,.int .i64 ex,.string st,.slice ka kn kc,.slice va vn vc] 29)).setCell ⟨g,1,none⟩ (.int .i64 (d:Int))).cell? ⟨w4.heap.size,7,none⟩=some (.slice va vn vc):=cellOf hbn 7 rfl
              have y0:((w4.alloc (.cells #[.int .i64 k0,.bool b0,.bool ng,.slice ma mn mc,.int .i64 ex,.string st,.slice ka kn kc,.slice va vn vc] 29)).setCell ⟨g,1,none⟩ (.int .i64 (d:Int))).cell? ⟨w.heap.size,0,none⟩=some (.int .i64 0):=cellOf hbx6 0 rfl
              have z0:=freeOf hbx6 0
              have y1:((w4.alloc (.cells #[.int .i64 k0,.bool b0,.bool ng,.slice ma mn mc,.int .i64 ex,.string st,.slice ka kn kc,.slice va vn vc] 29)).setCell ⟨g,1,none⟩ (.int .i64 (d:Int))).cell? ⟨w.heap.size,1,none⟩=some (.bool false):=cellOf hbx6 1 rfl
              have z1:=freeOf hbx6 1
              have y2:((w4.alloc (.cells #[.int .i64 k0,.bool b0,.bool ng,.slice ma mn mc,.int .i64 ex,.string st,.slice ka kn kc,.slice va vn vc] 29)).setCell ⟨g,1,none⟩ (.int .i64 (d:Int))).cell? ⟨w.heap.size,2,none⟩=some (.bool false):=cellOf hbx6 2 rfl
              have z2:=freeOf hbx6 2
              have y3:((w4.alloc (.cells #[.int .i64 k0,.bool b0,.bool ng,.slice ma mn mc,.int .i64 ex,.string st,.slice ka kn kc,.slice va vn vc] 29)).setCell ⟨g,1,none⟩ (.int .i64 (d:Int))).cell? ⟨w.heap.size,3,none⟩=some (.slice none 0 0):=cellOf hbx6 3 rfl
              have z3:=freeOf hbx6 3
              have y4:((w4.alloc (.cells #[.int .i64 k0,.bool b0,.bool ng,.slice ma mn mc,.int .i64 ex,.string st,.slice ka kn kc,.slice va vn vc] 29)).setCell ⟨g,1,none⟩ (.int .i64 (d:Int))).cell? ⟨w.heap.size,4,none⟩=some (.int .i64 0):=cellOf hbx6 4 rfl
              have z4:=freeOf hbx6 4
              have y5:((w4.alloc (.cells #[.int .i64 k0,.bool b0,.bool ng,.slice ma mn mc,.int .i64 ex,.string st,.slice ka kn kc,.slice va vn vc] 29)).setCell ⟨g,1,none⟩ (.int .i64 (d:Int))).cell? ⟨w.heap.size,5,none⟩=some (.string ⟨#[]⟩):=cellOf hbx6 5 rfl
              have z5:=freeOf hbx6 5
              have y6:((w4.alloc (.cells #[.int .i64 k0,.bool b0,.bool ng,.slice ma mn mc,.int .i64 ex,.string st,.slice ka kn kc,.slice va vn vc] 29)).setCell ⟨g,1,none⟩ (.int .i64 (d:Int))).cell? ⟨w.heap.size,6,none⟩=some (.slice none 0 0):=cellOf hbx6 6 rfl
              have z6:=freeOf hbx6 6
              have y7:((w4.alloc (.cells #[.int .i64 k0,.bool b0,.bool ng,.slice ma mn mc,.int .i64 ex,.string st,.slice ka kn kc,.slice va vn vc] 29)).setCell ⟨g,1,none⟩ (.int .i64 (d:Int))).cell? ⟨w.heap.size,7,none⟩=some (.slice none 0 0):=cellOf hbx6 7 rfl
              have z7:=freeOf hbx6 7
              have hn8:¬ w4.heap.size=w.heap.size:=by have:=h4.oth.size;omega
              have hn9:¬ w.heap.size=w4.heap.size:=fun e=>hn8 e.symm
              clear h4 h5 H5 hbx4 hbx6 hin6 hbn hin hbare c1 c2 f1 f2 c1b f1b
              dsimp only [MT.c,Cel.val]
              go_wp2_with fail
              refine bodyPost_ret (v:=.agg #[.int .i64 k0,.bool b0,.bool ng,.slice ma mn mc,.int .i64 ex,.string st,.slice ka kn kc,.slice va vn vc]) (by simp [results,Tryz.results41,go_sem,y0,y1,y2,y3,y4,y5,y6,y7]) rfl ?_
              exact ValV.yes _ rfl rfl HBR.out HFIN.out.1 HFIN.out.2
theorem value_allC {w0:World} (hU:UT w0) {g:Nat}:∀ f d,d+f=64→ValCC w0 g d (cbValue (f+1)):=by
  intro f
  induction f with
  | zero=>intro d h;exact value_cb hU h (fun h=>absurd rfl h)
  | succ f ih=>intro d h;exact value_cb hU h (fun _=>ih (d+1) (by omega))
end Go.Proofs.YtnacbakcalcgaaaGreatDoor
