/- Texts of the claim. -/
import Derived.Test.YtnacbakcalcgaaaGreatDoorEw
import Derived.Test.YtnacbakcalcgaaaGreatDoorEk
import Derived.Test.YtnacbakcalcgaaaGreatDoorEA
set_option linter.unusedVariables false
set_option linter.unusedSimpArgs false
set_option maxHeartbeats 8000000
set_option maxRecDepth 100000
namespace Go.Proofs.YtnacbakcalcgaaaGreatDoor
open Go.RowKit Go.Sort
attribute [local go_sem ↓] Go.wp_at_zero Go.wp_at_succ
def LocV (B:Nat) (v:Value):Prop:=∀ a n c,v=.slice (some a) n c→B≤a.block
theorem LocV.mono {B B':Nat} {v:Value} (h:LocV B v) (hb:B'≤B):LocV B' v:=fun a n c e=>Nat.le_trans hb (h a n c e)
theorem locV_own {B:Nat} {w:World} {v:Value} {xs:List Nat} (h:Own B w v xs):LocV B v:=by
  obtain ⟨ad,cap,rfl,_,_,h3⟩:=h.view
  intro a n c e
  injection e with e1
  exact (h3 a e1).1
theorem trim_n {w0 w:World} {l:List Ent} {v1:Value} {L1 N1:Nat} {xs:List Nat} (h:Ctx w0 w l) (i:Nat) (hi:l[i]? = some ⟨v1,L1,N1,xs⟩) (h1:L1≤10000000) :
    Calls Tryz.prog 195 #[v1] w fun e w'=>∃ v m k,e=.returned (.tuple #[v,.int .i64 ((k:Nat):Int)])∧N1=m*tenN k∧(N1=0→k=0)∧(N1 ≠ 0→m % 10 ≠ 0)∧k≤400000000∧LocV w.heap.size v∧Ctx w0 w' (⟨v,L1,m,limbs m⟩::l):=by
  obtain ⟨ad,cap,rfl,a2,a3,a4,a5,rfl⟩:=h.get i hi
  refine (trim_any ad _ cap xs w rfl a2 (by omega) a4 a5).mono ?_
  rintro e w' ⟨v,m,k,rfl,ho,hb,q1,q2,q3,q4⟩
  refine ⟨v,m,k,rfl,q1,q2,q3,q4,locV_own ho,(h.step hb).push (ent_own ho (len_leq a4 ?_ a3))⟩
  rw [q1]
  exact Nat.le_mul_of_pos_right _ (Nat.pow_pos (by decide))
def MadeN (w w0:World) (l:List Ent) (L:Nat) (neg:Bool) (m:Nat) (e:Int) (ok:Bool) (r:Ending) (w':World):Prop :=
  ∃ v,r=.returned (.tuple #[.agg #[.bool neg,v,.int .i64 e],.bool ok])∧LocV w.heap.size v∧Ctx w0 w' (⟨v,L,m,limbs m⟩::l)
theorem make_yes_n {w0 w:World} {l:List Ent} {v:Value} {L N:Nat} {xs:List Nat} (h:Ctx w0 w l) (i:Nat) (hi:l[i]? = some ⟨v,L,N,xs⟩) (hL:L≤1000000) (neg:Bool) (e:Int)
    (m k:Nat) (hN:N=m*tenN k) (hm:m % 10 ≠ 0) (hlen:(limbs m).length≤90) (hlo:-1200≤e+(k:Int)) (hhi:e+(k:Int)≤1200) :
    Calls Tryz.prog 155 #[.bool neg,v,.int .i64 e] w (MadeN w w0 l L neg m (e+(k:Int)) true):=by
  have hb1:Below w.heap.size w (w.alloc (.cells #[.bool false,.slice none 0 0,.int .i64 0] 25)):=(Below.refl _ _).alloc (Nat.le_refl _) _
  have h1:=h.step hb1
  have hW:=Lib.hid h.below.size
  have K:=Lib.hid (trim_n h1.again i hi (by omega))
  have H1:=Lib.hid h1.below
  have HB1:=Lib.hid hb1
  have HC:=Lib.hid (chkB_mk (neg:=neg) hm hlen hlo hhi)
  have hne:m ≠ 0:=by intro h0;rw [h0] at hm;exact hm rfl
  have hlb:(((limbs m).length:Int) == 0)=false:=by
    rw [beq_eq_false_iff_ne]
    intro h0
    exact hne ((limbs_nil_iff m).1 (List.eq_nil_of_length_eq_zero (by omega)))
  have hN0:N ≠ 0:=by rw [hN];exact Nat.mul_ne_zero hne (tenN_ne _)
  have HM:=Lib.hid hm
  have HE:=Lib.hid hN
  have HLEN:=Lib.hid hlen
  have he1:¬ (1200<e):=by omega
  clear h h1 hi hb1 hne hm hN hlen
  go_enter Tryz.func155,Tryz.ntmps155
  go_wp2_with fail
  refine K.out.mono ?_
  rintro r w1 ⟨t,m',k',rfl,q1,q2,q3,hk4,hloc,h2⟩
  obtain ⟨rfl,rfl⟩:m=m'∧k=k':=ten_unique (by rw [← q1,← HE.out]) HM.out (q3 hN0)
  have HLOC:=Lib.hid (hloc.mono (B':=w.heap.size) (by simp));clear hloc
  have hv:=h2.get 0 rfl
  obtain ⟨ad,cap,rfl,a2,a3,a4,a5,a6⟩:=hv
  obtain ⟨hc,hf⟩:=bcell h2.below
  have hz:w.heap.size<w1.heap.size:=by have:=h2.below.size;simp at this;omega
  have H2:=Lib.hid h2;clear h2 q1 q2 q3
  have KC:=Lib.hid (check_any neg ad (limbs m).length cap (limbs m) (e+(k:Int)) (w1.alloc (.cells #[.bool neg,.slice ad (limbs m).length cap,.int .i64 (e+(k:Int))] 25)) rfl a2 (by have:=HLEN.out;omega) a4 (a5.below ((Below.refl _ _).alloc (Nat.le_refl _) _)))
  have A5:=Lib.hid a5
  have A6:=Lib.hid a6
  clear a3 a4 a5 a6
  generalize hn:(limbs m).length=n at *
  have HN:=Lib.hid hn;clear hn
  have hsum:IntKind.i64.wrap (e+(k:Int))=e+(k:Int):=IntWalk.i64_in _ (by omega)
  go_wp2_with fail
  refine KC.out.mono ?_
  rintro r w2 ⟨rfl,hb2⟩
  rw [HC.out]
  obtain ⟨hc2,hf2⟩:=bcell hb2
  have hz2:w1.heap.size<w2.heap.size:=by have:=hb2.size;simp at this;omega
  have hzz:w.heap.size<w1.heap.size+1:=by omega
  have HB2:=Lib.hid hb2;clear hb2
  go_wp2
  have H3:=Ctx.back H1.out H2.out
  have H4:=(H3.step ((Below.refl _ _).alloc (Nat.le_refl _) (.cells #[.bool neg,.slice ad n cap,.int .i64 (e+(k:Int))] 25))).step HB2.out
  refine bodyPost_ret (v:=.tuple #[.agg #[.bool neg,.slice ad n cap,.int .i64 (e+(k:Int))],.bool true]) (by simp [results,Tryz.results155,go_sem,hc,hc2,hz,hzz]) rfl ⟨_,rfl,HLOC.out,?_⟩
  exact H4.box3 hW.out (b:=false) (a:=none) (n:=0) (c:=0) (x:=0) (by simp [hc,hc2,hzz,hz,World.cell?_alloc_lt]) (by simp [hc,hc2,hzz,hz,World.cell?_alloc_lt]) (by simp [hc,hc2,hzz,hz,World.cell?_alloc_lt]) _ _ _
theorem make_yes2_n {w0 w:World} {l:List Ent} {v:Value} {L N:Nat} {xs:List Nat} (h:Ctx w0 w l) (i:Nat) (hi:l[i]? = some ⟨v,L,N,xs⟩) (hL:L≤1000000) (neg:Bool) (e:Int)
    (m k:Nat) (hN:N=m*tenN k) (hm:m % 10 ≠ 0) (hlen:(limbs m).length≤90) (x:Int) (hx:e+(k:Int)=x) (hlo:-1200≤x) (hhi:x≤1200) :
    Calls Tryz.prog 155 #[.bool neg,v,.int .i64 e] w (MadeN w w0 l L neg m x true):=by
  subst hx;exact make_yes_n h i hi hL neg e m k hN hm hlen hlo hhi
theorem decimal_n {w0 w:World} {l:List Ent} (h:Ctx w0 w l) (ng:Bool) (s:Nat) (t:Int) (h64:s<18446744073709551616) (ht:-1074≤t∧t≤1000) (m k:Nat) (hN:decN s t=m*tenN k) (hm:m % 10 ≠ 0) (hlen:(limbs m).length≤90)
    (E:Int) (hE:E=(k:Int) - ((-t).toNat:Int)) (hlo:-1200≤E) (hhi:E≤1200) :
    Calls Tryz.prog 188 #[binV ng s t] w (MadeN w w0 l 2000 ng m E true):=by
  obtain ⟨hok,hvl⟩:=words_ok h64
  generalize hA:(#[.bool ng,.int .u64 (s:Int),.int .i64 t]:Array Value)=A
  have hb1:=below_box' w A 155
  have hb2:Below w.heap.size w ((w.alloc (.cells A 155)).alloc (.cells #[.bool false,.slice none 0 0,.int .i64 0] 25)):=hb1.alloc hb1.size _
  have h2:=h.step hb2
  have h3:=h2.again.lits hok hvl
  rw [show ((w.alloc (.cells A 155)).alloc (.cells #[.bool false,.slice none 0 0,.int .i64 0] 25)).heap.size=w.heap.size+1+1 by simp] at h3
  rw [show ([s % 4294967296,s / 4294967296].map lv).toArray=#[.int .u32 ((s:Int) % 4294967296),.int .u32 ((s:Int) / 4294967296)] by simp [lv]] at h3
  have z0:(((w.alloc (.cells A 155)).alloc (.cells #[.bool false,.slice none 0 0,.int .i64 0] 25)).alloc (.cells #[.int .u32 ((s:Int) % 4294967296),.int .u32 ((s:Int) / 4294967296)] 51)).cell? ⟨w.heap.size,0,none⟩=some (.bool ng):=by rw [cell_old _ _ _ _ (by simp <;> omega),cell_old _ _ _ _ (by simp),cell_new,← hA];rfl
  have z2:(((w.alloc (.cells A 155)).alloc (.cells #[.bool false,.slice none 0 0,.int .i64 0] 25)).alloc (.cells #[.int .u32 ((s:Int) % 4294967296),.int .u32 ((s:Int) / 4294967296)] 51)).cell? ⟨w.heap.size,2,none⟩=some (.int .i64 t):=by rw [cell_old _ _ _ _ (by simp <;> omega),cell_old _ _ _ _ (by simp),cell_new,← hA];rfl
  have y0:(((w.alloc (.cells A 155)).alloc (.cells #[.bool false,.slice none 0 0,.int .i64 0] 25)).alloc (.cells #[.int .u32 ((s:Int) % 4294967296),.int .u32 ((s:Int) / 4294967296)] 51)).cell? ⟨w.heap.size+1,0,none⟩=some (.bool false):=by rw [cell_old _ _ _ _ (by simp <;> omega),cell_at _ _ _ _ _ (by simp)];rfl
  have y1:(((w.alloc (.cells A 155)).alloc (.cells #[.bool false,.slice none 0 0,.int .i64 0] 25)).alloc (.cells #[.int .u32 ((s:Int) % 4294967296),.int .u32 ((s:Int) / 4294967296)] 51)).cell? ⟨w.heap.size+1,1,none⟩=some (.slice none 0 0):=by rw [cell_old _ _ _ _ (by simp <;> omega),cell_at _ _ _ _ _ (by simp)];rfl
  have y2:(((w.alloc (.cells A 155)).alloc (.cells #[.bool false,.slice none 0 0,.int .i64 0] 25)).alloc (.cells #[.int .u32 ((s:Int) % 4294967296),.int .u32 ((s:Int) / 4294967296)] 51)).cell? ⟨w.heap.size+1,2,none⟩=some (.int .i64 0):=by rw [cell_old _ _ _ _ (by simp <;> omega),cell_at _ _ _ _ _ (by simp)];rfl
  have yf:∀ j,(((w.alloc (.cells A 155)).alloc (.cells #[.bool false,.slice none 0 0,.int .i64 0] 25)).alloc (.cells #[.int .u32 ((s:Int) % 4294967296),.int .u32 ((s:Int) / 4294967296)] 51)).frozen? ⟨w.heap.size+1,j,none⟩=false:=fun j=>(World.frozen?_alloc_old _ _ _ (by simp)).trans (by rw [show w.heap.size+1=(w.alloc (.cells A 155)).heap.size by simp];exact World.frozen?_alloc_new ..)
  rw [show [s % 4294967296,s / 4294967296].length=2 from rfl] at h3
  have hbw:=hb2.trans (h3.below.mono (by simp <;> omega))
  have hzz:w.heap.size+1+1+1=(((w.alloc (.cells A 155)).alloc (.cells #[.bool false,.slice none 0 0,.int .i64 0] 25)).alloc (.cells #[.int .u32 ((s:Int) % 4294967296),.int .u32 ((s:Int) / 4294967296)] 51)).heap.size:=by simp
  generalize hW:(((w.alloc (.cells A 155)).alloc (.cells #[.bool false,.slice none 0 0,.int .i64 0] 25)).alloc (.cells #[.int .u32 ((s:Int) % 4294967296),.int .u32 ((s:Int) / 4294967296)] 51))=W at *
  have H:=Lib.hid (h.step hbw)
  have H3:=Lib.hid h3.again
  have HW:=Lib.hid hW
  have HA:=Lib.hid hA
  have hne1:¬ w.heap.size+1=w.heap.size:=by omega
  have hz0:w.heap.size<W.heap.size:=by omega
  have hz1:w.heap.size+1<W.heap.size:=by omega
  have hg:=Lib.hid h.below.size
  clear h h2 h3 hb1 hb2 hbw hW hok hvl hA
  by_cases hneg:t<0
  · obtain ⟨kk,hkk⟩:∃ kk:Nat,(-t).toNat=kk:=⟨_,rfl⟩
    have hN2:s*5 ^ kk=m*tenN k:=by
      unfold decN at hN
      rw [hkk,show t.toNat=0 by omega,Nat.pow_zero,Nat.mul_one] at hN;exact hN
    have hnw:IntKind.i64.wrap (-t) = -t:=IntWalk.i64_in _ (by omega)
    have HE:=Lib.hid (show t+(k:Int)=E by omega)
    have hkb:kk≤1074:=by omega
    have KP:=Lib.hid (fun W' (h:Ctx W W' (⟨.slice (some ⟨w.heap.size+1+1,0,none⟩) 2 2,2,s,[s % 4294967296,s / 4294967296]⟩::l))=>pow_c h (b:=5) (by decide) (-t) kk (by unfold cutP;omega))
    clear hE
    have KM:=Lib.hid (fun W' v1 (h:Ctx W W' (⟨v1,kk+1,5 ^ kk,limbs (5 ^ kk)⟩ :: ⟨.slice (some ⟨w.heap.size+1+1,0,none⟩) 2 2,2,s,[s % 4294967296,s / 4294967296]⟩::l))=>mul_c h 1 0 rfl rfl (by decide) (by omega))
    have KK:=Lib.hid (fun W' v1 v2 (h:Ctx W W' (⟨v2,2+(kk+1),s*5 ^ kk,limbs (s*5 ^ kk)⟩ :: ⟨v1,kk+1,5 ^ kk,limbs (5 ^ kk)⟩ :: ⟨.slice (some ⟨w.heap.size+1+1,0,none⟩) 2 2,2,s,[s % 4294967296,s / 4294967296]⟩::l))=>make_yes2_n h 0 rfl (by omega) ng t m k hN2 hm hlen E HE.out hlo hhi)
    clear hN2 hN
    generalize 5 ^ kk=PP at *
    go_enter Tryz.func188,Tryz.ntmps188
    unfold binV
    go_wp2_with fail
    rw [HA.out,HW.out]
    go_region_held3 (fun w'=>w'.cell? ⟨w.heap.size,0,none⟩=some (.bool ng)∧w'.cell? ⟨w.heap.size,2,none⟩=some (.int .i64 t)) (go_keep)
      (first
      | (go_at_call 82;refine (KP.out _ (by exact H3.out.step (below_drew (Below.refl _ _)))).mono ?_;rintro r w1 ⟨v1,rfl,h1⟩;have hB1:=h1.below;have H1:=Lib.hid h1;clear h1;have q0:=(hB1.cell (p:=⟨w.heap.size,0,none⟩) hz0).trans z0;have q2:=(hB1.cell (p:=⟨w.heap.size,2,none⟩) hz0).trans z2)
      | (go_at_call 81;refine (KM.out _ _ (by exact H1.out)).mono ?_;rintro r w2 ⟨v2,rfl,h2⟩;have hB2:=h2.below;have H2:=Lib.hid h2;clear h2;have q0:=(hB2.cell (p:=⟨w.heap.size,0,none⟩) hz0).trans z0;have q2:=(hB2.cell (p:=⟨w.heap.size,2,none⟩) hz0).trans z2)
      | (go_at_call 155;refine (KK.out _ _ _ (by exact H2.out)).mono ?_;rintro r w3 ⟨v3,rfl,hloc3,h3⟩;have HL3:=Lib.hid (hloc3.mono (Nat.le_trans (Nat.le_of_lt hz0) hB2.size));clear hloc3;have hB3:=h3.below;obtain ⟨ad3,cap3,hv3,_⟩:=h3.get 0 rfl;subst hv3;have H4:=Lib.hid h3;clear h3;have q0:=(hB3.cell (p:=⟨w.heap.size,0,none⟩) hz0).trans z0;have q2:=(hB3.cell (p:=⟨w.heap.size,2,none⟩) hz0).trans z2;have x0:=(hB3.cell (p:=⟨w.heap.size+1,0,none⟩) hz1).trans y0;have x1:=(hB3.cell (p:=⟨w.heap.size+1,1,none⟩) hz1).trans y1;have x2:=(hB3.cell (p:=⟨w.heap.size+1,2,none⟩) hz1).trans y2;have xf0:=(hB3.frozen (p:=⟨w.heap.size+1,0,none⟩) hz1).trans (yf 0);have xf1:=(hB3.frozen (p:=⟨w.heap.size+1,1,none⟩) hz1).trans (yf 1);have xf2:=(hB3.frozen (p:=⟨w.heap.size+1,2,none⟩) hz1).trans (yf 2)))
    all_goals
      have H5:=((Ctx.over H.out H4.out).box3 (g:=w.heap.size+1) (b:=false) (a:=none) (n:=0) (c:=0) (x:=0) (Nat.le_succ_of_le hg.out) x0 x1 x2 (.bool ng) (.slice ad3 (limbs m).length cap3) (.int .i64 E)).wide (L':=2000) (by omega)
      have H6:=Lib.hid H5;clear H5
      go_wp2_with fail
      exact bodyPost_ret (v:=.tuple #[.agg #[.bool ng,.slice ad3 (limbs m).length cap3,.int .i64 E],.bool true]) (by simp [results,Tryz.results188,go_sem,x0,x1,x2]) rfl ⟨_,rfl,HL3.out,H6.out⟩
  · obtain ⟨kk,hkk⟩:∃ kk:Nat,t.toNat=kk:=⟨_,rfl⟩
    have hN2:s*2 ^ kk=m*tenN k:=by
      unfold decN at hN
      rw [hkk,show (-t).toNat=0 by omega,Nat.pow_zero,Nat.mul_one] at hN;exact hN
    have hkb:kk≤1000:=by omega
    have HE:=Lib.hid (show 0+(k:Int)=E by omega)
    have KP:=Lib.hid (fun W' (h:Ctx W W' (⟨.slice (some ⟨w.heap.size+1+1,0,none⟩) 2 2,2,s,[s % 4294967296,s / 4294967296]⟩::l))=>pow_c h (b:=2) (by decide) t kk (by unfold cutP;omega))
    clear hE
    have KM:=Lib.hid (fun W' v1 (h:Ctx W W' (⟨v1,kk+1,2 ^ kk,limbs (2 ^ kk)⟩ :: ⟨.slice (some ⟨w.heap.size+1+1,0,none⟩) 2 2,2,s,[s % 4294967296,s / 4294967296]⟩::l))=>mul_c h 1 0 rfl rfl (by decide) (by omega))
    have KK:=Lib.hid (fun W' v1 v2 (h:Ctx W W' (⟨v2,2+(kk+1),s*2 ^ kk,limbs (s*2 ^ kk)⟩ :: ⟨v1,kk+1,2 ^ kk,limbs (2 ^ kk)⟩ :: ⟨.slice (some ⟨w.heap.size+1+1,0,none⟩) 2 2,2,s,[s % 4294967296,s / 4294967296]⟩::l))=>make_yes2_n h 0 rfl (by omega) ng 0 m k hN2 hm hlen E HE.out hlo hhi)
    clear hN2 hN
    generalize 2 ^ kk=PP at *
    go_enter Tryz.func188,Tryz.ntmps188
    unfold binV
    go_wp2_with fail
    rw [HA.out,HW.out]
    go_region_held3 (fun w'=>w'.cell? ⟨w.heap.size,0,none⟩=some (.bool ng)∧w'.cell? ⟨w.heap.size,2,none⟩=some (.int .i64 t)) (go_keep)
      (first
      | (go_at_call 82;refine (KP.out _ (by exact H3.out.step (below_drew (Below.refl _ _)))).mono ?_;rintro r w1 ⟨v1,rfl,h1⟩;have hB1:=h1.below;have H1:=Lib.hid h1;clear h1;have q0:=(hB1.cell (p:=⟨w.heap.size,0,none⟩) hz0).trans z0;have q2:=(hB1.cell (p:=⟨w.heap.size,2,none⟩) hz0).trans z2)
      | (go_at_call 81;refine (KM.out _ _ (by exact H1.out)).mono ?_;rintro r w2 ⟨v2,rfl,h2⟩;have hB2:=h2.below;have H2:=Lib.hid h2;clear h2;have q0:=(hB2.cell (p:=⟨w.heap.size,0,none⟩) hz0).trans z0;have q2:=(hB2.cell (p:=⟨w.heap.size,2,none⟩) hz0).trans z2)
      | (go_at_call 155;refine (KK.out _ _ _ (by exact H2.out)).mono ?_;rintro r w3 ⟨v3,rfl,hloc3,h3⟩;have HL3:=Lib.hid (hloc3.mono (Nat.le_trans (Nat.le_of_lt hz0) hB2.size));clear hloc3;have hB3:=h3.below;obtain ⟨ad3,cap3,hv3,_⟩:=h3.get 0 rfl;subst hv3;have H4:=Lib.hid h3;clear h3;have q0:=(hB3.cell (p:=⟨w.heap.size,0,none⟩) hz0).trans z0;have q2:=(hB3.cell (p:=⟨w.heap.size,2,none⟩) hz0).trans z2;have x0:=(hB3.cell (p:=⟨w.heap.size+1,0,none⟩) hz1).trans y0;have x1:=(hB3.cell (p:=⟨w.heap.size+1,1,none⟩) hz1).trans y1;have x2:=(hB3.cell (p:=⟨w.heap.size+1,2,none⟩) hz1).trans y2;have xf0:=(hB3.frozen (p:=⟨w.heap.size+1,0,none⟩) hz1).trans (yf 0);have xf1:=(hB3.frozen (p:=⟨w.heap.size+1,1,none⟩) hz1).trans (yf 1);have xf2:=(hB3.frozen (p:=⟨w.heap.size+1,2,none⟩) hz1).trans (yf 2)))
    all_goals
      have H5:=((Ctx.over H.out H4.out).box3 (g:=w.heap.size+1) (b:=false) (a:=none) (n:=0) (c:=0) (x:=0) (Nat.le_succ_of_le hg.out) x0 x1 x2 (.bool ng) (.slice ad3 (limbs m).length cap3) (.int .i64 E)).wide (L':=2000) (by omega)
      have H6:=Lib.hid H5;clear H5
      go_wp2_with fail
      exact bodyPost_ret (v:=.tuple #[.agg #[.bool ng,.slice ad3 (limbs m).length cap3,.int .i64 E],.bool true]) (by simp [results,Tryz.results188,go_sem,x0,x1,x2]) rfl ⟨_,rfl,HL3.out,H6.out⟩
theorem exact_n {w0 w:World} {l:List Ent} (h:Ctx w0 w l) (width:Int) (x:Nat) (hx:x<18446744073709551616) {e f:Nat} (hl:Lay e f) (hlo:layOf width=some (e,f)) (hk:kindF e f x=1) :
    Calls Tryz.prog 152 #[.int .i64 width,.int .u64 (x:Int)] w (MadeN w w0 l 2000 (fNeg e f x) (exM e f x) (exE e f x) true):=by
  obtain ⟨e1,e2,e3,e4,e5⟩:=ex_bounds hl hk
  have KK:=fun W=>kind_any width x hx W
  rw [show kindW width x=1 by unfold kindW;rw [hlo];simp [hk]] at KK
  have KKH:=Lib.hid KK
  have KL:=fun W=>layoutOf_any width W
  unfold layA at KL
  rw [hlo] at KL
  have KLH:=Lib.hid KL
  have KSH:=Lib.hid (fun W=>split_any hl x hx W)
  have KBH:=Lib.hid (fun W=>binary_any hl x W)
  have hb:=twosF_bd (x:=x) hl
  have h64:=size_le_64 (x:=x) hl
  have KDH:=Lib.hid (fun W (h:Ctx W W l)=>decimal_n h (fNeg e f x) (sizeF e f x) (twosF e f x) h64 ⟨hb.1,by omega⟩ (exM e f x) _ e1 e2 e3 (exE e f x) rfl e4 e5)
  have H:=Lib.hid h
  have hg:=Lib.hid h.below.size
  clear KK KL hb h64 e1 e2 e3 e4 e5 hk hlo h hl
  generalize fNeg e f x=ng at *
  generalize exM e f x=m at *
  generalize exE e f x=E at *
  generalize sizeF e f x=s at *
  generalize twosF e f x=t at *
  generalize partV e f x=pv at *
  unfold layV at *
  go_enter Tryz.func152,Tryz.ntmps152
  go_wp2_with fail
  refine (KKH.out _).mono ?_
  rintro r w1 ⟨rfl,hb1⟩
  have HB1:=Lib.hid (below_on (below_box' w #[.bool false,.slice none 0 0,.int .i64 0] 25) hb1)
  obtain ⟨hc1,hf1⟩:=bcell hb1
  have x0:w1.cell? ⟨w.heap.size,0,none⟩=some (.bool false):=by rw [hc1 _ _ (by simp)];simp
  have x1:w1.cell? ⟨w.heap.size,1,none⟩=some (.slice none 0 0):=by rw [hc1 _ _ (by simp)];simp
  have x2:w1.cell? ⟨w.heap.size,2,none⟩=some (.int .i64 0):=by rw [hc1 _ _ (by simp)];simp
  have xf:∀ j,w1.frozen? ⟨w.heap.size,j,none⟩=false:=fun j=>by rw [hf1 _ _ (by simp)];simp [go_sem]
  have hz1:w.heap.size<w1.heap.size:=by have h:=hb1.size;(try simp at h);omega
  clear hb1 hc1 hf1
  go_wp2_with fail
  refine (KLH.out _).mono ?_
  rintro r w2 ⟨rfl,hb2⟩
  have hbw:=(below_on hb2 (below_box' w2 #[.int .i64 (e:Int),.int .i64 (f:Int)] 151))
  have z0:(w2.alloc (.cells #[.int .i64 (e:Int),.int .i64 (f:Int)] 151)).cell? ⟨w2.heap.size,0,none⟩=some (.int .i64 (e:Int)):=by simp
  have z1:(w2.alloc (.cells #[.int .i64 (e:Int),.int .i64 (f:Int)] 151)).cell? ⟨w2.heap.size,1,none⟩=some (.int .i64 (f:Int)):=by simp
  have hzz:(w2.alloc (.cells #[.int .i64 (e:Int),.int .i64 (f:Int)] 151)).heap.size=w2.heap.size+1:=by simp
  have hz2:w1.heap.size≤w2.heap.size:=hb2.size
  clear hb2
  go_wp2_with fail
  generalize hW:w2.alloc (.cells #[.int .i64 (e:Int),.int .i64 (f:Int)] 151)=W at *
  have hwz:w.heap.size<W.heap.size:=by omega
  have hwz2:w2.heap.size<W.heap.size:=by omega
  have y0:W.cell? ⟨w.heap.size,0,none⟩=some (.bool false):=(hbw.cell (p:=⟨w.heap.size,0,none⟩) hz1).trans x0
  have y1:W.cell? ⟨w.heap.size,1,none⟩=some (.slice none 0 0):=(hbw.cell (p:=⟨w.heap.size,1,none⟩) hz1).trans x1
  have y2:W.cell? ⟨w.heap.size,2,none⟩=some (.int .i64 0):=(hbw.cell (p:=⟨w.heap.size,2,none⟩) hz1).trans x2
  have yf:∀ j,W.frozen? ⟨w.heap.size,j,none⟩=false:=fun j=>(hbw.frozen (p:=⟨w.heap.size,j,none⟩) hz1).trans (xf j)
  have HBW:=Lib.hid (below_on HB1.out hbw)
  have HCW:=Lib.hid (H.out.step HBW.out)
  have hne1:¬ w.heap.size=w2.heap.size:=by omega
  have hne2:¬ w2.heap.size=w.heap.size:=by omega
  clear x0 x1 x2 xf hW hzz hbw
  go_region_held3 (fun w'=>w'.cell? ⟨w2.heap.size,0,none⟩=some (.int .i64 (e:Int))∧w'.cell? ⟨w2.heap.size,1,none⟩=some (.int .i64 (f:Int))) (go_keep)
    (first
      | (go_at_call 190;refine (KSH.out _).mono ?_;rintro r w3 ⟨rfl,hb3⟩;have hB3:=below_on (below_drew (Below.refl W.heap.size W)) hb3;have q0:=(hB3.cell (p:=⟨w2.heap.size,0,none⟩) hwz2).trans z0;have q1:=(hB3.cell (p:=⟨w2.heap.size,1,none⟩) hwz2).trans z1)
      | (go_at_call 189;refine (KBH.out _).mono ?_;rintro r w4 ⟨rfl,hb4⟩;have hB4:=below_on hB3 hb4;have q0:=(hB4.cell (p:=⟨w2.heap.size,0,none⟩) hwz2).trans z0;have q1:=(hB4.cell (p:=⟨w2.heap.size,1,none⟩) hwz2).trans z1)
      | (go_at_call 188;refine (KDH.out _ (by exact (HCW.out.step hB4).again)).mono ?_;rintro r w5 ⟨v5,rfl,hloc5,h5⟩;have HL5:=Lib.hid (hloc5.mono (Nat.le_trans (Nat.le_of_lt hwz) hB4.size));clear hloc5;obtain ⟨ad5,cap5,hv5,_⟩:=h5.get 0 rfl;subst hv5;have hB5:=below_on hB4 h5.below;have q0:=(hB5.cell (p:=⟨w2.heap.size,0,none⟩) hwz2).trans z0;have q1:=(hB5.cell (p:=⟨w2.heap.size,1,none⟩) hwz2).trans z1;have x0:=(hB5.cell (p:=⟨w.heap.size,0,none⟩) hwz).trans y0;have x1:=(hB5.cell (p:=⟨w.heap.size,1,none⟩) hwz).trans y1;have x2:=(hB5.cell (p:=⟨w.heap.size,2,none⟩) hwz).trans y2;have xf0:=(hB5.frozen (p:=⟨w.heap.size,0,none⟩) hwz).trans (yf 0);have xf1:=(hB5.frozen (p:=⟨w.heap.size,1,none⟩) hwz).trans (yf 1);have xf2:=(hB5.frozen (p:=⟨w.heap.size,2,none⟩) hwz).trans (yf 2);have H5:=Lib.hid h5;clear h5))
  all_goals
    have H6:=Lib.hid ((Ctx.over (HCW.out.step hB4) H5.out).box3 (g:=w.heap.size) (b:=false) (a:=none) (n:=0) (c:=0) (x:=0) hg.out x0 x1 x2 (.bool ng) (.slice ad5 (limbs m).length cap5) (.int .i64 E))
    go_wp2_with fail
    exact bodyPost_ret (v:=.tuple #[.agg #[.bool ng,.slice ad5 (limbs m).length cap5,.int .i64 E],.bool true]) (by simp [results,Tryz.results152,go_sem,x0,x1,x2]) rfl ⟨_,rfl,HL5.out,H6.out⟩
end Go.Proofs.YtnacbakcalcgaaaGreatDoor
namespace Go.Proofs.YtnacbakcalcgaaaGreatDoor
open Go.RowKit Go.Lib Go.Sort
theorem val_set_add (xs:List Nat) (j y:Nat) (h:j<xs.length):val (xs.set j (xs.getD j 0+y))=val xs+B32 ^ j*y:=by
  have h1:=val_take_drop (xs.set j (xs.getD j 0+y)) (j+1) (by rw [List.length_set];omega)
  have h2:=val_take_drop xs (j+1) (by omega)
  have h3:=val_set_take xs j (xs.getD j 0+y) h
  have h4:=val_take_succ xs j h
  have h5:(xs.set j (xs.getD j 0+y)).drop (j+1)=xs.drop (j+1):=by rw [List.drop_set_of_lt (by omega)]
  rw [h1,h3,h5,h2,h4,Nat.mul_add]
  omega
theorem natB_fold (l:List Nat) (a:Nat):l.foldl (fun a x=>a*256+x) a=a*256 ^ l.length+natB l:=by
  induction l generalizing a with
  | nil=>simp [natB]
  | cons x l ih =>
    have h1:=ih (a*256+x)
    have h2:=ih x
    rw [List.foldl_cons,h1]
    unfold natB
    rw [List.foldl_cons,Nat.zero_mul,Nat.zero_add,h2,List.length_cons,Nat.pow_succ,Nat.add_mul,Nat.mul_assoc a,Nat.mul_comm 256]
    unfold natB
    omega
theorem natB_cons (x:Nat) (l:List Nat):natB (x::l)=x*256 ^ l.length+natB l:=by
  have:=natB_fold (x::l) 0
  rw [List.foldl_cons,Nat.zero_mul,Nat.zero_add,natB_fold l x] at this
  omega
theorem pow_256 (i:Nat):256 ^ i=B32 ^ (i / 4)*2 ^ (8*(i % 4)):=by
  rw [B32_eq,show (4294967296:Nat)=2 ^ 32 by decide,show (256:Nat)=2 ^ 8 by decide,← Nat.pow_mul,← Nat.pow_mul,← Nat.pow_add]
  congr 1
  omega
theorem limb_low {xs:List Nat} {i:Nat} (h:val xs<256 ^ i) (hj:i / 4<xs.length):xs.getD (i / 4) 0<2 ^ (8*(i % 4)):=by
  have h2:=val_take_drop xs (i / 4+1) (by omega)
  have h4:=val_take_succ xs (i / 4) hj
  rw [pow_256] at h
  have hp:0<B32 ^ (i / 4):=Nat.pow_pos (by rw [B32_eq];decide)
  have h5:B32 ^ (i / 4)*xs.getD (i / 4) 0<B32 ^ (i / 4)*2 ^ (8*(i % 4)):=by omega
  exact Nat.lt_of_mul_lt_mul_left h5
def NatP (l:List Nat) (w:World) (e:Ending) (w':World):Prop:=∃ u xs,e=.returned u∧ListOk w' u 600 (natB l) xs∧Below w.heap.size w w'
def NatRel (l:List Nat) (n M:Nat) (w:World) (k:Nat) (v:Value) (wr:World):Prop :=
  ∃ (i:Nat) (xs:List Nat),v=.int .i64 (i:Int)∧i≤n∧k=n+1 - i∧Blk wr w.heap.size xs []∧xs.length=M∧Okl xs∧val xs=natB (l.drop (n - i))∧Below w.heap.size w wr
theorem naturalOf_cb (l:List Nat) (w:World) (hl:l.length≤2000) (hb:Okb l) :
    Calls Tryz.prog 191 #[.string (strB l)] w (NatP l w):=by
  obtain ⟨n,hn⟩:∃ n,l.length=n:=⟨_,rfl⟩
  have hsz:(strB l).size=n:=by rw [strB_size,hn]
  have HN:=Lib.hid hn
  have HB:=Lib.hid hb
  rw [hn] at hl
  have HSB:=Lib.hid (strB_data l)
  clear hn hb
  generalize hs:strB l=s at *
  have HS:=Lib.hid hs
  clear hs
  obtain ⟨M,hM⟩:∃ M,(n+3) / 4=M:=⟨_,rfl⟩
  have e0:IntKind.i64.wrap ((n:Int)+4)=(n:Int)+4:=IntWalk.i64_in _ (by omega)
  have e1:IntKind.i64.wrap ((n:Int)+4 - 1)=(n:Int)+3:=by rw [show (n:Int)+4 - 1=(n:Int)+3 by omega];exact IntWalk.i64_in _ (by omega)
  have e2:IntKind.i64.wrap (((n:Int)+3).tdiv 4)=(M:Int):=by
    rw [Int.tdiv_eq_ediv_of_nonneg (by omega)]
    rw [show ((n:Int)+3) / 4=(M:Int) by omega]
    exact IntWalk.i64_in _ (by omega)
  go_enter Tryz.func191,Tryz.ntmps191
  go_wp2_with (refine wpl_make _ rfl _ _ rfl .i64 .i64 (M:Int) (M:Int) M rfl rfl rfl rfl (by omega) ?_)
  intro w1 hb1 hbl1
  have HB1:=Lib.hid hb1
  have HBL1:=Lib.hid hbl1
  clear hb1 hbl1 e0 e1 e2
  go_wp2_with fail
  go_loopg [13] (n+1) (fun k v wr=>NatRel l n M w k v wr)
  case atStart =>
    refine ⟨0,List.replicate M 0,rfl,Nat.zero_le _,rfl,HB1.out,List.length_replicate ..,Okl.replicate _,?_,HBL1.out⟩
    rw [val_replicate,List.drop_of_length_le (by rw [HN.out];omega)];rfl
  case round =>
    obtain ⟨i,xs,rfl,hi,hk,hbk,hxl,hok,hval,hbw⟩:=hrel
    by_cases hin:i<n
    · have c0:wr.cell? ⟨w.heap.size,i / 4,none⟩=some (.int .u32 ((xs.getD (i / 4) 0:Nat):Int)):=by
        rw [hbk.cell _ (by omega)]
      have f0:wr.frozen? ⟨w.heap.size,i / 4,none⟩=false:=hbk.free _
      have HBK:=Lib.hid hbk;have HXL:=Lib.hid hxl;have HOK:=Lib.hid hok;have HVAL:=Lib.hid hval;have HBW:=Lib.hid hbw
      obtain ⟨y,hy⟩:∃ y,l.getD (n - 1 - i) 0=y:=⟨_,rfl⟩
      have hy256:y<256:=by
        rw [← hy]
        have:n - 1 - i<l.length:=by rw [HN.out];omega
        rw [List.getD_eq_getElem?_getD,List.getElem?_eq_getElem this]
        exact HB.out _ (List.getElem_mem _)
      have hget:s.get! (n - 1 - i)=UInt8.ofNat y:=by
        rw [get!_list,HSB.out,← hy]
        have:n - 1 - i<l.length:=by rw [HN.out];omega
        simp [List.getD,this]
      have HY:=Lib.hid hy
      have hlow:xs.getD (i / 4) 0<2 ^ (8*(i % 4)):=limb_low (by rw [hval];have:=natB_bd (l.drop (n - i)) (okb_drop HB.out _);rw [List.length_drop,HN.out,show n - (n - i)=i by omega] at this;exact this) (by omega)
      have q1:IntKind.i64.wrap ((i:Int).tdiv 4)=((i / 4:Nat):Int):=by
        rw [Int.tdiv_eq_ediv_of_nonneg (by omega)];rw [show (i:Int) / 4=((i / 4:Nat):Int) by omega];exact IntWalk.i64_in _ (by omega)
      have q2:IntKind.i64.wrap ((n:Int) - 1)=(n:Int) - 1:=IntWalk.i64_in _ (by omega)
      have q3:IntKind.i64.wrap ((n:Int) - 1 - (i:Int))=((n - 1 - i:Nat):Int):=by rw [show (n:Int) - 1 - (i:Int)=((n - 1 - i:Nat):Int) by omega];exact IntWalk.i64_in _ (by omega)
      have q4:IntKind.i64.wrap ((i:Int).tmod 4)=((i % 4:Nat):Int):=by
        rw [Int.tmod_eq_emod_of_nonneg (by omega)];rw [show (i:Int) % 4=((i % 4:Nat):Int) by omega];exact IntWalk.i64_in _ (by omega)
      have q5:IntKind.i64.wrap (8*((i % 4:Nat):Int))=((8*(i % 4):Nat):Int):=by rw [show 8*((i % 4:Nat):Int)=((8*(i % 4):Nat):Int) by omega];exact IntWalk.i64_in _ (by omega)
      have hq:i / 4<M:=by omega
      have hr4:8*(i % 4)≤24:=by omega
      clear hbk hxl hok hval hbw hy
      have hor:Hid (∀ h:n - 1 - i<s.size,bits BinOp.or IntKind.u32 ((xs.getD (i / 4) 0:Nat):Int) (((s[n - 1 - i]'h).toNat:Int) % 4294967296*2 ^ (8*(i % 4)) % 4294967296)=((xs.getD (i / 4) 0+y*2 ^ (8*(i % 4)):Nat):Int))∧xs.getD (i / 4) 0+y*2 ^ (8*(i % 4))<B32:=by
        have hp:2 ^ (8*(i % 4))≤16777216:=Nat.le_trans (Nat.pow_le_pow_right (by decide) hr4) (by decide)
        have hyp:y*2 ^ (8*(i % 4))<4294967296:=by
          have h1:y*2 ^ (8*(i % 4))≤255*16777216:=Nat.mul_le_mul (by omega) hp
          omega
        obtain ⟨h1,h2⟩:=shl_or (z:=xs.getD (i / 4) 0) (S:=y*2 ^ (8*(i % 4))) hlow (by omega) (Nat.mul_mod_left _ _)
        rw [B32_eq,Nat.mod_eq_of_lt hyp] at h1 h2
        refine ⟨Lib.hid fun h=>?_,by rw [B32_eq];exact h2⟩
        have e1:(s[n - 1 - i]'h).toNat=y:=by
          have hh:s.data.toList.getD (n - 1 - i) 0=UInt8.ofNat y:=by rw [← get!_list,hget]
          have h3:n - 1 - i<s.data.toList.length:=by simpa using h
          have:s[n - 1 - i]'h=s.data.toList.getD (n - 1 - i) 0:=by rw [List.getD_eq_getElem?_getD,List.getElem?_eq_getElem h3];simp [ByteArray.getElem_eq_getElem_data]
          rw [this,hh];simp;omega
        rw [e1,show ((y:Int) % 4294967296)=(y:Int) by omega]
        rw [← h1]
        congr 2
      obtain ⟨HOR,hlt32⟩:=hor
      have HLT:=Lib.hid hlt32
      clear hlt32
      generalize hz:xs.getD (i / 4) 0=z at *
      have HZ:=Lib.hid hz
      generalize hnk:n - 1 - i=nk at *
      generalize hiq:i / 4=iq at *
      have hnk2:nk<n:=by omega
      go_wp2_with fail
      go_region
      go_wp2_with fail
      go_roundg (n+1 - (i+1))
      case measure=>omega
      case rel =>
        have hset:=set_blk HBK.out iq (z+y*2 ^ (8*(i % 4))) (by rw [HXL.out];exact hq)
        refine ⟨i+1,xs.set iq (z+y*2 ^ (8*(i % 4))),by go_num,by omega,by omega,?_,by rw [List.length_set];exact HXL.out,HOK.out.set _ _ HLT.out,?_,?_⟩
        · rw [HOR.out _,hset]
          exact put_blk _ _ HBK.out.lt
        · rw [← HZ.out,val_set_add _ _ _ (by rw [HXL.out];exact hq),HVAL.out]
          have hd:l.drop (n - (i+1))=y::l.drop (n - i):=by
            rw [show n - (i+1)=nk by omega,show n - i=nk+1 by omega,← HY.out]
            have:nk<l.length:=by rw [HN.out];exact hnk2
            rw [List.drop_eq_getElem_cons this]
            simp [List.getD,this]
          rw [hd,natB_cons,List.length_drop,HN.out,show n - (n - i)=i by omega,pow_256,hiq,Nat.mul_left_comm]
          omega
        · rw [HOR.out _,hset]
          exact below_drew (put_below HBW.out (Nat.le_refl _) _ _)
    · obtain rfl:i=n:=by omega
      rw [Nat.sub_self,List.drop_zero] at hval
      have HFIN:Hid (ListOk wr (.slice (some ⟨w.heap.size,0,none⟩) M M) 600 (natB l) xs):=Lib.hid ⟨some ⟨w.heap.size,0,none⟩,M,by rw [hxl],by omega,by omega,hok,hbk.rd_all,hval⟩
      have HBW:=Lib.hid hbw
      clear hbk hxl hok hval hbw
      go_wp2_with fail
      go_ret
      exact ⟨_,xs,rfl,HFIN.out,HBW.out⟩
def IntVal (w:World) (i:IntC) (v:Value):Prop:=∃ u xs,v=.agg #[.bool i.1,u]∧ListOk w u 600 i.2 xs
theorem ListOk.below {w w':World} {v:Value} {L N:Nat} {xs:List Nat} (h:ListOk w v L N xs) (hb:Below w.heap.size w w'):ListOk w' v L N xs:=by
  obtain ⟨ad,cap,h1,h2,h3,h4,h5,h6⟩:=h
  exact ⟨ad,cap,h1,h2,h3,h4,h5.below hb,h6⟩
theorem IntVal.below {w w':World} {i:IntC} {v:Value} (h:IntVal w i v) (hb:Below w.heap.size w w'):IntVal w' i v:=by
  obtain ⟨u,xs,h1,h2⟩:=h
  exact ⟨u,xs,h1,h2.below hb⟩
def IntP (i:IntC) (w:World) (e:Ending) (w':World):Prop:=∃ v,e=.returned v∧IntVal w' i v∧Below w.heap.size w w'
theorem ListOk.box {w:World} {v:Value} {L N:Nat} {xs:List Nat} (h:ListOk w v L N xs) {g j:Nat} {x:Value} (hc:w.cell? ⟨g,j,none⟩=some x) (hx:∀ n:Int,x ≠ .int .u32 n) (u:Value):ListOk (w.setCell ⟨g,j,none⟩ u) v L N xs:=by
  obtain ⟨ad,cap,h1,h2,h3,h4,h5,h6⟩:=h
  exact ⟨ad,cap,h1,h2,h3,h4,h5.setBox hc hx u,h6⟩
theorem lits2_ok (w:World) (k:Nat) (hk:k<18446744073709551616):ListOk (w.alloc (.cells #[.int .u32 ((k:Int) % 4294967296),.int .u32 ((k:Int) / 4294967296)] 51)) (.slice (some ⟨w.heap.size,0,none⟩) 2 2) 600 k [k % 4294967296,k / 4294967296]:=by
  obtain ⟨hok,hvl⟩:=words_ok hk
  have e:(#[.int .u32 ((k:Int) % 4294967296),.int .u32 ((k:Int) / 4294967296)]:Array Value)=([k % 4294967296,k / 4294967296].map lv).toArray:=by simp [lv]
  rw [e]
  exact ⟨_,2,rfl,by simp,by simp,hok,(alloc_blk w _).rd_all,hvl⟩
theorem wholeOf_cb (m i k:Nat) (w:World) (hk:k<18446744073709551616):Calls Tryz.prog 114 #[hdV (m,i,k)] w (IntP (cbWhole (m,i,k)) w):=by
  unfold hdV
  have hw:∀ o1 o2 o3:Obj,Below w.heap.size w (((w.alloc o1).alloc o2).alloc o3):=fun o1 o2 o3=>((((Below.refl _ _).alloc (Nat.le_refl _) _).alloc (by simp) _).alloc (by simp;omega) _)
  have HL:=Lib.hid (fun W=>lits2_ok W k hk)
  have HW:=Lib.hid hw
  clear hw
  by_cases hm:m=1
  · have e1:((m:Int) == 1)=true:=by rw [beq_iff_eq];omega
    have HC:Hid (cbWhole (m,i,k)=(true,k)):=Lib.hid (by unfold cbWhole;simp [hm])
    clear hm
    go_enter Tryz.func114,Tryz.ntmps114
    go_wp2_with fail
    refine bodyPost_ret (v:=.agg #[.bool true,.slice (some ⟨w.heap.size+1+1,0,none⟩) 2 2]) (by simp [results,Tryz.results114,go_sem]) rfl ?_
    have h:=HL.out ((w.alloc (.cells #[.int .i64 (m:Int),.int .i64 (i:Int),.int .u64 (k:Int)] 111)).alloc (.cells #[.bool true,.slice (some ⟨w.heap.size+1+1,0,none⟩) 2 2] 76))
    rw [show ((w.alloc (.cells #[.int .i64 (m:Int),.int .i64 (i:Int),.int .u64 (k:Int)] 111)).alloc (.cells #[.bool true,.slice (some ⟨w.heap.size+1+1,0,none⟩) 2 2] 76)).heap.size=w.heap.size+1+1 by simp] at h
    rw [HC.out]
    exact ⟨_,rfl,⟨_,_,rfl,h⟩,HW.out _ _ _⟩
  · have e1:((m:Int) == 1)=false:=by rw [beq_eq_false_iff_ne];omega
    have HC:Hid (cbWhole (m,i,k)=(false,k)):=Lib.hid (by unfold cbWhole;simp [hm])
    clear hm
    go_enter Tryz.func114,Tryz.ntmps114
    go_wp2_with fail
    refine bodyPost_ret (v:=.agg #[.bool false,.slice (some ⟨w.heap.size+1+1,0,none⟩) 2 2]) (by simp [results,Tryz.results114,go_sem]) rfl ?_
    have h:=HL.out ((w.alloc (.cells #[.int .i64 (m:Int),.int .i64 (i:Int),.int .u64 (k:Int)] 111)).alloc (.cells #[.bool false,.slice (some ⟨w.heap.size+1+1,0,none⟩) 2 2] 76))
    rw [show ((w.alloc (.cells #[.int .i64 (m:Int),.int .i64 (i:Int),.int .u64 (k:Int)] 111)).alloc (.cells #[.bool false,.slice (some ⟨w.heap.size+1+1,0,none⟩) 2 2] 76)).heap.size=w.heap.size+1+1 by simp] at h
    rw [HC.out]
    exact ⟨_,rfl,⟨_,_,rfl,h⟩,HW.out _ _ _⟩
theorem tens_one (m i k:Nat) (h:m=1):cbTens (m,i,k) = -1 - ((min k 100001:Nat):Int):=by unfold cbTens;simp [h]
theorem tens_not (m i k:Nat) (h:m ≠ 1):cbTens (m,i,k)=((min k 100001:Nat):Int):=by unfold cbTens;simp [h]
theorem tensOf_cb (m i k:Nat) (w:World) (hk:k<18446744073709551616):Calls Tryz.prog 193 #[hdV (m,i,k)] w fun e w'=>e=.returned (.int .i64 (cbTens (m,i,k)))∧Below w.heap.size w w':=by
  unfold hdV
  have HW:=Lib.hid (fun o:Obj=>((Below.refl w.heap.size w).alloc (Nat.le_refl _) o))
  obtain ⟨q,hq⟩:∃ q,min k 100001=q:=⟨_,rfl⟩
  have hmn:min (k:Int) 100001=(q:Int):=by omega
  have hqb:q≤100001:=by omega
  have HQ:=Lib.hid hq
  have e2:IntKind.i64.wrap (q:Int)=(q:Int):=IntWalk.i64_in _ (by omega)
  have e3:IntKind.i64.wrap (-1 - (q:Int)) = -1 - (q:Int):=IntWalk.i64_in _ (by omega)
  have HM1:=Lib.hid (tens_one m i k)
  have HM2:=Lib.hid (tens_not m i k)
  rw [HQ.out] at HM1 HM2
  clear hq
  by_cases hm:m=1
  · have e1:((m:Int) == 1)=true:=by rw [beq_iff_eq];omega
    have HC:=Lib.hid (HM1.out hm)
    clear hm
    have hd:=Int.min_def (k:Int) 100001
    by_cases hle:k≤100001
    · have b1:(k:Int)≤100001:=by omega
      obtain rfl:q=k:=by omega
      go_enter Tryz.func193,Tryz.ntmps193
      go_wp2_with fail
      go_ret
      exact ⟨by rw [HC.out];rfl,HW.out _⟩
    · obtain rfl:q=100001:=by omega
      go_enter Tryz.func193,Tryz.ntmps193
      go_wp2_with fail
      go_ret
      exact ⟨by rw [HC.out];rfl,HW.out _⟩
  · have e1:((m:Int) == 1)=false:=by rw [beq_eq_false_iff_ne];omega
    have HC:=Lib.hid (HM2.out hm)
    clear hm
    have hd:=Int.min_def (k:Int) 100001
    by_cases hle:k≤100001
    · have b1:(k:Int)≤100001:=by omega
      obtain rfl:q=k:=by omega
      go_enter Tryz.func193,Tryz.ntmps193
      go_wp2_with fail
      go_ret
      exact ⟨by rw [HC.out];rfl,HW.out _⟩
    · obtain rfl:q=100001:=by omega
      go_enter Tryz.func193,Tryz.ntmps193
      go_wp2_with fail
      go_ret
      exact ⟨by rw [HC.out];rfl,HW.out _⟩
def MkR (r:Option (Bool × Nat × Int)) (B:Nat) (w':World) (neg:Bool) (ad:Option Addr) (n cap:Nat) (x:Int) (ok:Bool):Prop:=match r with
  | some p=>ok=true∧neg=p.1∧n=(limbs p.2.1).length∧x=p.2.2∧n≤cap∧Ind (fun k=>k<B) w' (fun W=>Rd W ad (limbs p.2.1))
  | none=>ok=false
def MkP (r:Option (Bool × Nat × Int)) (w:World) (e:Ending) (w':World):Prop :=
  ∃ (neg:Bool) (ad:Option Addr) (n cap:Nat) (x:Int) (ok:Bool),e=.returned (.tuple #[.agg #[.bool neg,.slice ad n cap,.int .i64 x],.bool ok])∧Below w.heap.size w w'∧MkR r w.heap.size w' neg ad n cap x ok
theorem mkP_none {w w':World} {r:Ending} {L:Nat} {neg:Bool} {m:Nat} {e:Int} {l:List Ent} (h:MadePost w l L neg m e false r w'):MkP none w r w':=by
  obtain ⟨v,rfl,hc⟩:=h
  obtain ⟨ad,cap,rfl,_⟩:=hc.get 0 rfl
  exact ⟨_,ad,_,cap,_,_,rfl,hc.below,rfl⟩
theorem mkP_zero {w w':World} {r:Ending} {L:Nat} {l:List Ent} {neg:Bool} {e:Int} (h:MadePost w l L neg 0 e true r w'):MkP (some (neg,0,e)) w r w':=by
  obtain ⟨v,rfl,hc⟩:=h
  obtain ⟨ad,cap,rfl,h2,_⟩:=hc.get 0 rfl
  exact ⟨_,ad,_,cap,_,_,rfl,hc.below,rfl,rfl,rfl,rfl,h2,fun W _ _=>by rw [limbs_zero];exact Rd.nil _ _⟩
theorem mkP_some {w w':World} {r:Ending} {L:Nat} {l:List Ent} {neg:Bool} {m:Nat} {e:Int} (h:MadeN w w l L neg m e true r w'):MkP (some (neg,m,e)) w r w':=by
  obtain ⟨v,rfl,hloc,hc⟩:=h
  obtain ⟨ad,cap,rfl,h2,h3,h4,h5,h6⟩:=hc.get 0 rfl
  exact ⟨_,ad,_,cap,_,_,rfl,hc.below,rfl,rfl,rfl,rfl,h2,ind_rd h5 (fun a e h=>by subst e;have:=hloc a _ _ rfl;omega)⟩
theorem make_cb {w:World} {u:Value} {L N:Nat} {xs:List Nat} (h:ListOk w u L N xs) (hL:L≤100000) (neg:Bool) (e:Int) (he:-200000≤e∧e≤200000) :
    Calls Tryz.prog 155 #[.bool neg,u,.int .i64 e] w (MkP (mkN neg N e) w):=by
  have hc:Ctx w w [⟨u,L,N,xs⟩]:=(Ctx.begin w).push h
  unfold mkN
  by_cases h0:N=0
  · rw [if_pos h0]
    subst h0
    exact (make_zero hc 0 rfl (by omega) neg e).mono fun _ _ h=>mkP_zero h
  · rw [if_neg h0]
    obtain ⟨h1,h2⟩:=trim_spec h0
    by_cases hb:(limbs (trimM N)).length≤90∧-1200≤e+(trimK N:Int)∧e+(trimK N:Int)≤1200
    · rw [if_pos hb]
      exact (make_yes_n hc 0 rfl (by omega) neg e _ _ h1 h2 hb.1 hb.2.1 hb.2.2).mono fun _ _ h=>mkP_some h
    · rw [if_neg hb]
      exact (make_no hc 0 rfl (by omega) neg e _ _ h1 h2 hb (by omega)).mono fun _ _ h=>mkP_none h
theorem exact_cb (width:Int) (x:Nat) (hx:x<18446744073709551616) (w:World) :
    Calls Tryz.prog 152 #[.int .i64 width,.int .u64 (x:Int)] w (MkP (exactN width x) w):=by
  unfold exactN
  by_cases h1:kindW width x=1
  · rw [if_pos (.inl h1)]
    unfold kindW at h1
    unfold exNegW exMW exEW
    cases hlo:layOf width with
    | none=>rw [hlo] at h1;simp at h1
    | some p =>
      obtain ⟨e,f⟩:=p
      rw [hlo] at h1
      have hk:kindF e f x=1:=by simp only at h1;omega
      simp only [hk,decide_true,Bool.true_and,if_true]
      exact (exact_n (Ctx.begin w) width x hx (layOf_lay hlo) hlo hk).mono fun _ _ h=>mkP_some h
  · have K:=exact_no (Ctx.begin w) width x (kindW width x) (decide (kindW width x=2)) (by
      by_cases h2:kindW width x=2
      · rw [h2];rfl
      · rw [decide_eq_false h2,beq_eq_false_iff_ne];exact h2) (by rw [beq_eq_false_iff_ne];exact h1) (fun W=>kind_any width x hx W)
    by_cases h2:kindW width x=2
    · rw [if_pos (.inr h2)]
      rw [decide_eq_true h2] at K
      have hz:exNegW width x=false∧exMW width x=0∧exEW width x=0:=by
        unfold exNegW exMW exEW
        unfold kindW at h1
        cases hlo:layOf width with
        | none=>exact ⟨rfl,rfl,rfl⟩
        | some p =>
          obtain ⟨e,f⟩:=p
          rw [hlo] at h1
          have hk:¬ kindF e f x=1:=fun h=>h1 (by simp [h])
          simp [hk]
      rw [hz.1,hz.2.1,hz.2.2]
      exact K.mono fun _ _ h=>mkP_zero h
    · rw [if_neg (fun h=>h.elim h1 h2)]
      rw [decide_eq_false h2] at K
      exact K.mono fun _ _ h=>mkP_none h
def SizeP (i:IntC) (w:World) (e:Ending) (w':World):Prop:=∃ ad n cap xs,e=.returned (.slice ad n cap)∧ListOk w' (.slice ad n cap) 700 (cbSize i) xs∧Below w.heap.size w w'
theorem ListOk.wide {w:World} {v:Value} {L L' N:Nat} {xs:List Nat} (h:ListOk w v L N xs) (hL:L≤L'):ListOk w v L' N xs:=by
  obtain ⟨ad,cap,h1,h2,h3,h4⟩:=h
  exact ⟨ad,cap,h1,h2,Nat.le_trans h3 hL,h4⟩
theorem size_cb {w:World} {b:Bool} {N:Nat} {ad:Option Addr} {n cap:Nat} {xs:List Nat} (h:ListOk w (.slice ad n cap) 600 N xs) :
    Calls Tryz.prog 156 #[.agg #[.bool b,.slice ad n cap]] w (SizeP (b,N) w):=by
  have hb1:Below w.heap.size w (w.alloc (.cells #[.bool b,.slice ad n cap] 76)):=(Below.refl _ _).alloc (Nat.le_refl _) _
  have HB1:=Lib.hid hb1
  have H1:=Lib.hid (h.below hb1)
  cases b with
  | false =>
    clear h hb1
    go_enter Tryz.func156,Tryz.ntmps156
    go_wp2_with fail
    go_ret
    exact ⟨ad,n,cap,xs,rfl,H1.out.wide (by decide),HB1.out⟩
  | true =>
    have hc:=((Ctx.begin w).push (x:=⟨.slice ad n cap,600,N,xs⟩) h).step hb1
    have hl:=hc.lit (x:=1) (by rw [B32_eq];decide)
    have hs:(w.alloc (.cells #[.bool true,.slice ad n cap] 76)).heap.size=w.heap.size+1:=by simp
    rw [hs] at hl
    have KA:=Lib.hid (add_c hl 1 0 rfl rfl (by decide) (by decide))
    clear h hb1 hc hl hs
    go_enter Tryz.func156,Tryz.ntmps156
    go_wp2_with fail
    refine KA.out.mono ?_
    rintro r w1 ⟨v,rfl,hc⟩
    obtain ⟨ad1,cap1,rfl,h2,h3,h4,h5,h6⟩:=hc.get 0 rfl
    have HR:=Lib.hid (show SizeP (true,N) w (.returned (.slice ad1 (limbs (N+1)).length cap1)) w1 from ⟨ad1,_,cap1,limbs (N+1),rfl,⟨ad1,cap1,rfl,h2,Nat.le_trans h3 (by decide),h4,h5,h6⟩,hc.below⟩)
    clear hc h2 h3 h4 h5 h6 KA
    generalize (limbs (N+1)).length=k at *
    go_wp2_with fail
    go_ret
    exact HR.out
end Go.Proofs.YtnacbakcalcgaaaGreatDoor
