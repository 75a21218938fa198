/- Texts of the claim. -/
import Derived.Test.YtnacbakcalcgaaaGreatDoorIn
set_option linter.unusedVariables false
set_option linter.unusedSimpArgs false
set_option maxHeartbeats 8000000
set_option maxRecDepth 100000
namespace Go.Proofs.YtnacbakcalcgaaaGreatDoor
open Go.RowKit Go.Lib Go.Sort
theorem own_keep {w w':World} {B:Nat} {e:TypeId} {size:Nat} {v:Value} {n:Nat} {xs:List Value} (h:w.ownsRow B e size v n xs) (hb:∀ k,v.ownBlock=some k→w'.heap[k]? = w.heap[k]?):w'.ownsRow B e size v n xs:=by
  refine ⟨h.1,?_⟩
  rcases h.2 with h2 | ⟨g,cap,cur,rfl,hB,hg,rest⟩
  · exact .inl h2
  · exact .inr ⟨g,cap,cur,rfl,hB,(hb g rfl).trans hg,rest⟩
theorem own_bd {w:World} {B:Nat} {e:TypeId} {size:Nat} {v:Value} {n:Nat} {xs:List Value} (h:w.ownsRow B e size v n xs) {k:Nat} (hk:v.ownBlock=some k):B≤k∧k<w.heap.size:=by
  rcases h.2 with ⟨rfl,_⟩ | ⟨g,cap,cur,rfl,hB,hg,_⟩
  · cases hk
  · cases hk
    exact ⟨hB,(Array.getElem?_eq_some_iff.1 hg).1⟩
theorem own_but {w w':World} {B g:Nat} {e:TypeId} {size:Nat} {v:Value} {n:Nat} {xs:List Value} (h:w.ownsRow B e size v n xs) (hb:But g w w') (hg:g<B):w'.ownsRow B e size v n xs :=
  own_keep h (fun k hk=>by have:=own_bd h hk;exact hb.block k this.2 (by omega))
theorem StC.grown {w0:World} {g:Nat} {l:List Nat} {d n:Nat} {w wr w':World} (h:StC w0 g l d n w wr) {B:Nat} {e:TypeId} {size:Nat} {v:Value} {m:Nat} {xs:List Value} (ho:wr.ownsRow B e size v m xs) (hB:w.heap.size≤B) (hg:wr.grownBy w' v.ownBlock) (hgl:g<w.heap.size) (hw0:w0.heap.size≤w.heap.size):StC w0 g l d n w w':=by
  have hblk:∀ k,k<wr.heap.size→k<w.heap.size→w'.heap[k]? = wr.heap[k]?:=fun k hk hk2=>hg.block k hk (fun e=>by have:=own_bd ho e.symm;omega)
  have hsz:=h.oth.size
  refine ⟨⟨hg.os.trans h.oth.os,hg.tape.trans h.oth.tape,hg.output.trans h.oth.output,Nat.le_trans h.oth.size hg.size,fun k hk hk2=>(hblk k (by omega) hk).trans (h.oth.block k hk hk2)⟩,?_⟩
  obtain ⟨ad,cap,h1,h2,h3,h4⟩:=h.rd.cell
  refine ⟨h.rd.low,⟨hg.os.trans h.rd.env.os,hg.tape.trans h.rd.env.tape,hg.output.trans h.rd.env.output,Nat.le_trans h.rd.env.size hg.size,fun k hk=>(hblk k (by omega) (by omega)).trans (h.rd.env.block k hk)⟩,h.rd.ok,h.rd.len,ad,cap,(hblk g (by omega) hgl).trans h1,h2,h3,h4⟩


end Go.Proofs.YtnacbakcalcgaaaGreatDoor
namespace Go.Proofs.YtnacbakcalcgaaaGreatDoor
open Go.RowKit Go.Sort
attribute [local go_sem ↓] Go.wp_at_zero Go.wp_at_succ
def LocV (B:Nat) (v:Value):Prop:=∀ a n c,v=.slice (some a) n c→B≤a.block
theorem LocV.mono {B B':Nat} {v:Value} (h:LocV B v) (hb:B'≤B):LocV B' v:=fun a n c e=>Nat.le_trans hb (h a n c e)
theorem locV_own {B:Nat} {w:World} {v:Value} {xs:List Nat} (h:Own B w v xs):LocV B v:=by
  obtain ⟨ad,cap,rfl,_,_,h3⟩:=h.view
  intro a n c e
  injection e with e1
  exact (h3 a e1).1
theorem trim_n {w0 w:World} {l:List Ent} {v1:Value} {L1 N1:Nat} {xs:List Nat} (h:Ctx w0 w l) (i:Nat) (hi:l[i]? = some ⟨v1,L1,N1,xs⟩) (h1:L1≤10000000) :
    Calls Tryz.prog 195 #[v1] w fun e w'=>∃ v m k,e=.returned (.tuple #[v,.int .i64 ((k:Nat):Int)])∧N1=m*tenN k∧(N1=0→k=0)∧(N1 ≠ 0→m % 10 ≠ 0)∧k≤400000000∧LocV w.heap.size v∧Ctx w0 w' (⟨v,L1,m,limbs m⟩::l):=by
  obtain ⟨ad,cap,rfl,a2,a3,a4,a5,rfl⟩:=h.get i hi
  refine (trim_any ad _ cap xs w rfl a2 (by omega) a4 a5).mono ?_
  rintro e w' ⟨v,m,k,rfl,ho,hb,q1,q2,q3,q4⟩
  refine ⟨v,m,k,rfl,q1,q2,q3,q4,locV_own ho,(h.step hb).push (ent_own ho (len_leq a4 ?_ a3))⟩
  rw [q1]
  exact Nat.le_mul_of_pos_right _ (Nat.pow_pos (by decide))
def MadeN (w w0:World) (l:List Ent) (L:Nat) (neg:Bool) (m:Nat) (e:Int) (ok:Bool) (r:Ending) (w':World):Prop :=
  ∃ v,r=.returned (.tuple #[.agg #[.bool neg,v,.int .i64 e],.bool ok])∧LocV w.heap.size v∧Ctx w0 w' (⟨v,L,m,limbs m⟩::l)
theorem make_yes_n {w0 w:World} {l:List Ent} {v:Value} {L N:Nat} {xs:List Nat} (h:Ctx w0 w l) (i:Nat) (hi:l[i]? = some ⟨v,L,N,xs⟩) (hL:L≤1000000) (neg:Bool) (e:Int)
    (m k:Nat) (hN:N=m*tenN k) (hm:m % 10 ≠ 0) (hlen:(limbs m).length≤90) (hlo:-1200≤e+(k:Int)) (hhi:e+(k:Int)≤1200) :
    Calls Tryz.prog 155 #[.bool neg,v,.int .i64 e] w (MadeN w w0 l L neg m (e+(k:Int)) true):=by
  have hb1:Below w.heap.size w (w.alloc (.cells #[.bool false,.slice none 0 0,.int .i64 0] 25)):=(Below.refl _ _).alloc (Nat.le_refl _) _
  have h1:=h.step hb1
  have hW:=Lib.hid h.below.size
  have K:=Lib.hid (trim_n h1.again i hi (by omega))
  have H1:=Lib.hid h1.below
  have HB1:=Lib.hid hb1
  have HC:=Lib.hid (chkB_mk (neg:=neg) hm hlen hlo hhi)
  have hne:m ≠ 0:=by intro h0;rw [h0] at hm;exact hm rfl
  have hlb:(((limbs m).length:Int) == 0)=false:=by
    rw [beq_eq_false_iff_ne]
    intro h0
    exact hne ((limbs_nil_iff m).1 (List.eq_nil_of_length_eq_zero (by omega)))
  have hN0:N ≠ 0:=by rw [hN];exact Nat.mul_ne_zero hne (tenN_ne _)
  have HM:=Lib.hid hm
  have HE:=Lib.hid hN
  have HLEN:=Lib.hid hlen
  have he1:¬ (1200<e):=by omega
  clear h h1 hi hb1 hne hm hN hlen
  go_enter Tryz.func155,Tryz.ntmps155
  go_wp2_with fail
  refine K.out.mono ?_
  rintro r w1 ⟨t,m',k',rfl,q1,q2,q3,hk4,hloc,h2⟩
  obtain ⟨rfl,rfl⟩:m=m'∧k=k':=ten_unique (by rw [← q1,← HE.out]) HM.out (q3 hN0)
  have HLOC:=Lib.hid (hloc.mono (B':=w.heap.size) (by simp));clear hloc
  have hv:=h2.get 0 rfl
  obtain ⟨ad,cap,rfl,a2,a3,a4,a5,a6⟩:=hv
  obtain ⟨hc,hf⟩:=bcell h2.below
  have hz:w.heap.size<w1.heap.size:=by have:=h2.below.size;simp at this;omega
  have H2:=Lib.hid h2;clear h2 q1 q2 q3
  have KC:=Lib.hid (check_any neg ad (limbs m).length cap (limbs m) (e+(k:Int)) (w1.alloc (.cells #[.bool neg,.slice ad (limbs m).length cap,.int .i64 (e+(k:Int))] 25)) rfl a2 (by have:=HLEN.out;omega) a4 (a5.below ((Below.refl _ _).alloc (Nat.le_refl _) _)))
  have A5:=Lib.hid a5
  have A6:=Lib.hid a6
  clear a3 a4 a5 a6
  generalize hn:(limbs m).length=n at *
  have HN:=Lib.hid hn;clear hn
  have hsum:IntKind.i64.wrap (e+(k:Int))=e+(k:Int):=IntWalk.i64_in _ (by omega)
  go_wp2_with fail
  refine KC.out.mono ?_
  rintro r w2 ⟨rfl,hb2⟩
  rw [HC.out]
  obtain ⟨hc2,hf2⟩:=bcell hb2
  have hz2:w1.heap.size<w2.heap.size:=by have:=hb2.size;simp at this;omega
  have hzz:w.heap.size<w1.heap.size+1:=by omega
  have HB2:=Lib.hid hb2;clear hb2
  go_wp2
  have H3:=Ctx.back H1.out H2.out
  have H4:=(H3.step ((Below.refl _ _).alloc (Nat.le_refl _) (.cells #[.bool neg,.slice ad n cap,.int .i64 (e+(k:Int))] 25))).step HB2.out
  refine bodyPost_ret (v:=.tuple #[.agg #[.bool neg,.slice ad n cap,.int .i64 (e+(k:Int))],.bool true]) (by simp [results,Tryz.results155,go_sem,hc,hc2,hz,hzz]) rfl ⟨_,rfl,HLOC.out,?_⟩
  exact H4.box3 hW.out (b:=false) (a:=none) (n:=0) (c:=0) (x:=0) (by simp [hc,hc2,hzz,hz,World.cell?_alloc_lt]) (by simp [hc,hc2,hzz,hz,World.cell?_alloc_lt]) (by simp [hc,hc2,hzz,hz,World.cell?_alloc_lt]) _ _ _
theorem make_yes2_n {w0 w:World} {l:List Ent} {v:Value} {L N:Nat} {xs:List Nat} (h:Ctx w0 w l) (i:Nat) (hi:l[i]? = some ⟨v,L,N,xs⟩) (hL:L≤1000000) (neg:Bool) (e:Int)
    (m k:Nat) (hN:N=m*tenN k) (hm:m % 10 ≠ 0) (hlen:(limbs m).length≤90) (x:Int) (hx:e+(k:Int)=x) (hlo:-1200≤x) (hhi:x≤1200) :
    Calls Tryz.prog 155 #[.bool neg,v,.int .i64 e] w (MadeN w w0 l L neg m x true):=by
  subst hx;exact make_yes_n h i hi hL neg e m k hN hm hlen hlo hhi
theorem decimal_n {w0 w:World} {l:List Ent} (h:Ctx w0 w l) (ng:Bool) (s:Nat) (t:Int) (h64:s<18446744073709551616) (ht:-1074≤t∧t≤1000) (m k:Nat) (hN:decN s t=m*tenN k) (hm:m % 10 ≠ 0) (hlen:(limbs m).length≤90)
    (E:Int) (hE:E=(k:Int) - ((-t).toNat:Int)) (hlo:-1200≤E) (hhi:E≤1200) :
    Calls Tryz.prog 188 #[binV ng s t] w (MadeN w w0 l 2000 ng m E true):=by
  obtain ⟨hok,hvl⟩:=words_ok h64
  generalize hA:(#[.bool ng,.int .u64 (s:Int),.int .i64 t]:Array Value)=A
  have hb1:=below_box' w A 155
  have hb2:Below w.heap.size w ((w.alloc (.cells A 155)).alloc (.cells #[.bool false,.slice none 0 0,.int .i64 0] 25)):=hb1.alloc hb1.size _
  have h2:=h.step hb2
  have h3:=h2.again.lits hok hvl
  rw [show ((w.alloc (.cells A 155)).alloc (.cells #[.bool false,.slice none 0 0,.int .i64 0] 25)).heap.size=w.heap.size+1+1 by simp] at h3
  rw [show ([s % 4294967296,s / 4294967296].map lv).toArray=#[.int .u32 ((s:Int) % 4294967296),.int .u32 ((s:Int) / 4294967296)] by simp [lv]] at h3
  have z0:(((w.alloc (.cells A 155)).alloc (.cells #[.bool false,.slice none 0 0,.int .i64 0] 25)).alloc (.cells #[.int .u32 ((s:Int) % 4294967296),.int .u32 ((s:Int) / 4294967296)] 51)).cell? ⟨w.heap.size,0,none⟩=some (.bool ng):=by rw [cell_old _ _ _ _ (by simp <;> omega),cell_old _ _ _ _ (by simp),cell_new,← hA];rfl
  have z2:(((w.alloc (.cells A 155)).alloc (.cells #[.bool false,.slice none 0 0,.int .i64 0] 25)).alloc (.cells #[.int .u32 ((s:Int) % 4294967296),.int .u32 ((s:Int) / 4294967296)] 51)).cell? ⟨w.heap.size,2,none⟩=some (.int .i64 t):=by rw [cell_old _ _ _ _ (by simp <;> omega),cell_old _ _ _ _ (by simp),cell_new,← hA];rfl
  have y0:(((w.alloc (.cells A 155)).alloc (.cells #[.bool false,.slice none 0 0,.int .i64 0] 25)).alloc (.cells #[.int .u32 ((s:Int) % 4294967296),.int .u32 ((s:Int) / 4294967296)] 51)).cell? ⟨w.heap.size+1,0,none⟩=some (.bool false):=by rw [cell_old _ _ _ _ (by simp <;> omega),cell_at _ _ _ _ _ (by simp)];rfl
  have y1:(((w.alloc (.cells A 155)).alloc (.cells #[.bool false,.slice none 0 0,.int .i64 0] 25)).alloc (.cells #[.int .u32 ((s:Int) % 4294967296),.int .u32 ((s:Int) / 4294967296)] 51)).cell? ⟨w.heap.size+1,1,none⟩=some (.slice none 0 0):=by rw [cell_old _ _ _ _ (by simp <;> omega),cell_at _ _ _ _ _ (by simp)];rfl
  have y2:(((w.alloc (.cells A 155)).alloc (.cells #[.bool false,.slice none 0 0,.int .i64 0] 25)).alloc (.cells #[.int .u32 ((s:Int) % 4294967296),.int .u32 ((s:Int) / 4294967296)] 51)).cell? ⟨w.heap.size+1,2,none⟩=some (.int .i64 0):=by rw [cell_old _ _ _ _ (by simp <;> omega),cell_at _ _ _ _ _ (by simp)];rfl
  have yf:∀ j,(((w.alloc (.cells A 155)).alloc (.cells #[.bool false,.slice none 0 0,.int .i64 0] 25)).alloc (.cells #[.int .u32 ((s:Int) % 4294967296),.int .u32 ((s:Int) / 4294967296)] 51)).frozen? ⟨w.heap.size+1,j,none⟩=false:=fun j=>(World.frozen?_alloc_old _ _ _ (by simp)).trans (by rw [show w.heap.size+1=(w.alloc (.cells A 155)).heap.size by simp];exact World.frozen?_alloc_new ..)
  rw [show [s % 4294967296,s / 4294967296].length=2 from rfl] at h3
  have hbw:=hb2.trans (h3.below.mono (by simp <;> omega))
  have hzz:w.heap.size+1+1+1=(((w.alloc (.cells A 155)).alloc (.cells #[.bool false,.slice none 0 0,.int .i64 0] 25)).alloc (.cells #[.int .u32 ((s:Int) % 4294967296),.int .u32 ((s:Int) / 4294967296)] 51)).heap.size:=by simp
  generalize hW:(((w.alloc (.cells A 155)).alloc (.cells #[.bool false,.slice none 0 0,.int .i64 0] 25)).alloc (.cells #[.int .u32 ((s:Int) % 4294967296),.int .u32 ((s:Int) / 4294967296)] 51))=W at *
  have H:=Lib.hid (h.step hbw)
  have H3:=Lib.hid h3.again
  have HW:=Lib.hid hW
  have HA:=Lib.hid hA
  have hne1:¬ w.heap.size+1=w.heap.size:=by omega
  have hz0:w.heap.size<W.heap.size:=by omega
  have hz1:w.heap.size+1<W.heap.size:=by omega
  have hg:=Lib.hid h.below.size
  clear h h2 h3 hb1 hb2 hbw hW hok hvl hA
  by_cases hneg:t<0
  · obtain ⟨kk,hkk⟩:∃ kk:Nat,(-t).toNat=kk:=⟨_,rfl⟩
    have hN2:s*5 ^ kk=m*tenN k:=by
      unfold decN at hN
      rw [hkk,show t.toNat=0 by omega,Nat.pow_zero,Nat.mul_one] at hN;exact hN
    have hnw:IntKind.i64.wrap (-t) = -t:=IntWalk.i64_in _ (by omega)
    have HE:=Lib.hid (show t+(k:Int)=E by omega)
    have hkb:kk≤1074:=by omega
    have KP:=Lib.hid (fun W' (h:Ctx W W' (⟨.slice (some ⟨w.heap.size+1+1,0,none⟩) 2 2,2,s,[s % 4294967296,s / 4294967296]⟩::l))=>pow_c h (b:=5) (by decide) (-t) kk (by unfold cutP;omega))
    clear hE
    have KM:=Lib.hid (fun W' v1 (h:Ctx W W' (⟨v1,kk+1,5 ^ kk,limbs (5 ^ kk)⟩ :: ⟨.slice (some ⟨w.heap.size+1+1,0,none⟩) 2 2,2,s,[s % 4294967296,s / 4294967296]⟩::l))=>mul_c h 1 0 rfl rfl (by decide) (by omega))
    have KK:=Lib.hid (fun W' v1 v2 (h:Ctx W W' (⟨v2,2+(kk+1),s*5 ^ kk,limbs (s*5 ^ kk)⟩ :: ⟨v1,kk+1,5 ^ kk,limbs (5 ^ kk)⟩ :: ⟨.slice (some ⟨w.heap.size+1+1,0,none⟩) 2 2,2,s,[s % 4294967296,s / 4294967296]⟩::l))=>make_yes2_n h 0 rfl (by omega) ng t m k hN2 hm hlen E HE.out hlo hhi)
    clear hN2 hN
    generalize 5 ^ kk=PP at *
    go_enter Tryz.func188,Tryz.ntmps188
    unfold binV
    go_wp2_with fail
    rw [HA.out,HW.out]
    go_region_held3 (fun w'=>w'.cell? ⟨w.heap.size,0,none⟩=some (.bool ng)∧w'.cell? ⟨w.heap.size,2,none⟩=some (.int .i64 t)) (go_keep)
      (first
      | (go_at_call 82;refine (KP.out _ (by exact H3.out.step (below_drew (Below.refl _ _)))).mono ?_;rintro r w1 ⟨v1,rfl,h1⟩;have hB1:=h1.below;have H1:=Lib.hid h1;clear h1;have q0:=(hB1.cell (p:=⟨w.heap.size,0,none⟩) hz0).trans z0;have q2:=(hB1.cell (p:=⟨w.heap.size,2,none⟩) hz0).trans z2)
      | (go_at_call 81;refine (KM.out _ _ (by exact H1.out)).mono ?_;rintro r w2 ⟨v2,rfl,h2⟩;have hB2:=h2.below;have H2:=Lib.hid h2;clear h2;have q0:=(hB2.cell (p:=⟨w.heap.size,0,none⟩) hz0).trans z0;have q2:=(hB2.cell (p:=⟨w.heap.size,2,none⟩) hz0).trans z2)
      | (go_at_call 155;refine (KK.out _ _ _ (by exact H2.out)).mono ?_;rintro r w3 ⟨v3,rfl,hloc3,h3⟩;have HL3:=Lib.hid (hloc3.mono (Nat.le_trans (Nat.le_of_lt hz0) hB2.size));clear hloc3;have hB3:=h3.below;obtain ⟨ad3,cap3,hv3,_⟩:=h3.get 0 rfl;subst hv3;have H4:=Lib.hid h3;clear h3;have q0:=(hB3.cell (p:=⟨w.heap.size,0,none⟩) hz0).trans z0;have q2:=(hB3.cell (p:=⟨w.heap.size,2,none⟩) hz0).trans z2;have x0:=(hB3.cell (p:=⟨w.heap.size+1,0,none⟩) hz1).trans y0;have x1:=(hB3.cell (p:=⟨w.heap.size+1,1,none⟩) hz1).trans y1;have x2:=(hB3.cell (p:=⟨w.heap.size+1,2,none⟩) hz1).trans y2;have xf0:=(hB3.frozen (p:=⟨w.heap.size+1,0,none⟩) hz1).trans (yf 0);have xf1:=(hB3.frozen (p:=⟨w.heap.size+1,1,none⟩) hz1).trans (yf 1);have xf2:=(hB3.frozen (p:=⟨w.heap.size+1,2,none⟩) hz1).trans (yf 2)))
    all_goals
      have H5:=((Ctx.over H.out H4.out).box3 (g:=w.heap.size+1) (b:=false) (a:=none) (n:=0) (c:=0) (x:=0) (Nat.le_succ_of_le hg.out) x0 x1 x2 (.bool ng) (.slice ad3 (limbs m).length cap3) (.int .i64 E)).wide (L':=2000) (by omega)
      have H6:=Lib.hid H5;clear H5
      go_wp2_with fail
      exact bodyPost_ret (v:=.tuple #[.agg #[.bool ng,.slice ad3 (limbs m).length cap3,.int .i64 E],.bool true]) (by simp [results,Tryz.results188,go_sem,x0,x1,x2]) rfl ⟨_,rfl,HL3.out,H6.out⟩
  · obtain ⟨kk,hkk⟩:∃ kk:Nat,t.toNat=kk:=⟨_,rfl⟩
    have hN2:s*2 ^ kk=m*tenN k:=by
      unfold decN at hN
      rw [hkk,show (-t).toNat=0 by omega,Nat.pow_zero,Nat.mul_one] at hN;exact hN
    have hkb:kk≤1000:=by omega
    have HE:=Lib.hid (show 0+(k:Int)=E by omega)
    have KP:=Lib.hid (fun W' (h:Ctx W W' (⟨.slice (some ⟨w.heap.size+1+1,0,none⟩) 2 2,2,s,[s % 4294967296,s / 4294967296]⟩::l))=>pow_c h (b:=2) (by decide) t kk (by unfold cutP;omega))
    clear hE
    have KM:=Lib.hid (fun W' v1 (h:Ctx W W' (⟨v1,kk+1,2 ^ kk,limbs (2 ^ kk)⟩ :: ⟨.slice (some ⟨w.heap.size+1+1,0,none⟩) 2 2,2,s,[s % 4294967296,s / 4294967296]⟩::l))=>mul_c h 1 0 rfl rfl (by decide) (by omega))
    have KK:=Lib.hid (fun W' v1 v2 (h:Ctx W W' (⟨v2,2+(kk+1),s*2 ^ kk,limbs (s*2 ^ kk)⟩ :: ⟨v1,kk+1,2 ^ kk,limbs (2 ^ kk)⟩ :: ⟨.slice (some ⟨w.heap.size+1+1,0,none⟩) 2 2,2,s,[s % 4294967296,s / 4294967296]⟩::l))=>make_yes2_n h 0 rfl (by omega) ng 0 m k hN2 hm hlen E HE.out hlo hhi)
    clear hN2 hN
    generalize 2 ^ kk=PP at *
    go_enter Tryz.func188,Tryz.ntmps188
    unfold binV
    go_wp2_with fail
    rw [HA.out,HW.out]
    go_region_held3 (fun w'=>w'.cell? ⟨w.heap.size,0,none⟩=some (.bool ng)∧w'.cell? ⟨w.heap.size,2,none⟩=some (.int .i64 t)) (go_keep)
      (first
      | (go_at_call 82;refine (KP.out _ (by exact H3.out.step (below_drew (Below.refl _ _)))).mono ?_;rintro r w1 ⟨v1,rfl,h1⟩;have hB1:=h1.below;have H1:=Lib.hid h1;clear h1;have q0:=(hB1.cell (p:=⟨w.heap.size,0,none⟩) hz0).trans z0;have q2:=(hB1.cell (p:=⟨w.heap.size,2,none⟩) hz0).trans z2)
      | (go_at_call 81;refine (KM.out _ _ (by exact H1.out)).mono ?_;rintro r w2 ⟨v2,rfl,h2⟩;have hB2:=h2.below;have H2:=Lib.hid h2;clear h2;have q0:=(hB2.cell (p:=⟨w.heap.size,0,none⟩) hz0).trans z0;have q2:=(hB2.cell (p:=⟨w.heap.size,2,none⟩) hz0).trans z2)
      | (go_at_call 155;refine (KK.out _ _ _ (by exact H2.out)).mono ?_;rintro r w3 ⟨v3,rfl,hloc3,h3⟩;have HL3:=Lib.hid (hloc3.mono (Nat.le_trans (Nat.le_of_lt hz0) hB2.size));clear hloc3;have hB3:=h3.below;obtain ⟨ad3,cap3,hv3,_⟩:=h3.get 0 rfl;subst hv3;have H4:=Lib.hid h3;clear h3;have q0:=(hB3.cell (p:=⟨w.heap.size,0,none⟩) hz0).trans z0;have q2:=(hB3.cell (p:=⟨w.heap.size,2,none⟩) hz0).trans z2;have x0:=(hB3.cell (p:=⟨w.heap.size+1,0,none⟩) hz1).trans y0;have x1:=(hB3.cell (p:=⟨w.heap.size+1,1,none⟩) hz1).trans y1;have x2:=(hB3.cell (p:=⟨w.heap.size+1,2,none⟩) hz1).trans y2;have xf0:=(hB3.frozen (p:=⟨w.heap.size+1,0,none⟩) hz1).trans (yf 0);have xf1:=(hB3.frozen (p:=⟨w.heap.size+1,1,none⟩) hz1).trans (yf 1);have xf2:=(hB3.frozen (p:=⟨w.heap.size+1,2,none⟩) hz1).trans (yf 2)))
    all_goals
      have H5:=((Ctx.over H.out H4.out).box3 (g:=w.heap.size+1) (b:=false) (a:=none) (n:=0) (c:=0) (x:=0) (Nat.le_succ_of_le hg.out) x0 x1 x2 (.bool ng) (.slice ad3 (limbs m).length cap3) (.int .i64 E)).wide (L':=2000) (by omega)
      have H6:=Lib.hid H5;clear H5
      go_wp2_with fail
      exact bodyPost_ret (v:=.tuple #[.agg #[.bool ng,.slice ad3 (limbs m).length cap3,.int .i64 E],.bool true]) (by simp [results,Tryz.results188,go_sem,x0,x1,x2]) rfl ⟨_,rfl,HL3.out,H6.out⟩
theorem exact_n {w0 w:World} {l:List Ent} (h:Ctx w0 w l) (width:Int) (x:Nat) (hx:x<18446744073709551616) {e f:Nat} (hl:Lay e f) (hlo:layOf width=some (e,f)) (hk:kindF e f x=1) :
    Calls Tryz.prog 152 #[.int .i64 width,.int .u64 (x:Int)] w (MadeN w w0 l 2000 (fNeg e f x) (exM e f x) (exE e f x) true):=by
  obtain ⟨e1,e2,e3,e4,e5⟩:=ex_bounds hl hk
  have KK:=fun W=>kind_any width x hx W
  rw [show kindW width x=1 by unfold kindW;rw [hlo];simp [hk]] at KK
  have KKH:=Lib.hid KK
  have KL:=fun W=>layoutOf_any width W
  unfold layA at KL
  rw [hlo] at KL
  have KLH:=Lib.hid KL
  have KSH:=Lib.hid (fun W=>split_any hl x hx W)
  have KBH:=Lib.hid (fun W=>binary_any hl x W)
  have hb:=twosF_bd (x:=x) hl
  have h64:=size_le_64 (x:=x) hl
  have KDH:=Lib.hid (fun W (h:Ctx W W l)=>decimal_n h (fNeg e f x) (sizeF e f x) (twosF e f x) h64 ⟨hb.1,by omega⟩ (exM e f x) _ e1 e2 e3 (exE e f x) rfl e4 e5)
  have H:=Lib.hid h
  have hg:=Lib.hid h.below.size
  clear KK KL hb h64 e1 e2 e3 e4 e5 hk hlo h hl
  generalize fNeg e f x=ng at *
  generalize exM e f x=m at *
  generalize exE e f x=E at *
  generalize sizeF e f x=s at *
  generalize twosF e f x=t at *
  generalize partV e f x=pv at *
  unfold layV at *
  go_enter Tryz.func152,Tryz.ntmps152
  go_wp2_with fail
  refine (KKH.out _).mono ?_
  rintro r w1 ⟨rfl,hb1⟩
  have HB1:=Lib.hid (below_on (below_box' w #[.bool false,.slice none 0 0,.int .i64 0] 25) hb1)
  obtain ⟨hc1,hf1⟩:=bcell hb1
  have x0:w1.cell? ⟨w.heap.size,0,none⟩=some (.bool false):=by rw [hc1 _ _ (by simp)];simp
  have x1:w1.cell? ⟨w.heap.size,1,none⟩=some (.slice none 0 0):=by rw [hc1 _ _ (by simp)];simp
  have x2:w1.cell? ⟨w.heap.size,2,none⟩=some (.int .i64 0):=by rw [hc1 _ _ (by simp)];simp
  have xf:∀ j,w1.frozen? ⟨w.heap.size,j,none⟩=false:=fun j=>by rw [hf1 _ _ (by simp)];simp [go_sem]
  have hz1:w.heap.size<w1.heap.size:=by have h:=hb1.size;(try simp at h);omega
  clear hb1 hc1 hf1
  go_wp2_with fail
  refine (KLH.out _).mono ?_
  rintro r w2 ⟨rfl,hb2⟩
  have hbw:=(below_on hb2 (below_box' w2 #[.int .i64 (e:Int),.int .i64 (f:Int)] 151))
  have z0:(w2.alloc (.cells #[.int .i64 (e:Int),.int .i64 (f:Int)] 151)).cell? ⟨w2.heap.size,0,none⟩=some (.int .i64 (e:Int)):=by simp
  have z1:(w2.alloc (.cells #[.int .i64 (e:Int),.int .i64 (f:Int)] 151)).cell? ⟨w2.heap.size,1,none⟩=some (.int .i64 (f:Int)):=by simp
  have hzz:(w2.alloc (.cells #[.int .i64 (e:Int),.int .i64 (f:Int)] 151)).heap.size=w2.heap.size+1:=by simp
  have hz2:w1.heap.size≤w2.heap.size:=hb2.size
  clear hb2
  go_wp2_with fail
  generalize hW:w2.alloc (.cells #[.int .i64 (e:Int),.int .i64 (f:Int)] 151)=W at *
  have hwz:w.heap.size<W.heap.size:=by omega
  have hwz2:w2.heap.size<W.heap.size:=by omega
  have y0:W.cell? ⟨w.heap.size,0,none⟩=some (.bool false):=(hbw.cell (p:=⟨w.heap.size,0,none⟩) hz1).trans x0
  have y1:W.cell? ⟨w.heap.size,1,none⟩=some (.slice none 0 0):=(hbw.cell (p:=⟨w.heap.size,1,none⟩) hz1).trans x1
  have y2:W.cell? ⟨w.heap.size,2,none⟩=some (.int .i64 0):=(hbw.cell (p:=⟨w.heap.size,2,none⟩) hz1).trans x2
  have yf:∀ j,W.frozen? ⟨w.heap.size,j,none⟩=false:=fun j=>(hbw.frozen (p:=⟨w.heap.size,j,none⟩) hz1).trans (xf j)
  have HBW:=Lib.hid (below_on HB1.out hbw)
  have HCW:=Lib.hid (H.out.step HBW.out)
  have hne1:¬ w.heap.size=w2.heap.size:=by omega
  have hne2:¬ w2.heap.size=w.heap.size:=by omega
  clear x0 x1 x2 xf hW hzz hbw
  go_region_held3 (fun w'=>w'.cell? ⟨w2.heap.size,0,none⟩=some (.int .i64 (e:Int))∧w'.cell? ⟨w2.heap.size,1,none⟩=some (.int .i64 (f:Int))) (go_keep)
    (first
      | (go_at_call 190;refine (KSH.out _).mono ?_;rintro r w3 ⟨rfl,hb3⟩;have hB3:=below_on (below_drew (Below.refl W.heap.size W)) hb3;have q0:=(hB3.cell (p:=⟨w2.heap.size,0,none⟩) hwz2).trans z0;have q1:=(hB3.cell (p:=⟨w2.heap.size,1,none⟩) hwz2).trans z1)
      | (go_at_call 189;refine (KBH.out _).mono ?_;rintro r w4 ⟨rfl,hb4⟩;have hB4:=below_on hB3 hb4;have q0:=(hB4.cell (p:=⟨w2.heap.size,0,none⟩) hwz2).trans z0;have q1:=(hB4.cell (p:=⟨w2.heap.size,1,none⟩) hwz2).trans z1)
      | (go_at_call 188;refine (KDH.out _ (by exact (HCW.out.step hB4).again)).mono ?_;rintro r w5 ⟨v5,rfl,hloc5,h5⟩;have HL5:=Lib.hid (hloc5.mono (Nat.le_trans (Nat.le_of_lt hwz) hB4.size));clear hloc5;obtain ⟨ad5,cap5,hv5,_⟩:=h5.get 0 rfl;subst hv5;have hB5:=below_on hB4 h5.below;have q0:=(hB5.cell (p:=⟨w2.heap.size,0,none⟩) hwz2).trans z0;have q1:=(hB5.cell (p:=⟨w2.heap.size,1,none⟩) hwz2).trans z1;have x0:=(hB5.cell (p:=⟨w.heap.size,0,none⟩) hwz).trans y0;have x1:=(hB5.cell (p:=⟨w.heap.size,1,none⟩) hwz).trans y1;have x2:=(hB5.cell (p:=⟨w.heap.size,2,none⟩) hwz).trans y2;have xf0:=(hB5.frozen (p:=⟨w.heap.size,0,none⟩) hwz).trans (yf 0);have xf1:=(hB5.frozen (p:=⟨w.heap.size,1,none⟩) hwz).trans (yf 1);have xf2:=(hB5.frozen (p:=⟨w.heap.size,2,none⟩) hwz).trans (yf 2);have H5:=Lib.hid h5;clear h5))
  all_goals
    have H6:=Lib.hid ((Ctx.over (HCW.out.step hB4) H5.out).box3 (g:=w.heap.size) (b:=false) (a:=none) (n:=0) (c:=0) (x:=0) hg.out x0 x1 x2 (.bool ng) (.slice ad5 (limbs m).length cap5) (.int .i64 E))
    go_wp2_with fail
    exact bodyPost_ret (v:=.tuple #[.agg #[.bool ng,.slice ad5 (limbs m).length cap5,.int .i64 E],.bool true]) (by simp [results,Tryz.results152,go_sem,x0,x1,x2]) rfl ⟨_,rfl,HL5.out,H6.out⟩
end Go.Proofs.YtnacbakcalcgaaaGreatDoor
namespace Go.Proofs.YtnacbakcalcgaaaGreatDoor
open Go.RowKit Go.Lib Go.Sort

def IntVal (w:World) (i:IntC) (v:Value):Prop:=∃ u xs,v=.agg #[.bool i.1,u]∧ListOk w u 600 i.2 xs
theorem ListOk.below {w w':World} {v:Value} {L N:Nat} {xs:List Nat} (h:ListOk w v L N xs) (hb:Below w.heap.size w w'):ListOk w' v L N xs:=by
  obtain ⟨ad,cap,h1,h2,h3,h4,h5,h6⟩:=h
  exact ⟨ad,cap,h1,h2,h3,h4,h5.below hb,h6⟩
theorem IntVal.below {w w':World} {i:IntC} {v:Value} (h:IntVal w i v) (hb:Below w.heap.size w w'):IntVal w' i v:=by
  obtain ⟨u,xs,h1,h2⟩:=h
  exact ⟨u,xs,h1,h2.below hb⟩
theorem ListOk.box {w:World} {v:Value} {L N:Nat} {xs:List Nat} (h:ListOk w v L N xs) {g j:Nat} {x:Value} (hc:w.cell? ⟨g,j,none⟩=some x) (hx:∀ n:Int,x ≠ .int .u32 n) (u:Value):ListOk (w.setCell ⟨g,j,none⟩ u) v L N xs:=by
  obtain ⟨ad,cap,h1,h2,h3,h4,h5,h6⟩:=h
  exact ⟨ad,cap,h1,h2,h3,h4,h5.setBox hc hx u,h6⟩
theorem lits2_ok (w:World) (k:Nat) (hk:k<18446744073709551616):ListOk (w.alloc (.cells #[.int .u32 ((k:Int) % 4294967296),.int .u32 ((k:Int) / 4294967296)] 51)) (.slice (some ⟨w.heap.size,0,none⟩) 2 2) 600 k [k % 4294967296,k / 4294967296]:=by
  obtain ⟨hok,hvl⟩:=words_ok hk
  have e:(#[.int .u32 ((k:Int) % 4294967296),.int .u32 ((k:Int) / 4294967296)]:Array Value)=([k % 4294967296,k / 4294967296].map lv).toArray:=by simp [lv]
  rw [e]
  exact ⟨_,2,rfl,by simp,by simp,hok,(alloc_blk w _).rd_all,hvl⟩
def MkR (r:Option (Bool × Nat × Int)) (B:Nat) (w':World) (neg:Bool) (ad:Option Addr) (n cap:Nat) (x:Int) (ok:Bool):Prop:=match r with
  | some p=>ok=true∧neg=p.1∧n=(limbs p.2.1).length∧x=p.2.2∧n≤cap∧Ind (fun k=>k<B) w' (fun W=>Rd W ad (limbs p.2.1))
  | none=>ok=false
def MkP (r:Option (Bool × Nat × Int)) (w:World) (e:Ending) (w':World):Prop :=
  ∃ (neg:Bool) (ad:Option Addr) (n cap:Nat) (x:Int) (ok:Bool),e=.returned (.tuple #[.agg #[.bool neg,.slice ad n cap,.int .i64 x],.bool ok])∧Below w.heap.size w w'∧MkR r w.heap.size w' neg ad n cap x ok
theorem mkP_none {w w':World} {r:Ending} {L:Nat} {neg:Bool} {m:Nat} {e:Int} {l:List Ent} (h:MadePost w l L neg m e false r w'):MkP none w r w':=by
  obtain ⟨v,rfl,hc⟩:=h
  obtain ⟨ad,cap,rfl,_⟩:=hc.get 0 rfl
  exact ⟨_,ad,_,cap,_,_,rfl,hc.below,rfl⟩
theorem mkP_zero {w w':World} {r:Ending} {L:Nat} {l:List Ent} {neg:Bool} {e:Int} (h:MadePost w l L neg 0 e true r w'):MkP (some (neg,0,e)) w r w':=by
  obtain ⟨v,rfl,hc⟩:=h
  obtain ⟨ad,cap,rfl,h2,_⟩:=hc.get 0 rfl
  exact ⟨_,ad,_,cap,_,_,rfl,hc.below,rfl,rfl,rfl,rfl,h2,fun W _ _=>by rw [limbs_zero];exact Rd.nil _ _⟩
theorem mkP_some {w w':World} {r:Ending} {L:Nat} {l:List Ent} {neg:Bool} {m:Nat} {e:Int} (h:MadeN w w l L neg m e true r w'):MkP (some (neg,m,e)) w r w':=by
  obtain ⟨v,rfl,hloc,hc⟩:=h
  obtain ⟨ad,cap,rfl,h2,h3,h4,h5,h6⟩:=hc.get 0 rfl
  exact ⟨_,ad,_,cap,_,_,rfl,hc.below,rfl,rfl,rfl,rfl,h2,ind_rd h5 (fun a e h=>by subst e;have:=hloc a _ _ rfl;omega)⟩
theorem make_cb {w:World} {u:Value} {L N:Nat} {xs:List Nat} (h:ListOk w u L N xs) (hL:L≤100000) (neg:Bool) (e:Int) (he:-200000≤e∧e≤200000) :
    Calls Tryz.prog 155 #[.bool neg,u,.int .i64 e] w (MkP (mkN neg N e) w):=by
  have hc:Ctx w w [⟨u,L,N,xs⟩]:=(Ctx.begin w).push h
  unfold mkN
  by_cases h0:N=0
  · rw [if_pos h0]
    subst h0
    exact (make_zero hc 0 rfl (by omega) neg e).mono fun _ _ h=>mkP_zero h
  · rw [if_neg h0]
    obtain ⟨h1,h2⟩:=trim_spec h0
    by_cases hb:(limbs (trimM N)).length≤90∧-1200≤e+(trimK N:Int)∧e+(trimK N:Int)≤1200
    · rw [if_pos hb]
      exact (make_yes_n hc 0 rfl (by omega) neg e _ _ h1 h2 hb.1 hb.2.1 hb.2.2).mono fun _ _ h=>mkP_some h
    · rw [if_neg hb]
      exact (make_no hc 0 rfl (by omega) neg e _ _ h1 h2 hb (by omega)).mono fun _ _ h=>mkP_none h
theorem exact_cb (width:Int) (x:Nat) (hx:x<18446744073709551616) (w:World) :
    Calls Tryz.prog 152 #[.int .i64 width,.int .u64 (x:Int)] w (MkP (exactN width x) w):=by
  unfold exactN
  by_cases h1:kindW width x=1
  · rw [if_pos (.inl h1)]
    unfold kindW at h1
    unfold exNegW exMW exEW
    cases hlo:layOf width with
    | none=>rw [hlo] at h1;simp at h1
    | some p =>
      obtain ⟨e,f⟩:=p
      rw [hlo] at h1
      have hk:kindF e f x=1:=by simp only at h1;omega
      simp only [hk,decide_true,Bool.true_and,if_true]
      exact (exact_n (Ctx.begin w) width x hx (layOf_lay hlo) hlo hk).mono fun _ _ h=>mkP_some h
  · have K:=exact_no (Ctx.begin w) width x (kindW width x) (decide (kindW width x=2)) (by
      by_cases h2:kindW width x=2
      · rw [h2];rfl
      · rw [decide_eq_false h2,beq_eq_false_iff_ne];exact h2) (by rw [beq_eq_false_iff_ne];exact h1) (fun W=>kind_any width x hx W)
    by_cases h2:kindW width x=2
    · rw [if_pos (.inr h2)]
      rw [decide_eq_true h2] at K
      have hz:exNegW width x=false∧exMW width x=0∧exEW width x=0:=by
        unfold exNegW exMW exEW
        unfold kindW at h1
        cases hlo:layOf width with
        | none=>exact ⟨rfl,rfl,rfl⟩
        | some p =>
          obtain ⟨e,f⟩:=p
          rw [hlo] at h1
          have hk:¬ kindF e f x=1:=fun h=>h1 (by simp [h])
          simp [hk]
      rw [hz.1,hz.2.1,hz.2.2]
      exact K.mono fun _ _ h=>mkP_zero h
    · rw [if_neg (fun h=>h.elim h1 h2)]
      rw [decide_eq_false h2] at K
      exact K.mono fun _ _ h=>mkP_none h
theorem ListOk.wide {w:World} {v:Value} {L L' N:Nat} {xs:List Nat} (h:ListOk w v L N xs) (hL:L≤L'):ListOk w v L' N xs:=by
  obtain ⟨ad,cap,h1,h2,h3,h4⟩:=h
  exact ⟨ad,cap,h1,h2,Nat.le_trans h3 hL,h4⟩
end Go.Proofs.YtnacbakcalcgaaaGreatDoor
