/- Texts of the claim. -/
import Derived.Test.YtbkfhdbocgjakaaGreatDoorEM
import Derived.Test.YtbkfhdbocgjakaaGreatDoorEk
import Derived.Test.YtbkfhdbocgjakaaGreatDoorEq
set_option linter.unusedVariables false
set_option linter.unusedSimpArgs false
set_option maxHeartbeats 8000000
set_option maxRecDepth 100000
namespace Go.Proofs.YtbkfhdbocgjakaaGreatDoor
open Go.RowKit
def RTPost (a:Nat) (w:World) (e:Ending) (w':World):Prop :=
  ∃ v m k,e=.returned (.tuple #[v,.int .i64 ((k:Nat):Int)])∧Own w.heap.size w' v (limbs m)∧Below w.heap.size w w'∧a=m*tenN k∧(a=0→k=0)∧(a ≠ 0→m % 10 ≠ 0)∧k≤400000000
def RTRel (G N:Nat) (w:World) (M:Nat) (lv n:Value) (wr:World):Prop :=
  ∃ k:Nat,n=.int .i64 (k:Int)∧Own G wr lv (limbs M)∧N=M*tenN k∧(N=0→k=0)∧M≤N∧k≤400000000∧Below G w wr
theorem rt_step {N M k n:Nat} (h:N=M*tenN k) (h0:M ≠ 0) (hm:M % 10=0) (hN:N<B32 ^ n) (hn:n≤10000000):N=M / 10*tenN (k+1)∧(N=0→k+1=0)∧k+1≤400000000:=by
  have e:=Nat.div_add_mod M 10
  rw [hm,Nat.add_zero] at e
  have hN0:N ≠ 0:=by rw [h];exact Nat.mul_ne_zero h0 (tenN_ne _)
  have e1:N=M / 10*tenN (k+1):=by
    rw [h];conv=>lhs;rw [← e]
    rw [tenN_succ]
    generalize tenN k=T;generalize M / 10=q;grind
  have h1:M / 10 ≠ 0:=by omega
  have h2:tenN (k+1)≤N:=by rw [e1];exact Nat.le_mul_of_pos_left _ (by omega)
  have:=ten_bound h2 hN
  exact ⟨e1,fun h0=>absurd h0 hN0,by omega⟩
theorem refTrim_any (ad:Option Addr) (n cap:Nat) (xs:List Nat) (w:World) (hn:xs.length=n) (hcap:n≤cap) (hm:n≤10000000) (ho:Okl xs) (hr:Rd w ad xs) :
    Calls Tryz.prog 33 #[.slice ad n cap] w (RTPost (val xs) w):=by
  have KN:=Lib.hid (refNorm_any ad n cap xs w hn hcap (by omega) ho hr)
  have hlen:=limbs_len_le ho
  rw [hn] at hlen
  have hlt:=val_lt ho
  rw [hn] at hlt
  generalize val xs=N at *
  clear ho hr hn
  generalize hG:w.heap.size=G at *
  have HLT:=Lib.hid hlt;clear hlt
  go_enter Tryz.func33,Tryz.ntmps33
  go_wp2_with fail
  refine KN.out.mono ?_
  rintro e w' ⟨v,rfl,hv,hbl⟩
  rw [hG] at hv hbl
  have HV:=Lib.hid hv;have HB:=Lib.hid hbl;clear hv hbl
  go_wp2_with fail
  go_loopg [4,5] N (fun M lv nv wr=>RTRel G N w M lv nv wr)
  case atStart=>exact ⟨0,rfl,HV.out,by rw [tenN_zero,Nat.mul_one],fun _=>rfl,Nat.le_refl _,by omega,HB.out⟩
  case round =>
    clear HV HB
    obtain ⟨k,rfl,hown,hT,hk0,hle,hk4,hbl⟩:=hrel
    obtain ⟨ad2,cap2,hve,hc2,hrd,hadd⟩:=hown.view
    have hll:(limbs gk).length≤n:=Nat.le_trans (limbs_len_mono hle) hlen
    by_cases hM:gk=0
    · subst hM
      rw [limbs_zero] at hve
      subst hve
      have F:=Lib.hid (show RTPost N w (.returned (.tuple #[.slice ad2 0 cap2,.int .i64 ((k:Nat):Int)])) wr from ⟨_,0,k,rfl,by rw [hG];exact hown,by rw [hG];exact hbl,hT,hk0,fun h=>absurd (by rw [hT,Nat.zero_mul]) h,hk4⟩)
      clear hown hrd hadd hT hbl hc2 hll hk0
      go_wp2
      go_ret2
      exact F.out
    · have hpos:(0:Int)<((limbs gk).length:Int):=by
        have:(limbs gk).length ≠ 0:=fun h=>hM ((limbs_nil_iff gk).1 (List.eq_nil_of_length_eq_zero h))
        omega
      have K:=refSmall_any ad2 (limbs gk).length cap2 (limbs gk) 10 wr rfl hc2 (by omega) (limbs_ok gk) hrd (by decide) (by decide)
      rw [val_limbs] at K
      have KS:=Lib.hid K;clear K
      have hGs:G≤wr.heap.size:=Nat.le_trans (by rw [← hG];exact Nat.le_refl _) hbl.size
      have HT:=Lib.hid hT;have HB:=Lib.hid hbl;have HO:=Lib.hid hown;have HK0:=Lib.hid hk0;have HVE:=Lib.hid hve
      subst hve
      clear hown hrd hadd hT hbl hc2 hk0
      go_wp2_with fail
      refine KS.out.mono ?_
      rintro r w1 ⟨v1,rfl,hv1,hb1⟩
      have hv2:=hv1.mono hGs
      have hbl2:=HB.out.trans (hb1.mono hGs)
      have ho2:=HO.out.below hb1
      have h10:gk % 10<10:=Nat.mod_lt _ (by decide)
      have HV2:=Lib.hid hv2;have HB2:=Lib.hid hbl2;have HO2:=Lib.hid ho2
      clear hv1 hb1 hv2 hbl2 KS ho2
      by_cases h0:gk % 10=0
      · have HS:=Lib.hid (rt_step HT.out hM h0 HLT.out hm)
        have hqm:gk / 10<gk:=by omega
        have HQN:=Lib.hid (show gk / 10≤N by omega)
        have hb:((((gk % 10:Nat):Int)) != 0)=false:=by rw [h0];rfl
        have hi:((gk % 10:Nat):Int)=0:=by omega
        generalize gk % 10=r at *
        subst h0
        generalize gk / 10=q at *
        go_wp2
        go_roundg q
        case measure=>exact hqm
        case rel=>exact ⟨k+1,by go_num,HV2.out,HS.out.1,HS.out.2.1,HQN.out,HS.out.2.2,HB2.out⟩
      · have F:=Lib.hid (show RTPost N w (.returned (.tuple #[.slice ad2 (limbs gk).length cap2,.int .i64 ((k:Nat):Int)])) w1 from ⟨_,gk,k,rfl,by rw [hG];exact HO2.out,by rw [hG];exact HB2.out,HT.out,HK0.out,fun _=>h0,hk4⟩)
        have hi:¬ ((gk % 10:Nat):Int)=0:=by omega
        generalize gk % 10=r at *
        go_wp2
        go_ret2
        exact F.out
theorem refTrim_c {w0 w:World} {l:List Ent} {v1:Value} {L1 N1:Nat} {xs:List Nat} (h:Ctx w0 w l) (i:Nat) (hi:l[i]? = some ⟨v1,L1,N1,xs⟩) (h1:L1≤1000000) :
    Calls Tryz.prog 33 #[v1] w fun e w'=>∃ v m k,e=.returned (.tuple #[v,.int .i64 ((k:Nat):Int)])∧N1=m*tenN k∧(N1=0→k=0)∧(N1 ≠ 0→m % 10 ≠ 0)∧k≤400000000∧Ctx w0 w' (⟨v,L1,m,limbs m⟩::l):=by
  obtain ⟨ad,cap,rfl,a2,a3,a4,a5,rfl⟩:=h.get i hi
  refine (refTrim_any ad _ cap xs w rfl a2 (by omega) a4 a5).mono ?_
  rintro e w' ⟨v,m,k,rfl,ho,hb,q1,q2,q3,q4⟩
  refine ⟨v,m,k,rfl,q1,q2,q3,q4,(h.step hb).push (ent_own ho (len_leq a4 ?_ a3))⟩
  rw [q1]
  exact Nat.le_mul_of_pos_right _ (Nat.pow_pos (by decide))
theorem refMake_zero {w0 w:World} {l:List Ent} {v:Value} {L:Nat} {xs:List Nat} (h:Ctx w0 w l) (i:Nat) (hi:l[i]? = some ⟨v,L,0,xs⟩) (hL:L≤1000000) (neg:Bool) (e:Int) :
    Calls Tryz.prog 17 #[.bool neg,v,.int .i64 e] w (MadePost w0 l L false 0 0 true):=by
  have hb1:Below w.heap.size w (w.alloc (.cells #[.bool false,.slice none 0 0,.int .i64 0] 25)):=(Below.refl _ _).alloc (Nat.le_refl _) _
  have h1:=h.step hb1
  have hW:=Lib.hid h.below.size
  have K:=Lib.hid (refTrim_c h1.again i hi (by omega))
  have H1:=Lib.hid h1.below
  clear h h1 hi hb1
  go_enter Tryz.func17,Tryz.ntmps17
  go_wp2_with fail
  refine K.out.mono ?_
  rintro r w1 ⟨t,m,k,rfl,q1,q2,_,_,h2⟩
  have hm:m=0:=by
    rcases Nat.mul_eq_zero.1 q1.symm with h | h
    · exact h
    · exact absurd h (tenN_ne _)
  subst hm
  have hv:=h2.get 0 rfl
  obtain ⟨ad,cap,rfl,_⟩:=hv
  rw [show (limbs 0).length=0 by rw [limbs_zero];rfl] at *
  obtain ⟨hc,hf⟩:=bcell h2.below
  have hz:w.heap.size<w1.heap.size:=by have:=h2.below.size;simp at this;omega
  have H2:=Lib.hid h2;clear h2 q1 q2
  go_wp2
  have H3:=Ctx.back H1.out H2.out
  refine bodyPost_ret (v:=.tuple #[.agg #[.bool false,.slice none 0 0,.int .i64 0],.bool true]) (by simp [results,Tryz.results17,go_sem,hc]) rfl ⟨_,rfl,?_⟩
  have H4:=H3.box3 hW.out (b:=false) (a:=none) (n:=0) (c:=0) (x:=0) (by simp [hc]) (by simp [hc]) (by simp [hc]) (.bool false) (.slice none 0 0) (.int .i64 0)
  exact (H4.drop1).push (ent_nil _ _)
theorem refMake_yes {w0 w:World} {l:List Ent} {v:Value} {L N:Nat} {xs:List Nat} (h:Ctx w0 w l) (i:Nat) (hi:l[i]? = some ⟨v,L,N,xs⟩) (hL:L≤1000000) (neg:Bool) (e:Int)
    (m k:Nat) (hN:N=m*tenN k) (hm:m % 10 ≠ 0) (hlen:(limbs m).length≤90) (x:Int) (hx:e+(k:Int)=x) (hlo:-1200≤x) (hhi:x≤1200) :
    Calls Tryz.prog 17 #[.bool neg,v,.int .i64 e] w (MadePost w0 l L neg m x true):=by
  subst hx
  have hb1:Below w.heap.size w (w.alloc (.cells #[.bool false,.slice none 0 0,.int .i64 0] 25)):=(Below.refl _ _).alloc (Nat.le_refl _) _
  have h1:=h.step hb1
  have hW:=Lib.hid h.below.size
  have K:=Lib.hid (refTrim_c h1.again i hi (by omega))
  have H1:=Lib.hid h1.below
  have hne:m ≠ 0:=by intro h0;rw [h0] at hm;exact hm rfl
  have hlb:(((limbs m).length:Int) == 0)=false:=by
    rw [beq_eq_false_iff_ne]
    intro h0
    exact hne ((limbs_nil_iff m).1 (List.eq_nil_of_length_eq_zero (by omega)))
  have hN0:N ≠ 0:=by rw [hN];exact Nat.mul_ne_zero hne (tenN_ne _)
  have HM:=Lib.hid hm
  have HE:=Lib.hid hN
  have HLEN:=Lib.hid hlen
  clear h h1 hi hb1 hne hm hN hlen
  go_enter Tryz.func17,Tryz.ntmps17
  go_wp2_with fail
  refine K.out.mono ?_
  rintro r w1 ⟨t,m',k',rfl,q1,q2,q3,hk4,h2⟩
  obtain ⟨rfl,rfl⟩:m=m'∧k=k':=ten_unique (by rw [← q1,← HE.out]) HM.out (q3 hN0)
  have hv:=h2.get 0 rfl
  obtain ⟨ad,cap,rfl,a2,a3,a4,a5,a6⟩:=hv
  obtain ⟨hc,hf⟩:=bcell h2.below
  have hz:w.heap.size<w1.heap.size:=by have:=h2.below.size;simp at this;omega
  have H2:=Lib.hid h2;clear h2 q1 q2 q3 a4 a5 a6 a3
  have hl90:=HLEN.out
  generalize hn:(limbs m).length=n at *
  have HN:=Lib.hid hn;clear hn
  have hsum:IntKind.i64.wrap (e+(k:Int))=e+(k:Int):=IntWalk.i64_in _ (by omega)
  have g1:¬ ((90:Int)<(n:Int)):=by omega
  have g2:¬ (e < -1099511627776):=by omega
  have g3:¬ (1099511627776<e):=by omega
  have g4:¬ (1099511627776<(k:Int)):=by omega
  have g5:¬ (e+(k:Int) < -1200):=by omega
  have g6:¬ (1200<e+(k:Int)):=by omega
  go_wp2_with fail
  have H3:=Ctx.back H1.out H2.out
  refine bodyPost_ret (v:=.tuple #[.agg #[.bool neg,.slice ad n cap,.int .i64 (e+(k:Int))],.bool true]) (by simp [results,Tryz.results17,go_sem,hc,hz]) rfl ⟨_,rfl,?_⟩
  exact H3.box3 hW.out (b:=false) (a:=none) (n:=0) (c:=0) (x:=0) (by simp [hc,hz,World.cell?_alloc_lt]) (by simp [hc,hz,World.cell?_alloc_lt]) (by simp [hc,hz,World.cell?_alloc_lt]) _ _ _
end Go.Proofs.YtbkfhdbocgjakaaGreatDoor
namespace Go.Proofs.YtbkfhdbocgjakaaGreatDoor
open Go.RowKit Go.Lib Go.Sort
theorem place_big (v n:Int) (w:World) (hv:-9223372036854775808≤v∧v≤9223372036854775807) (hn:0<n∧n≤1099511627776) :
    Calls Tryz.prog 16 #[.int .i64 v,.int .i64 n] w fun e w'=>e=.returned (.int .i64 (v % n))∧w'=w:=by
  have h1:=Int.emod_nonneg v (show n ≠ 0 by omega)
  have h2:=Int.emod_lt_of_pos v hn.1
  have ht:v.tmod n=if 0≤v∨v % n=0 then v % n else v % n - n:=by
    rw [Int.tmod_eq_emod]
    by_cases h0:0≤v∨n ∣ v
    · rw [if_pos h0,if_pos (h0.imp id Int.emod_eq_zero_of_dvd)];omega
    · rw [if_neg h0,if_neg (fun h=>h0 (h.imp id Int.dvd_of_emod_eq_zero))];omega
  have hne:n ≠ 0:=by omega
  have hnb:(n == 0)=false:=by rw [beq_eq_false_iff_ne];exact hne
  generalize v % n=r at *
  by_cases hv0:0≤v∨r=0
  · rw [if_pos hv0] at ht
    have hlt:¬ (r<0):=by omega
    clear hv0
    go_enter Tryz.func16,Tryz.ntmps16
    go_wp2_with fail
    go_ret
    exact ⟨rfl,rfl⟩
  · rw [if_neg hv0] at ht
    clear hv0
    go_enter Tryz.func16,Tryz.ntmps16
    go_wp2_with fail
    go_ret
    exact ⟨rfl,rfl⟩
def mkR (neg:Bool) (N:Nat) (e:Int):Bool × Nat × Int:=if N=0 then (false,0,0) else (neg,trimM N,e+(trimK N:Int))
theorem trimK_small {N : Nat} (h0 : N ≠ 0) (h : N < 2199023255552) : trimK N ≤ 41 ∧ trimM N ≤ N := by
  obtain ⟨h1, h2⟩ := trim_spec h0
  have hm : 0 < trimM N := by rcases Nat.eq_zero_or_pos (trimM N) with h3 | h3; · rw [h3] at h2; exact absurd rfl h2
                              · exact h3
  have h3 : tenN (trimK N) ≤ N := by
    have := Nat.mul_le_mul_right (tenN (trimK N)) hm
    omega
  have h4 : 2 ^ trimK N ≤ tenN (trimK N) := by
    rw [show tenN (trimK N) = 10 ^ trimK N from rfl]
    exact Nat.pow_le_pow_left (by decide) _
  constructor
  · rcases Nat.lt_or_ge 41 (trimK N) with h5 | h5
    · have h6 := Nat.pow_le_pow_right (show 0 < 2 by decide) h5
      have : (2 : Nat) ^ 42 = 4398046511104 := by decide
      omega
    · exact h5
  · have hp : 0 < tenN (trimK N) := Nat.pos_of_ne_zero (tenN_ne _)
    have := Nat.mul_le_mul_left (trimM N) hp
    omega
theorem mkN_small {neg:Bool} {N:Nat} {e:Int} (h:N<2199023255552) (he:0≤e∧e≤20):mkN neg N e=some (mkR neg N e):=by
  unfold mkN mkR
  by_cases h0:N=0
  · rw [if_pos h0,if_pos h0]
  · obtain ⟨h1,h2⟩:=trimK_small h0 h
    have h3:(limbs (trimM N)).length≤2:=limbs_length_le (Nat.lt_of_le_of_lt h2 (Nat.lt_trans h (by rw [B32_eq];decide)))
    rw [if_neg h0,if_neg h0,if_pos ⟨by omega,by omega,by omega⟩]
theorem numK_small {m k:Nat} {e:Int} (hk:k<1099511627776) (he:0≤e∧e≤20):numK m k e=.inl (bnumC (mkR (decide (m=1)) (cbSize (decide (m=1),k)) e)):=by
  unfold numK cbNum
  rw [mkN_small (by unfold cbSize;split <;> simp only <;> omega) he]
theorem refMake_small {w0 w:World} {l:List Ent} {v:Value} {L N:Nat} {xs:List Nat} (h:Ctx w0 w l) (i:Nat) (hi:l[i]? = some ⟨v,L,N,xs⟩) (hL:L≤1000000) (neg:Bool) (e:Int) (hN:N<2199023255552) (he:0≤e∧e≤20) :
    Calls Tryz.prog 17 #[.bool neg,v,.int .i64 e] w (MadePost w0 l L (mkR neg N e).1 (mkR neg N e).2.1 (mkR neg N e).2.2 true):=by
  unfold mkR
  by_cases h0:N=0
  · subst h0
    rw [if_pos rfl]
    exact refMake_zero h i hi hL neg e
  · rw [if_neg h0]
    obtain ⟨h1,h2⟩:=trimK_small h0 hN
    have h3:(limbs (trimM N)).length≤2:=limbs_length_le (Nat.lt_of_le_of_lt h2 (Nat.lt_trans hN (by rw [B32_eq];decide)))
    obtain ⟨h4,h5⟩:=trim_spec h0
    exact refMake_yes h i hi hL neg e (trimM N) (trimK N) h4 h5 (by omega) _ rfl (by simp only;omega) (by simp only;omega)
theorem limbs10_any (k:Nat) (neg:Bool) (w:World) (hk:k<1099511627776) :
    Calls Tryz.prog 18 #[.int .u64 (k:Int),.bool neg] w fun r w'=>∃ v xs,r=.returned v∧ListOk w' v 600 (cbSize (neg,k)) xs∧Below w.heap.size w w':=by
  have HL:=Lib.hid (fun k hk=>lits2_ok w k hk)
  have HB:=Lib.hid (fun o:Obj=>((Below.refl w.heap.size w).alloc (Nat.le_refl _) o))
  cases neg with
  | false =>
    go_enter Tryz.func18,Tryz.ntmps18
    go_wp2_with fail
    go_ret
    exact ⟨_,_,rfl,HL.out k (by omega),HB.out _⟩
  | true =>
    have e1:((k:Int)+1) % 18446744073709551616=((k+1:Nat):Int):=by omega
    go_enter Tryz.func18,Tryz.ntmps18
    go_wp2_with fail
    go_ret
    have h:=HL.out (k+1) (by omega)
    rw [show ((k+1:Nat):Int)=(k:Int)+1 from by omega] at h
    exact ⟨_,_,rfl,h,HB.out _⟩
end Go.Proofs.YtbkfhdbocgjakaaGreatDoor
