/- Texts of the claim. -/
import Derived.Test.YtnacbakcalcgaaaGreatDoorIB
set_option linter.unusedVariables false
set_option linter.unusedSimpArgs false
set_option maxHeartbeats 8000000
set_option maxRecDepth 100000
namespace Go.Proofs.YtnacbakcalcgaaaGreatDoor
open Go.RowKit Go.Lib Go.Sort
def awP:List Nat:=[129,161,97,202,63,192,0,0]
theorem awP_mem:pkMembers (pkValue 64) 1 [] [] [161,97,202,63,192,0,0] 1=.inl (([⟨#[97]⟩],[awN]),[],2):=by kernel_rfl
theorem awP_val:pkValue 65 awP 0=.inl (awT10,[],2):=by
  unfold awP
  rw [valP_on (h:=(10,1)) (r:=[161,97,202,63,192,0,0]) (by kernel_rfl) (by decide) (by decide)]
  have h:=awP_mem
  unfold pkBehind pkObj
  rw [if_neg (by decide),if_neg (by decide),if_neg (by decide),if_neg (by decide),if_neg (by decide),if_neg (by decide),if_neg (by decide),if_neg (by decide),if_neg (by decide),if_neg (by decide),if_pos (by decide)]
  simp only
  rw [if_neg (by decide),h]
  simp only
  rw [if_pos (by simp),awC_sort]
  rfl
theorem awP_dec:pkDecode awP=.inl awT10:=by
  unfold pkDecode
  rw [if_neg (by decide),awP_val]
  rfl
theorem awP_enc:encP awT10=some awP:=by
  have h1:encP awN=some [202,63,192,0,0]:=by kernel_rfl
  rw [encP_eq]
  show objP [⟨#[97]⟩] ([awN].map encP)=some awP
  rw [List.map_cons,List.map_nil,h1]
  decide
theorem encP_bare (t:MT):encP t.bare=encP t:=by
  refine MT.ind (P:=fun t=>encP t.bare=encP t) ?_ t
  intro t ih
  rw [encP_eq t.bare,encP_eq t,MT.bare_eq]
  obtain ⟨c,m,ks,vs⟩:=t
  simp only [MT.c,MT.m,MT.k,MT.v,Cel.bare] at ih ⊢
  have e:(vs.map MT.bare).map encP=vs.map encP:=by
    rw [List.map_map]
    exact List.map_congr_left ih
  rw [e,List.length_map]
  rfl
theorem encoP_of {t u:MT} (h:t.bare=u):encoP t=encoP u:=by
  have h1:checkB t=checkB u:=by rw [← checkB_bareC t,h]
  have h2:encP t=encP u:=by rw [← encP_bare t,h]
  unfold encoP
  rw [h1,h2]
theorem awP_encode {t:MT} (h:t.bare=awT10):encoP t=.inl awP:=by
  rw [encoP_of h,encoP_ok awC_check awP_enc (by decide)]
/-- The document's example. -/
theorem awake12_any (w:World) (hU:UT w) (hT:DB w):Calls Tryz.prog 25 #[] w (BoolBelow true w):=by
  have hba:Below w.heap.size w (w.alloc (.cells #[.int .u8 129,.int .u8 161,.int .u8 97,.int .u8 202,.int .u8 63,.int .u8 192,.int .u8 0,.int .u8 0] 5 (8,9))):=(Below.refl _ _).alloc (Nat.le_refl _) _
  have kc:=fun (w:World) (C:Array Value) (n c:Nat)=>Lib.run_convert_bytes_const (P:=Tryz.prog) w 22 5 C n c Tryz.underlying22 Tryz.underlying5
  have KD:=Lib.hid (decode_pk (some ⟨w.heap.size,0,none⟩) 8 8 awP _ (hU.below hba) rfl (Nat.le_refl _) (by unfold Okb awP;decide) (rd_mark w 5 [.int .u8 129,.int .u8 161,.int .u8 97,.int .u8 202,.int .u8 63,.int .u8 192,.int .u8 0,.int .u8 0] (8,9)) (.inr ⟨_,_,rfl⟩))
  rw [awP_dec] at KD
  have HU:=Lib.hid hU;have HT:=Lib.hid hT;have HBA:=Lib.hid hba
  clear hU hT hba
  unfold DecC at KD
  go_enter Tryz.func25,Tryz.ntmps25
  go_wp2_with fail
  refine KD.out.mono ?_
  rintro r w1 ⟨t,rfl,hbare,hR,hb⟩
  replace hb:=below_on HBA.out hb
  have KE:=Lib.hid (fun W (h:Below w1.heap.size w1 W)=>encode_pk t W (hR.on h) (HU.out.below (hb.trans (h.mono hb.size))) (HT.out.below (hb.trans (h.mono hb.size))))
  rw [awP_encode hbare] at KE
  unfold EnP at KE
  obtain ⟨hvn,vb,vo,hva,hce⟩:=awC_cells hbare hR
  have hvlt:=lt_of_cell hce
  have HB:=Lib.hid hb
  clear hb hR hbare KD
  generalize t.c=c at *
  obtain ⟨k,b0,neg,ma,mn,mc,e,s,ka,kn,kc,va,vn,vc⟩:=c
  unfold Cel.val at *
  simp only at hvn hva
  subst hvn hva
  have hb2:Below w1.heap.size w1 (w1.alloc (.cells #[.int .i64 k,.bool b0,.bool neg,.slice ma mn mc,.int .i64 e,.string s,.slice ka kn kc,.slice (some ⟨vb,vo,none⟩) 1 vc] 29)):=(Below.refl _ _).alloc (Nat.le_refl _) _
  have KE2:=Lib.hid (KE.out _ hb2)
  have HB2:=Lib.hid hb2
  have q2:=heap_alloc_new w1 (.cells #[.int .i64 k,.bool b0,.bool neg,.slice ma mn mc,.int .i64 e,.string s,.slice ka kn kc,.slice (some ⟨vb,vo,none⟩) 1 vc] 29)
  have Q2:=Lib.hid q2
  clear hb2 KE q2
  go_wp2_with fail
  refine KE2.out.mono ?_
  rintro r w3 ⟨v,rfl,ho,hb3⟩
  obtain ⟨ad3,cap3,rfl,hc3,hr3,_,_,h03⟩:=own_viewN ho
  have HCV:=Lib.hid (conv_bv w3 ad3 8 cap3 awP rfl hr3)
  rw [show strB awP=⟨#[129,161,97,202,63,192,0,0]⟩ from rfl] at HCV
  have x3:=(hb3.cell (p:=⟨vb,vo+4,none⟩) (by simp;omega)).trans ((HB2.out.cell (p:=⟨vb,vo+4,none⟩) hvlt).trans hce)
  have q3:=(hb3.block _ (by simp)).trans Q2.out
  have HB3:=Lib.hid (HB.out.trans ((HB2.out.trans (hb3.mono HB2.out.size)).mono HB.out.size))
  clear hb3 KE2 ho hr3 h03 hc3 hce
  have y7:=(boxC q3 7 _ rfl).1
  clear q3
  have el:awP.length=8:=rfl
  rw [el]
  go_wp2_with fail
  rw [HCV.out]
  simp only [Result.andThen]
  rw [Oper.upon_value]
  go_wp2_with fail
  go_ret
  exact BoolBelow.mk rfl HB3.out


theorem okb_append {a b:List Nat} (h:Okb a) (k:Okb b):Okb (a++b):=fun x hx=>by exact (List.mem_append.1 hx).elim (h x) (k x)
theorem wordP_ne {ng:Bool} {N:Nat} {e:Int} {k x:Nat} (h:wordP ng N e=some (k,x)):numP ng N e ≠ none:=by
  unfold numP;rw [h];simp
theorem whole_form {ng:Bool} {N:Nat} {e:Int} (h:wholeP ng N e ≠ none):numP ng N e ≠ none:=by
  cases h1:wholeP ng N e with
  | none=>exact absurd h1 h
  | some p=>exact wordP_ne (k:=p.1) (x:=p.2) (by unfold wordP;rw [h1])
theorem float_form {ng:Bool} {N:Nat} {e:Int} (h:toF 32 ng N e ≠ none∨toF 64 ng N e ≠ none):numP ng N e ≠ none:=by
  unfold numP wordP
  cases wholeP ng N e with
  | some p=>simp
  | none =>
    cases h2:toF 32 ng N e with
    | some y=>simp
    | none =>
      cases h3:toF 64 ng N e with
      | some y=>simp
      | none=>rw [h2,h3] at h;simp at h
theorem bits_le64 {M k:Nat} (h:M<2 ^ k):bitsN M≤k:=by
  by_cases h0:M=0
  · subst h0;rw [bitsN_z];omega
  · obtain ⟨t,h1,h2,_⟩:=bitsN_bounds h0
    rw [h1]
    have:=(Nat.pow_lt_pow_iff_right (show 1<2 by decide)).1 (Nat.lt_of_le_of_lt h2 h)
    omega
theorem be_okb (k n:Nat):Okb (be k n):=be_lt k n
theorem mlay_lt (k n:Nat) (hk:n<18446744073709551616):(mlay k n).1<256:=by
  have h2:∀ q,stepN q≤3:=stepN_le
  have h3:∀ q,q<4294967296→stepN q≤2:=fun q h=>by
    unfold stepN;split <;> (try split) <;> (try split) <;> omega
  have hI:∀ (c:Prop) [Decidable c] (a b:Nat × Nat),(c→a.1<256)→(¬ c→b.1<256)→(if c then a else b).1<256:=by
    intro c _ a b h h'
    split
    · exact h ‹_›
    · exact h' ‹_›
  have e1:=h2 n
  have e2:=h2 ((18446744073709551615 - n)*2)
  have e3:=h3 (n % 4294967296) (Nat.mod_lt _ (by decide))
  unfold mlay
  repeat' (refine hI _ _ _ (fun _=>?_) (fun _=>?_))
  all_goals (simp only)
  all_goals omega
theorem mput_okb (k:Int) (n:Nat) (hk:n<18446744073709551616):Okb (mput k n):=by
  unfold mput
  split
  · intro x hx;cases hx
  · intro x hx
    rcases List.mem_cons.1 hx with rfl | hx
    · exact mlay_lt _ _ hk
    · exact be_okb _ _ x hx
theorem strP_okb (m:Nat) (s:ByteArray) (hz:s.size≤2000):Okb (strP m s):=okb_append (mput_okb _ _ (by omega)) (strN_okb s)
theorem catP_okb:∀ {ps:List (Option (List Nat))} {q:List Nat},(∀ p,some p∈ps→Okb p)→catP ps=some q→Okb q:=by
  intro ps
  induction ps with
  | nil=>intro q _ h;simp only [catP,Option.some.injEq] at h;subst h;intro x hx;cases hx
  | cons o r ih =>
    intro q hp h
    obtain ⟨p,q2,rfl,h2,rfl⟩:=catP_cons h
    exact okb_append (hp p (by simp)) (ih (fun p hp'=>hp p (by simp [hp'])) h2)
theorem numP_okb {ng:Bool} {xs:List Nat} {e:Int} {p:List Nat} (ho:Okl xs) (h:chkB ng xs e=true) (hp:numP ng (val xs) e=some p):Okb p:=by
  unfold numP at hp
  split at hp
  · cases hp
  · rename_i k x hw
    cases hp
    exact mput_okb _ _ (wordP_bd (chk_tens ho h) hw).1
theorem encP_okb (t:MT):∀ d p,SndC t d→CohC t→encP t=some p→Okb p:=by
  refine MT.ind (P:=fun t=>∀ d p,SndC t d→CohC t→encP t=some p→Okb p) ?_ t
  intro t ih d p hs hc hp
  obtain ⟨_,hso⟩:=hs.own
  have hV:∀ q,some q∈t.v.map encP→Okb q:=fun q hq=>by
    obtain ⟨u,hu,he⟩:=List.mem_map.1 hq
    exact ih u hu (d+1) q (hs.part hu) (hc.part hu) he
  rw [encP_eq] at hp
  split at hp
  · cases hp;exact mput_okb _ _ (by decide)
  split at hp
  · cases hp;unfold truthP;exact mput_okb _ _ (by decide)
  split at hp
  next c3=>exact numP_okb hc.own.2.1 (bare_numC hc c3 hso).1 hp
  split at hp
  next c4=>cases hp;exact strP_okb _ _ (bare_textC hc c4 hso).1.2
  split at hp
  next c5=>cases hp;exact strP_okb _ _ (bare_bytesC hc c5 hso).1
  split at hp
  next c6 =>
    have:=(bare_arrC hc c6 hso).1
    unfold arrP at hp
    split at hp
    · cases hp
    · rename_i q hq
      cases hp
      exact okb_append (mput_okb _ _ (by omega)) (catP_okb hV hq)
  split at hp
  next c7 =>
    obtain ⟨h1,h3,h4,_⟩:=bare_objC hc c7 hso
    unfold objP at hp
    split at hp
    · cases hp
    · rename_i q hq
      cases hp
      refine okb_append (mput_okb _ _ (by omega)) (catP_okb (fun p hp=>?_) hq)
      rw [List.mem_iff_getElem] at hp
      obtain ⟨i,hi,he⟩:=hp
      rw [List.length_zipWith,List.length_map] at hi
      rw [List.getElem_zipWith,List.getElem_map] at he
      unfold mbrP at he
      split at he
      · cases he
      · rename_i q0 hq0
        cases he
        exact okb_append (strP_okb _ _ (okN_valid (riseC_ok h4 _ (List.getElem_mem _))).1) (hV q0 (List.mem_map.2 ⟨_,List.getElem_mem _,hq0⟩))
  · cases hp;intro x hx;cases hx
theorem odd_odd {N:Nat} (h:N % 2=1):odd N=N:=(tz_unique (k:=0) (by rw [Nat.pow_zero,Nat.mul_one]) h).2
theorem odd_nofloat {width:Int} {ng:Bool} {N:Nat} (h:N % 2=1) (hb:9007199254740992≤N):toF width ng N 0=none:=by
  cases ht:toF width ng N 0 with
  | none=>rfl
  | some y =>
    exfalso
    unfold toF at ht
    split at ht
    · cases ht
    · rename_i e f hl
      have hL:=layOf_lay hl
      rw [if_neg (by omega)] at ht
      split at ht
      · cases ht
      · rename_i y2 h2
        obtain ⟨h1,hk,hM,hE⟩:=ex_to hL (by omega) h2
        obtain ⟨P,p1,p2,p3,p4⟩:=exM_back hk
        rw [hM,hE] at p1
        have hP:P=N:=by
          unfold fives at p1
          rw [if_pos (Int.le_refl 0)] at p1
          simpa using p1.symm
        rw [hP,odd_odd h] at p3
        have h4:=sizeF_lt e f y2
        have h5:odd (sizeF e f y2)≤sizeF e f y2:=by unfold odd;exact Nat.div_le_self _ _
        have h6:2 ^ (f+1)≤9007199254740992:=by
          rcases hL with ⟨_,rfl⟩ | ⟨_,rfl⟩ | ⟨_,rfl⟩ <;> decide
        omega
theorem some_of {o:Option Nat} (h:o.isSome=true):o ≠ none:=by
  intro e;rw [e] at h;cases h
theorem pow_form (ng:Bool) (k:Nat) (h:64≤k) (h2:k<70):toF 32 ng (2 ^ k) 0 ≠ none:=by
  have:k=64∨k=65∨k=66∨k=67∨k=68∨k=69:=by omega
  have key:toN 8 23 (2 ^ k) 0 ≠ none:=by
    rcases this with rfl | rfl | rfl | rfl | rfl | rfl <;> exact some_of (by kernel_rfl)
  unfold toF
  rw [show layOf 32=some (8,23) from rfl]
  simp only
  rw [if_neg (Nat.ne_of_gt (Nat.pow_pos (by decide)))]
  split
  · rename_i hn;exact absurd hn key
  · simp
theorem bits_pow {N k:Nat} (h1:2 ^ k≤N) (h2:N<2 ^ (k+1)):bitsN N=k+1:=by
  have h0:N ≠ 0:=by have:=Nat.pow_pos (n:=k) (show 0<2 by decide);omega
  have:=bits_le64 h2
  obtain ⟨t,e,_,h3⟩:=bitsN_bounds h0
  have:=(Nat.pow_lt_pow_iff_right (show 1<2 by decide)).1 (Nat.lt_of_le_of_lt h1 h3)
  omega
theorem whole_mk {ng:Bool} {N:Nat} {r:Bool × Nat × Int} (h:mkN ng N 0=some r) (hb:N<2 ^ 80) :
    wholeP r.1 r.2.1 r.2.2=if N=0 then some (4,0) else if ng then (if bitsN (N - 1)≤63 then some (5,(18446744073709551616 - N) % 18446744073709551616) else none) else if bitsN N≤64 then some (4,N) else none:=by
  have h80:=bits_le64 hb
  unfold mkN at h
  split at h
  · rename_i h0
    cases h
    rw [if_pos h0]
    have hz:bitsN 0=0:=bitsN_z
    unfold wholeP intAt
    simp [hz]
  · rename_i h0
    split at h
    · cases h
      rw [if_neg h0]
      have hs:=(trim_spec h0).1
      unfold wholeP intAt
      simp only
      rw [Int.zero_add,Int.toNat_natCast,← hs,if_pos ⟨by omega,by omega⟩]
    · cases h
theorem edge_pow {ng:Bool} {k:Nat} {r:Bool × Nat × Int} (hk:k<70) (h:mkN ng (2 ^ k) 0=some r):numP r.1 r.2.1 r.2.2 ≠ none:=by
  have hp:0<2 ^ k:=Nat.pow_pos (by decide)
  have h80:2 ^ k<2 ^ 80:=Nat.pow_lt_pow_right (by decide) (by omega)
  by_cases h64:k<64
  · refine whole_form ?_
    rw [whole_mk h h80,if_neg (by omega)]
    have hb:bitsN (2 ^ k)=k+1:=bits_pow (Nat.le_refl _) (Nat.pow_lt_pow_right (by decide) (by omega))
    have hb2:bitsN (2 ^ k - 1)≤k:=bits_le64 (by omega)
    cases ng with
    | true=>simp only [if_true];rw [if_pos (by omega)];simp
    | false=>simp only [Bool.false_eq_true,if_false];rw [if_pos (by omega)];simp
  · have h10:2 ^ k % 10 ≠ 0:=by
      have:k=64∨k=65∨k=66∨k=67∨k=68∨k=69:=by omega
      rcases this with rfl | rfl | rfl | rfl | rfl | rfl <;> decide
    obtain ⟨e1,e2⟩:=trim_unique (N:=2 ^ k) (m:=2 ^ k) (k:=0) (by simp [tenN]) h10
    unfold mkN at h
    rw [if_neg (by omega),e1,e2] at h
    split at h
    · cases h
      exact float_form (.inl (pow_form ng k (by omega) hk))
    · cases h
theorem edge_near {ng:Bool} {k N:Nat} {r:Bool × Nat × Int} (hk:k<70) (hN:N=2 ^ k+1∨N+1=2 ^ k) (h:mkN ng N 0=some r):numP r.1 r.2.1 r.2.2 ≠ none ↔ (if ng then bitsN N≤63 else bitsN N≤64):=by
  have hp:0<2 ^ k:=Nat.pow_pos (by decide)
  have h70:2 ^ k<2 ^ 70:=Nat.pow_lt_pow_right (by decide) hk
  have h80:N<2 ^ 80:=by omega
  have hw:=whole_mk h h80
  constructor
  · intro hf
    refine Classical.byContradiction fun hn=>hf ?_
    have hbig:2 ^ 63≤N:=by
      refine Nat.le_of_not_lt fun hlt=>hn ?_
      have:=bits_le64 hlt
      split <;> omega
    have hodd:N % 2=1:=by
      obtain ⟨j,rfl⟩:∃ j,k=j+1:=⟨k - 1,by
        have:k ≠ 0:=by rintro rfl;omega
        omega⟩
      rw [Nat.pow_succ] at hN
      omega
    obtain ⟨e1,e2⟩:=trim_unique (N:=N) (m:=N) (k:=0) (by simp [tenN]) (by omega)
    have hwn:wholeP r.1 r.2.1 r.2.2=none:=by
      rw [hw,if_neg (by omega)]
      cases ng with
      | true =>
        simp only [if_true] at hn ⊢
        rw [if_neg]
        intro h63
        have:=bits_lt h63
        omega
      | false =>
        simp only [Bool.false_eq_true,if_false] at hn ⊢
        rw [if_neg hn]
    have hr:r=(ng,N,0):=by
      unfold mkN at h
      rw [if_neg (by omega),e1,e2] at h
      split at h
      · cases h;rfl
      · cases h
    subst hr
    unfold numP wordP
    rw [hwn]
    simp only
    rw [odd_nofloat hodd (by omega),odd_nofloat hodd (by omega)]
  · intro hb
    refine whole_form ?_
    rw [hw]
    split
    · simp
    · cases ng with
      | true =>
        simp only [if_true] at hb ⊢
        have:=bits_mono (show N - 1≤N by omega)
        rw [if_pos (by omega)];simp
      | false =>
        simp only [Bool.false_eq_true,if_false] at hb ⊢
        rw [if_pos hb];simp
end Go.Proofs.YtnacbakcalcgaaaGreatDoor
namespace Go.Proofs.YtnacbakcalcgaaaGreatDoor
open Go.RowKit
theorem refNorm_any (ad:Option Addr) (n cap:Nat) (xs:List Nat) (w:World) (hn:xs.length=n) (hcap:n≤cap) (hm:n≤100000000) (ho:Okl xs) (hr:Rd w ad xs) :
    Calls Tryz.prog 60 #[.slice ad n cap] w (Gives (val xs) w):=by
  have hcl:=cutLen_le xs n
  have hcv:=cut_limbs ho
  rw [hn] at hcv
  have hr':=hr.take (cutLen xs n)
  have hlc:(xs.take (cutLen xs n)).length=cutLen xs n:=by rw [List.length_take];omega
  have hot:=ho.take (cutLen xs n)
  have HN:=Lib.hid hn;clear hn
  have HF:Hid (∀ v w1,Own w.heap.size w1 v ([]++xs.take (cutLen xs n))→Below w.heap.size w w1→Gives (val xs) w (.returned v) w1):=fun v w1 h1 h2=>⟨v,rfl,by rw [← hcv];simpa using h1,h2⟩
  clear hcv
  have HC:=Lib.hid (rfl:cutLen xs n=cutLen xs n)
  generalize hc0:cutLen xs n=c at *
  have HC0:=Lib.hid hc0;clear hc0 HC
  generalize hY:xs.take c=Y at *
  clear hY
  have HLC:=Lib.hid hlc;clear hlc
  go_enter Tryz.func60,Tryz.ntmps60
  go_wp2
  go_loop [3] (fun i=>∃ k:Nat,k≤n∧i=.int .i64 k∧cutLen xs k=c) (fun i=>(intOf i).toNat)
  case atStart=>exact ⟨n,Nat.le_refl _,rfl,HC0.out⟩
  case round =>
    obtain ⟨k,hk,rfl,he⟩:=hrel
    have HE:=Lib.hid he;clear he
    rcases k with _ | k
    · have h0:c=0:=by rw [← HE.out];rfl
      subst h0
      go_wp2_with (at_builtin;refine wpl_append_rd rfl _ _ rfl w.heap.size _ [] rfl (Own.nil _ _) _ _ _ Y rfl hot HLC.out hr' (by simp) (Nat.le_refl _) ?_;intro v' w' hv hb)
      go_ret
      exact HF.out _ _ hv hb
    · obtain ⟨b,o,hadd,_,hc⟩:=hr k (by rw [HN.out];omega)
      subst hadd
      generalize hx:xs.getD k 0=x at *
      have HX:=Lib.hid hx;clear hx
      by_cases hz:x=0
      · go_wp2
        go_round
        case rel=>exact ⟨k,by omega,rfl,by rw [← HE.out];simp only [cutLen];rw [if_pos (by rw [HX.out];exact hz)]⟩
        case measure=>simp [intOf]
      · have h0:c=k+1:=by rw [← HE.out];simp only [cutLen];rw [if_neg (by rw [HX.out];exact hz)]
        subst h0
        go_wp2_with (at_builtin;refine wpl_append_rd rfl _ _ rfl w.heap.size _ [] rfl (Own.nil _ _) _ _ _ Y rfl hot HLC.out hr' (by simp;omega) (Nat.le_refl _) ?_;intro v' w' hv hb)
        go_ret
        exact HF.out _ _ hv hb
theorem limb_any (ad:Option Addr) (n cap:Nat) (xs:List Nat) (i:Nat) (w:World) (hn:xs.length=n) (hcap:n≤cap) (hm:n≤1000000000) (hi:i≤1000000000) (ho:Okl xs) (hr:Rd w ad xs) :
    Calls Tryz.prog 59 #[.slice ad n cap,.int .i64 (i:Int)] w fun e w'=>e=.returned (.int .u64 ((xs.getD i 0:Nat):Int))∧w'=w:=by
  by_cases hin:i<n
  · obtain ⟨b,o,rfl,_,hc⟩:=hr i (by omega)
    have hin':(i:Int)<(n:Int):=by omega
    have hx:xs.getD i 0<4294967296:=ho.getD i
    generalize xs.getD i 0=x at *
    go_enter Tryz.func59,Tryz.ntmps59
    go_wp2
    go_ret
    exact ⟨rfl,rfl⟩
  · have hin':¬ ((i:Int)<(n:Int)):=by omega
    have hx:xs.getD i 0=0:=getD_out (by omega)
    rw [hx]
    go_enter Tryz.func59,Tryz.ntmps59
    go_wp2
    go_ret
    exact ⟨rfl,rfl⟩
def pad (xs:List Nat) (m:Nat):List Nat:=xs++List.replicate (m - xs.length) 0
theorem pad_len {xs:List Nat} {m:Nat} (h:xs.length≤m):(pad xs m).length=m:=by simp [pad];omega
theorem pad_ok {xs:List Nat} (h:Okl xs) (m:Nat):Okl (pad xs m):=h.append (Okl.replicate _)
theorem pad_val (xs:List Nat) (m:Nat):val (pad xs m)=val xs:=val_behind xs _
theorem pad_getD (xs:List Nat) (m i:Nat):(pad xs m).getD i 0=xs.getD i 0:=by
  unfold pad
  simp only [List.getD,List.getElem?_append,List.getElem?_replicate]
  by_cases h:i<xs.length
  · simp [h]
  · simp only [h,if_false]
    split <;> simp [List.getElem?_eq_none (by omega:xs.length≤i)]
theorem val_top_pad {xs ys:List Nat} (hx:Okl xs) (hy:Okl ys) {m:Nat} (h1:xs.length≤m) (h2:ys.length≤m) (j:Nat) (hj:j<m) (hs:∀ i,j+1≤i→xs.getD i 0=ys.getD i 0) (h:xs.getD j 0<ys.getD j 0):val xs<val ys:=by
  rw [← pad_val xs m,← pad_val ys m]
  exact val_top_lt (pad_ok hx m) (pad_ok hy m) (by rw [pad_len h1,pad_len h2]) j (by rw [pad_len h1];exact hj) (fun i hi=>by rw [pad_getD,pad_getD];exact hs i hi) (by rw [pad_getD,pad_getD];exact h)
theorem val_same_pad {xs ys:List Nat} {m:Nat} (h1:xs.length≤m) (h2:ys.length≤m) (hs:∀ i,0≤i→xs.getD i 0=ys.getD i 0):val xs=val ys:=by
  rw [← pad_val xs m,← pad_val ys m]
  exact congrArg val (list_eq_of_getD (xs:=pad xs m) (ys:=pad ys m) (by rw [pad_len h1,pad_len h2]) (fun i hi=>by rw [pad_getD,pad_getD];exact hs i hi))
theorem refCmp_any (ad:Option Addr) (n cap:Nat) (xs:List Nat) (ad':Option Addr) (n' cap':Nat) (ys:List Nat) (w:World) (hn:xs.length=n) (hcap:n≤cap) (hm:n≤100000000) (ho:Okl xs) (hr:Rd w ad xs)
    (hn':ys.length=n') (hcap':n'≤cap') (hm':n'≤100000000) (ho':Okl ys) (hr':Rd w ad' ys) :
    Calls Tryz.prog 61 #[.slice ad n cap,.slice ad' n' cap'] w (CmpPost (val xs) (val ys) w):=by
  have KA:=Lib.hid (fun (i:Nat) q (hi:i≤1000000000)=>limb_any ad n cap xs i (w.drewN q) hn hcap (by omega) hi ho (hr.drewN q))
  have KB:=Lib.hid (fun (i:Nat) q (hi:i≤1000000000)=>limb_any ad' n' cap' ys i (w.drewN q) hn' hcap' (by omega) hi ho' (hr'.drewN q))
  obtain ⟨m,hmm⟩:∃ m,m=max n n':=⟨_,rfl⟩
  have hl1:xs.length≤m:=by omega
  have hl2:ys.length≤m:=by omega
  have hm9:m≤100000000:=by omega
  have HV1:=Lib.hid (fun j hj hs=>val_top_pad ho ho' hl1 hl2 j hj hs)
  have HV2:=Lib.hid (fun j hj hs=>val_top_pad ho' ho hl2 hl1 j hj hs)
  have HV3:=Lib.hid (val_same_pad (xs:=xs) (ys:=ys) hl1 hl2)
  have HA:=Lib.hid ho
  have HB:=Lib.hid ho'
  have H1:=Lib.hid (fun j (h:m≤j)=>getD_out (xs:=xs) (j:=j) (by omega))
  have H2:=Lib.hid (fun j (h:m≤j)=>getD_out (xs:=ys) (j:=j) (by omega))
  have HM:=Lib.hid (show max (n:Int) (n':Int)=(m:Int) by omega)
  clear hn hn' ho ho' hr hr' hl1 hl2 hmm
  generalize val xs=a at *
  generalize val ys=b at *
  go_enter Tryz.func61,Tryz.ntmps61
  go_wp2_with fail
  rw [HM.out]
  go_loopw [5] (fun i wr=>CmpRel xs ys m w i wr) (fun i _=>(intOf i+1).toNat)
  case atStart=>exact ⟨m,0,Nat.le_refl _,rfl,fun j hj=>by rw [H1.out j hj,H2.out j hj],rfl⟩
  case round =>
    obtain ⟨k,q,hk,rfl,hs,rfl⟩:=hrel
    have HS:=Lib.hid hs;clear hs
    rcases k with _ | j
    · have hab:a=b:=HV3.out HS.out
      have H:=Lib.hid (show CmpPost a b w (.returned (.int .i64 0)) (w.drewN q) from ⟨by rw [hab,cmpN_eq],q,rfl⟩)
      clear hab
      rw [show (((0:Nat):Int) - 1) = -1 from rfl]
      go_wp2
      go_ret
      exact H.out
    · rw [show (((j+1:Nat):Int) - 1)=(j:Int) by omega]
      have hv1:=Lib.hid (HV1.out j (by omega) HS.out)
      have hv2:=Lib.hid (HV2.out j (by omega) (fun i hi=>(HS.out i hi).symm))
      have HJ:Hid (xs.getD j 0=ys.getD j 0→∀ i,j≤i→xs.getD i 0=ys.getD i 0):=fun h0 i hi=>by
        by_cases hij:i=j
        · subst hij;exact h0
        · exact HS.out i (by omega)
      have KA':=Lib.hid (fun q=>KA.out j q (by omega))
      have KB':=Lib.hid (fun q=>KB.out j q (by omega))
      clear KA KB HV1 HV2
      generalize xs.getD j 0=x at *
      generalize ys.getD j 0=y at *
      rcases Nat.lt_trichotomy x y with hxy | hxy | hxy
      · have hab:=hv1.out hxy
        have hxy':(x:Int)<(y:Int):=by omega
        have H:=Lib.hid (cmpN_lt hab)
        clear hab HJ
        go_wp2_with fail
        refine (KA'.out q).mono ?_
        rintro e w' ⟨rfl,rfl⟩
        go_wp2_with fail
        refine (KB'.out _).mono ?_
        rintro e w' ⟨rfl,rfl⟩
        go_wp2
        go_ret
        exact ⟨by rw [H.out];rfl,_,rfl⟩
      · subst hxy
        go_wp2_with fail
        refine (KA'.out q).mono ?_
        rintro e w' ⟨rfl,rfl⟩
        go_wp2_with fail
        refine (KB'.out _).mono ?_
        rintro e w' ⟨rfl,rfl⟩
        go_wp2_with fail
        refine (KA'.out q).mono ?_
        rintro e w' ⟨rfl,rfl⟩
        go_wp2_with fail
        refine (KB'.out _).mono ?_
        rintro e w' ⟨rfl,rfl⟩
        go_wp2
        go_roundw
        case rel=>exact ⟨j,_,by omega,by go_num,by first | exact HJ.out rfl | exact HJ.out trivial,rfl⟩
        case measure=>simp [intOf]
      · have hab:=hv2.out hxy
        have hxy':(y:Int)<(x:Int):=by omega
        have H:=Lib.hid (cmpN_gt hab)
        clear hab HJ
        go_wp2_with fail
        refine (KA'.out q).mono ?_
        rintro e w' ⟨rfl,rfl⟩
        go_wp2_with fail
        refine (KB'.out _).mono ?_
        rintro e w' ⟨rfl,rfl⟩
        go_wp2_with fail
        refine (KA'.out q).mono ?_
        rintro e w' ⟨rfl,rfl⟩
        go_wp2_with fail
        refine (KB'.out _).mono ?_
        rintro e w' ⟨rfl,rfl⟩
        go_wp2
        go_ret
        exact ⟨by rw [H.out];rfl,_,rfl⟩
def SMRel (g n:Nat) (xs:List Nat) (d:Nat) (w1:World) (c i:Value) (wr:World):Prop :=
  ∃ (k q:Nat) (zs:List Nat),k≤n∧i=.int .i64 ((k:Int) - 1)∧c=.int .u64 (q:Int)∧q<d∧zs.length=n∧Okl zs∧val (zs.drop k)*d+q=val (xs.drop k)∧wr=put g zs [] w1
def SmallPost (N d:Nat) (w:World) (e:Ending) (w':World):Prop :=
  ∃ v,e=.returned (.tuple #[v,.int .u32 ((N % d:Nat):Int)])∧Own w.heap.size w' v (limbs (N / d))∧Below w.heap.size w w'
theorem sm_step {g n d j q x:Nat} {xs zs:List Nat} {w1:World} (hl:zs.length=n) (hn:xs.length=n) (hj:j+1≤n) (hd:d<B32) (hd0:0<d) (hq:q<d) (hoz:Okl zs) (hx:xs.getD j 0=x) (hxb:x<B32)
    (he:val (zs.drop (j+1))*d+q=val (xs.drop (j+1))) (hb:Blk w1 g (List.replicate n 0) []) :
    SMRel g n xs d w1 (.int .u64 ((wd q x % d:Nat):Int)) (.int .i64 ((j:Int) - 1)) ((put g zs [] w1).setCell ⟨g,j,none⟩ (.int .u32 ((wd q x / d:Nat):Int))):=by
  have hql:wd q x / d<B32:=by
    rw [Nat.div_lt_iff_lt_mul hd0];unfold wd
    have:(q+1)*B32≤d*B32:=Nat.mul_le_mul_right _ hq
    rw [Nat.add_mul,Nat.one_mul] at this
    rw [Nat.mul_comm B32 d];omega
  have hml:wd q x % d<d:=Nat.mod_lt _ hd0
  rw [set_blk (put_blk _ _ hb.lt) _ _ (by omega),put_put]
  refine ⟨j,_,zs.set j (wd q x / d),by omega,rfl,rfl,hml,by rw [List.length_set];exact hl,hoz.set _ _ hql,?_,rfl⟩
  rw [val_drop_succ _ j (by rw [List.length_set];omega),val_drop_succ xs j (by omega),hx,List.drop_set_of_lt (by omega)]
  have e3:(zs.set j (wd q x / d)).getD j 0=wd q x / d:=by simp [List.getD,show j<zs.length by omega]
  rw [e3]
  exact sh_num he (Nat.div_add_mod _ _)
theorem refSmall_any (ad:Option Addr) (n cap:Nat) (xs:List Nat) (d:Nat) (w:World) (hn:xs.length=n) (hcap:n≤cap) (hm:n≤100000000) (ho:Okl xs) (hr:Rd w ad xs) (hd:d<B32) (hd0:0<d) :
    Calls Tryz.prog 99 #[.slice ad n cap,.int .u32 (d:Int)] w (SmallPost (val xs) d w):=by
  have HN:=Lib.hid hn;clear hn
  have hd':=hd
  rw [B32_eq] at hd'
  have hd0':¬ ((d:Int)=0):=by omega
  go_enter Tryz.func99,Tryz.ntmps99
  go_wp2_with (at_make;refine wpl_make _ rfl _ _ rfl _ _ _ _ n rfl rfl rfl rfl (by omega) ?_;intro w1 hB1 hb1)
  have hg1:=hr.apart (Nat.le_refl w.heap.size)
  have hr1:=hr.below hb1
  go_loopw [7,8] (fun c i wr=>SMRel w.heap.size n xs d w1 c i wr) (fun _ i _=>(intOf i+1).toNat)
  case atStart=>exact ⟨n,0,List.replicate n 0,Nat.le_refl _,by go_num,rfl,hd0,by simp,Okl.replicate n,by rw [List.drop_of_length_le (by simp),List.drop_of_length_le (by rw [HN.out];exact Nat.le_refl _)];simp [val],(put_same hB1).symm⟩
  case round =>
    obtain ⟨k,q,zs,hk,rfl,rfl,hq,hl,hoz,he,rfl⟩:=hrel
    have HL:=Lib.hid hl;clear hl
    have HE:=Lib.hid he;clear he
    have hbz:Blk (put w.heap.size zs [] w1) w.heap.size zs []:=put_blk _ _ hB1.lt
    rcases k with _ | j
    · have hv:=HE.out
      simp only [List.drop_zero] at hv
      have hdv:val xs / d=val zs:=by rw [← hv,Nat.mul_comm,Nat.mul_add_div hd0,Nat.div_eq_of_lt hq,Nat.add_zero]
      have hmd:val xs % d=q:=by rw [← hv,Nat.mul_comm,Nat.mul_add_mod,Nat.mod_eq_of_lt hq]
      have HD:=Lib.hid hdv;clear hdv
      have HM:=Lib.hid hmd;clear hmd hv
      have hbl:Below w.heap.size w (put w.heap.size zs [] w1):=put_below hb1 (Nat.le_refl _) _ _
      have KN:=Lib.hid (refNorm_any (some ⟨w.heap.size,0,none⟩) n n zs _ HL.out (Nat.le_refl _) hm hoz hbz.rd_all)
      have hq':q<4294967296:=by omega
      rw [show (((0:Nat):Int) - 1) = -1 from rfl]
      have HBL:=Lib.hid hbl;clear hbl
      generalize put w.heap.size zs [] w1=W at *
      go_wp2_with fail
      refine KN.out.mono ?_
      rintro e w' ⟨v,rfl,hv,hb'⟩
      go_wp2
      go_ret2
      exact ⟨v,by rw [HM.out];rfl,by rw [HD.out];exact hv.mono HBL.out.size,below_on HBL.out hb'⟩
    · rw [show (((j+1:Nat):Int) - 1)=(j:Int) by omega]
      obtain ⟨b,o,rfl,hblt,hc⟩:=(hr1.put (g:=w.heap.size) hg1 zs []) j (by rw [HN.out];omega)
      have hcz:=hbz.cell j (by rw [HL.out];omega)
      have hfz:=hbz.free j
      have hxb:=ho.getD j
      generalize hx:xs.getD j 0=x at *
      have R:=Lib.hid (sm_step (g:=w.heap.size) (w1:=w1) HL.out HN.out hk hd hd0 hq hoz hx hxb HE.out hB1)
      clear hx
      have hq':q<4294967296:=by omega
      have hwl:=wd_lt (Nat.lt_trans hq hd) hxb
      have hwd:(q:Int)*4294967296+(x:Int)=((wd q x:Nat):Int):=by unfold wd;rw [B32_eq];omega
      have hqb:wd q x / d<4294967296:=by
        have:wd q x / d<B32:=by
          rw [Nat.div_lt_iff_lt_mul hd0];unfold wd
          have:(q+1)*B32≤d*B32:=Nat.mul_le_mul_right _ hq
          rw [Nat.add_mul,Nat.one_mul] at this
          rw [Nat.mul_comm B32 d];omega
        rwa [B32_eq] at this
      rw [B32_eq] at hxb
      generalize wd q x=D at *
      have hml:D % d<4294967296:=by have:=Nat.mod_lt D hd0;omega
      go_wp2
      go_roundw
      case rel =>
        have e1:IntKind.u64.wrap ((D:Int) / (d:Int)) % 4294967296=((D / d:Nat):Int):=by
          rw [← Int.natCast_ediv]
          generalize D / d=Q at *
          rw [IntWalk.u64_in _ (by omega)];omega
        rw [e1];exact R.out
      case measure=>simp [intOf]
def RTPost (a:Nat) (w:World) (e:Ending) (w':World):Prop :=
  ∃ v m k,e=.returned (.tuple #[v,.int .i64 ((k:Nat):Int)])∧Own w.heap.size w' v (limbs m)∧Below w.heap.size w w'∧a=m*tenN k∧(a=0→k=0)∧(a ≠ 0→m % 10 ≠ 0)∧k≤400000000
def RTRel (G N:Nat) (w:World) (M:Nat) (lv n:Value) (wr:World):Prop :=
  ∃ k:Nat,n=.int .i64 (k:Int)∧Own G wr lv (limbs M)∧N=M*tenN k∧(N=0→k=0)∧M≤N∧k≤400000000∧Below G w wr
theorem rt_step {N M k n:Nat} (h:N=M*tenN k) (h0:M ≠ 0) (hm:M % 10=0) (hN:N<B32 ^ n) (hn:n≤10000000):N=M / 10*tenN (k+1)∧(N=0→k+1=0)∧k+1≤400000000:=by
  have e:=Nat.div_add_mod M 10
  rw [hm,Nat.add_zero] at e
  have hN0:N ≠ 0:=by rw [h];exact Nat.mul_ne_zero h0 (tenN_ne _)
  have e1:N=M / 10*tenN (k+1):=by
    rw [h];conv=>lhs;rw [← e]
    rw [tenN_succ]
    generalize tenN k=T;generalize M / 10=q;grind
  have h1:M / 10 ≠ 0:=by omega
  have h2:tenN (k+1)≤N:=by rw [e1];exact Nat.le_mul_of_pos_left _ (by omega)
  have:=ten_bound h2 hN
  exact ⟨e1,fun h0=>absurd h0 hN0,by omega⟩
theorem refTrim_any (ad:Option Addr) (n cap:Nat) (xs:List Nat) (w:World) (hn:xs.length=n) (hcap:n≤cap) (hm:n≤10000000) (ho:Okl xs) (hr:Rd w ad xs) :
    Calls Tryz.prog 58 #[.slice ad n cap] w (RTPost (val xs) w):=by
  have KN:=Lib.hid (refNorm_any ad n cap xs w hn hcap (by omega) ho hr)
  have hlen:=limbs_len_le ho
  rw [hn] at hlen
  have hlt:=val_lt ho
  rw [hn] at hlt
  generalize val xs=N at *
  clear ho hr hn
  generalize hG:w.heap.size=G at *
  have HLT:=Lib.hid hlt;clear hlt
  go_enter Tryz.func58,Tryz.ntmps58
  go_wp2_with fail
  refine KN.out.mono ?_
  rintro e w' ⟨v,rfl,hv,hbl⟩
  rw [hG] at hv hbl
  have HV:=Lib.hid hv;have HB:=Lib.hid hbl;clear hv hbl
  go_wp2_with fail
  go_loopg [4,5] N (fun M lv nv wr=>RTRel G N w M lv nv wr)
  case atStart=>exact ⟨0,rfl,HV.out,by rw [tenN_zero,Nat.mul_one],fun _=>rfl,Nat.le_refl _,by omega,HB.out⟩
  case round =>
    clear HV HB
    obtain ⟨k,rfl,hown,hT,hk0,hle,hk4,hbl⟩:=hrel
    obtain ⟨ad2,cap2,hve,hc2,hrd,hadd⟩:=hown.view
    have hll:(limbs gk).length≤n:=Nat.le_trans (limbs_len_mono hle) hlen
    by_cases hM:gk=0
    · subst hM
      rw [limbs_zero] at hve
      subst hve
      have F:=Lib.hid (show RTPost N w (.returned (.tuple #[.slice ad2 0 cap2,.int .i64 ((k:Nat):Int)])) wr from ⟨_,0,k,rfl,by rw [hG];exact hown,by rw [hG];exact hbl,hT,hk0,fun h=>absurd (by rw [hT,Nat.zero_mul]) h,hk4⟩)
      clear hown hrd hadd hT hbl hc2 hll hk0
      go_wp2
      go_ret2
      exact F.out
    · have hpos:(0:Int)<((limbs gk).length:Int):=by
        have:(limbs gk).length ≠ 0:=fun h=>hM ((limbs_nil_iff gk).1 (List.eq_nil_of_length_eq_zero h))
        omega
      have K:=refSmall_any ad2 (limbs gk).length cap2 (limbs gk) 10 wr rfl hc2 (by omega) (limbs_ok gk) hrd (by decide) (by decide)
      rw [val_limbs] at K
      have KS:=Lib.hid K;clear K
      have hGs:G≤wr.heap.size:=Nat.le_trans (by rw [← hG];exact Nat.le_refl _) hbl.size
      have HT:=Lib.hid hT;have HB:=Lib.hid hbl;have HO:=Lib.hid hown;have HK0:=Lib.hid hk0;have HVE:=Lib.hid hve
      subst hve
      clear hown hrd hadd hT hbl hc2 hk0
      go_wp2_with fail
      refine KS.out.mono ?_
      rintro r w1 ⟨v1,rfl,hv1,hb1⟩
      have hv2:=hv1.mono hGs
      have hbl2:=HB.out.trans (hb1.mono hGs)
      have ho2:=HO.out.below hb1
      have h10:gk % 10<10:=Nat.mod_lt _ (by decide)
      have HV2:=Lib.hid hv2;have HB2:=Lib.hid hbl2;have HO2:=Lib.hid ho2
      clear hv1 hb1 hv2 hbl2 KS ho2
      by_cases h0:gk % 10=0
      · have HS:=Lib.hid (rt_step HT.out hM h0 HLT.out hm)
        have hqm:gk / 10<gk:=by omega
        have HQN:=Lib.hid (show gk / 10≤N by omega)
        have hb:((((gk % 10:Nat):Int)) != 0)=false:=by rw [h0];rfl
        have hi:((gk % 10:Nat):Int)=0:=by omega
        generalize gk % 10=r at *
        subst h0
        generalize gk / 10=q at *
        go_wp2
        go_roundg q
        case measure=>exact hqm
        case rel=>exact ⟨k+1,by go_num,HV2.out,HS.out.1,HS.out.2.1,HQN.out,HS.out.2.2,HB2.out⟩
      · have F:=Lib.hid (show RTPost N w (.returned (.tuple #[.slice ad2 (limbs gk).length cap2,.int .i64 ((k:Nat):Int)])) w1 from ⟨_,gk,k,rfl,by rw [hG];exact HO2.out,by rw [hG];exact HB2.out,HT.out,HK0.out,fun _=>h0,hk4⟩)
        have hi:¬ ((gk % 10:Nat):Int)=0:=by omega
        generalize gk % 10=r at *
        go_wp2
        go_ret2
        exact F.out
theorem refTrim_c {w0 w:World} {l:List Ent} {v1:Value} {L1 N1:Nat} {xs:List Nat} (h:Ctx w0 w l) (i:Nat) (hi:l[i]? = some ⟨v1,L1,N1,xs⟩) (h1:L1≤1000000) :
    Calls Tryz.prog 58 #[v1] w fun e w'=>∃ v m k,e=.returned (.tuple #[v,.int .i64 ((k:Nat):Int)])∧N1=m*tenN k∧(N1=0→k=0)∧(N1 ≠ 0→m % 10 ≠ 0)∧k≤400000000∧Ctx w0 w' (⟨v,L1,m,limbs m⟩::l):=by
  obtain ⟨ad,cap,rfl,a2,a3,a4,a5,rfl⟩:=h.get i hi
  refine (refTrim_any ad _ cap xs w rfl a2 (by omega) a4 a5).mono ?_
  rintro e w' ⟨v,m,k,rfl,ho,hb,q1,q2,q3,q4⟩
  refine ⟨v,m,k,rfl,q1,q2,q3,q4,(h.step hb).push (ent_own ho (len_leq a4 ?_ a3))⟩
  rw [q1]
  exact Nat.le_mul_of_pos_right _ (Nat.pow_pos (by decide))
theorem refMake_zero {w0 w:World} {l:List Ent} {v:Value} {L:Nat} {xs:List Nat} (h:Ctx w0 w l) (i:Nat) (hi:l[i]? = some ⟨v,L,0,xs⟩) (hL:L≤1000000) (neg:Bool) (e:Int) :
    Calls Tryz.prog 28 #[.bool neg,v,.int .i64 e] w (MadePost w0 l L false 0 0 true):=by
  have hb1:Below w.heap.size w (w.alloc (.cells #[.bool false,.slice none 0 0,.int .i64 0] 25)):=(Below.refl _ _).alloc (Nat.le_refl _) _
  have h1:=h.step hb1
  have hW:=Lib.hid h.below.size
  have K:=Lib.hid (refTrim_c h1.again i hi (by omega))
  have H1:=Lib.hid h1.below
  clear h h1 hi hb1
  go_enter Tryz.func28,Tryz.ntmps28
  go_wp2_with fail
  refine K.out.mono ?_
  rintro r w1 ⟨t,m,k,rfl,q1,q2,_,_,h2⟩
  have hm:m=0:=by
    rcases Nat.mul_eq_zero.1 q1.symm with h | h
    · exact h
    · exact absurd h (tenN_ne _)
  subst hm
  have hv:=h2.get 0 rfl
  obtain ⟨ad,cap,rfl,_⟩:=hv
  rw [show (limbs 0).length=0 by rw [limbs_zero];rfl] at *
  obtain ⟨hc,hf⟩:=bcell h2.below
  have hz:w.heap.size<w1.heap.size:=by have:=h2.below.size;simp at this;omega
  have H2:=Lib.hid h2;clear h2 q1 q2
  go_wp2
  have H3:=Ctx.back H1.out H2.out
  refine bodyPost_ret (v:=.tuple #[.agg #[.bool false,.slice none 0 0,.int .i64 0],.bool true]) (by simp [results,Tryz.results28,go_sem,hc]) rfl ⟨_,rfl,?_⟩
  have H4:=H3.box3 hW.out (b:=false) (a:=none) (n:=0) (c:=0) (x:=0) (by simp [hc]) (by simp [hc]) (by simp [hc]) (.bool false) (.slice none 0 0) (.int .i64 0)
  exact (H4.drop1).push (ent_nil _ _)
theorem refMake_yes {w0 w:World} {l:List Ent} {v:Value} {L N:Nat} {xs:List Nat} (h:Ctx w0 w l) (i:Nat) (hi:l[i]? = some ⟨v,L,N,xs⟩) (hL:L≤1000000) (neg:Bool) (e:Int)
    (m k:Nat) (hN:N=m*tenN k) (hm:m % 10 ≠ 0) (hlen:(limbs m).length≤90) (x:Int) (hx:e+(k:Int)=x) (hlo:-1200≤x) (hhi:x≤1200) :
    Calls Tryz.prog 28 #[.bool neg,v,.int .i64 e] w (MadePost w0 l L neg m x true):=by
  subst hx
  have hb1:Below w.heap.size w (w.alloc (.cells #[.bool false,.slice none 0 0,.int .i64 0] 25)):=(Below.refl _ _).alloc (Nat.le_refl _) _
  have h1:=h.step hb1
  have hW:=Lib.hid h.below.size
  have K:=Lib.hid (refTrim_c h1.again i hi (by omega))
  have H1:=Lib.hid h1.below
  have hne:m ≠ 0:=by intro h0;rw [h0] at hm;exact hm rfl
  have hlb:(((limbs m).length:Int) == 0)=false:=by
    rw [beq_eq_false_iff_ne]
    intro h0
    exact hne ((limbs_nil_iff m).1 (List.eq_nil_of_length_eq_zero (by omega)))
  have hN0:N ≠ 0:=by rw [hN];exact Nat.mul_ne_zero hne (tenN_ne _)
  have HM:=Lib.hid hm
  have HE:=Lib.hid hN
  have HLEN:=Lib.hid hlen
  clear h h1 hi hb1 hne hm hN hlen
  go_enter Tryz.func28,Tryz.ntmps28
  go_wp2_with fail
  refine K.out.mono ?_
  rintro r w1 ⟨t,m',k',rfl,q1,q2,q3,hk4,h2⟩
  obtain ⟨rfl,rfl⟩:m=m'∧k=k':=ten_unique (by rw [← q1,← HE.out]) HM.out (q3 hN0)
  have hv:=h2.get 0 rfl
  obtain ⟨ad,cap,rfl,a2,a3,a4,a5,a6⟩:=hv
  obtain ⟨hc,hf⟩:=bcell h2.below
  have hz:w.heap.size<w1.heap.size:=by have:=h2.below.size;simp at this;omega
  have H2:=Lib.hid h2;clear h2 q1 q2 q3 a4 a5 a6 a3
  have hl90:=HLEN.out
  generalize hn:(limbs m).length=n at *
  have HN:=Lib.hid hn;clear hn
  have hsum:IntKind.i64.wrap (e+(k:Int))=e+(k:Int):=IntWalk.i64_in _ (by omega)
  have g1:¬ ((90:Int)<(n:Int)):=by omega
  have g2:¬ (e < -1099511627776):=by omega
  have g3:¬ (1099511627776<e):=by omega
  have g4:¬ (1099511627776<(k:Int)):=by omega
  have g5:¬ (e+(k:Int) < -1200):=by omega
  have g6:¬ (1200<e+(k:Int)):=by omega
  go_wp2_with fail
  have H3:=Ctx.back H1.out H2.out
  refine bodyPost_ret (v:=.tuple #[.agg #[.bool neg,.slice ad n cap,.int .i64 (e+(k:Int))],.bool true]) (by simp [results,Tryz.results28,go_sem,hc,hz]) rfl ⟨_,rfl,?_⟩
  exact H3.box3 hW.out (b:=false) (a:=none) (n:=0) (c:=0) (x:=0) (by simp [hc,hz,World.cell?_alloc_lt]) (by simp [hc,hz,World.cell?_alloc_lt]) (by simp [hc,hz,World.cell?_alloc_lt]) _ _ _
theorem val_take_getD (xs:List Nat) (k:Nat):val (xs.take (k+1))=val (xs.take k)+B32 ^ k*xs.getD k 0:=by
  by_cases h:k<xs.length
  · exact val_take_succ xs k h
  · rw [List.take_of_length_le (by omega),List.take_of_length_le (by omega),getD_out (by omega)];simp
def RAInv (xs ys zs:List Nat) (k c:Nat):Prop:=zs.length=k∧Okl zs∧c≤1∧val zs+B32 ^ k*c=val (xs.take k)+val (ys.take k)
theorem RAInv.next {xs ys zs:List Nat} {k c:Nat} (h:RAInv xs ys zs k c) (hx:Okl xs) (hy:Okl ys) :
    RAInv xs ys (zs++[(c+xs.getD k 0+ys.getD k 0) % 4294967296]) (k+1) ((c+xs.getD k 0+ys.getD k 0) / 4294967296):=by
  obtain ⟨h1,h2,h3,h4⟩:=h
  have b1:=hx.getD k
  have b2:=hy.getD k
  rw [B32_eq] at b1 b2
  refine ⟨by simp [h1],h2.append (Okl.cons (by rw [B32_eq];omega) Okl.nil),by omega,?_⟩
  rw [val_take_getD xs,val_take_getD ys,val_append,h1,Nat.pow_succ]
  generalize xs.getD k 0=x at *
  generalize ys.getD k 0=y at *
  have e:val [(c+x+y) % 4294967296]=(c+x+y) % 4294967296:=by simp [val]
  rw [e,Nat.mul_assoc,Nat.add_assoc,← Nat.mul_add]
  have e2:(c+x+y) % 4294967296+B32*((c+x+y) / 4294967296)=c+x+y:=by rw [B32_eq];omega
  rw [e2,Nat.mul_add,Nat.mul_add]
  generalize B32 ^ k*x=p at *
  generalize B32 ^ k*y=q at *
  generalize B32 ^ k*c=r at *
  omega
theorem RAInv.start (xs ys:List Nat):RAInv xs ys [] 0 0:=⟨rfl,Okl.nil,by omega,by simp [val]⟩
theorem RAInv.done {xs ys zs:List Nat} {m c:Nat} (h:RAInv xs ys zs (m+1) c) (hx:Okl xs) (hy:Okl ys) (h1:xs.length≤m) (h2:ys.length≤m):val zs=val xs+val ys:=by
  obtain ⟨a1,a2,a3,a4⟩:=h
  rw [List.take_of_length_le (by omega),List.take_of_length_le (by omega)] at a4
  have b1:=Nat.lt_of_lt_of_le (val_lt hx) (Nat.pow_le_pow_right (show 0<B32 by decide) h1)
  have b2:=Nat.lt_of_lt_of_le (val_lt hy) (Nat.pow_le_pow_right (show 0<B32 by decide) h2)
  rcases Nat.eq_zero_or_pos c with h0 | h0
  · subst h0;rw [Nat.mul_zero,Nat.add_zero] at a4;exact a4
  · obtain rfl:c=1:=by omega
    rw [Nat.pow_succ] at a4
    generalize B32 ^ m=P at *
    have:P*2≤P*B32:=Nat.mul_le_mul_left _ (by decide)
    omega
end Go.Proofs.YtnacbakcalcgaaaGreatDoor
