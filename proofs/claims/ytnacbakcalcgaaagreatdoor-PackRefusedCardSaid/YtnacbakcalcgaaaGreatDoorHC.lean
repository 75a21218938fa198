/- Texts of the claim. -/
import Derived.Test.YtnacbakcalcgaaaGreatDoorHB
set_option linter.unusedVariables false
set_option linter.unusedSimpArgs false
set_option maxHeartbeats 4000000
set_option maxRecDepth 100000
namespace Go.Proofs.YtnacbakcalcgaaaGreatDoor
open Go.RowKit Go.Lib Go.Sort
def awP:List Nat:=[129,161,97,202,63,192,0,0]
theorem awP_mem:pkMembers (pkValue 64) 1 [] [] [161,97,202,63,192,0,0] 1=.inl (([⟨#[97]⟩],[awN]),[],2):=by kernel_rfl
theorem awP_val:pkValue 65 awP 0=.inl (awT10,[],2):=by
  unfold awP
  rw [valP_on (h:=(10,1)) (r:=[161,97,202,63,192,0,0]) (by kernel_rfl) (by decide) (by decide)]
  have h:=awP_mem
  unfold pkBehind pkObj
  rw [if_neg (by decide),if_neg (by decide),if_neg (by decide),if_neg (by decide),if_neg (by decide),if_neg (by decide),if_neg (by decide),if_neg (by decide),if_neg (by decide),if_neg (by decide),if_pos (by decide)]
  simp only
  rw [if_neg (by decide),h]
  simp only
  rw [if_pos (by simp),awC_sort]
  rfl
theorem awP_dec:pkDecode awP=.inl awT10:=by
  unfold pkDecode
  rw [if_neg (by decide),awP_val]
  rfl
theorem awP_enc:encP awT10=some awP:=by
  have h1:encP awN=some [202,63,192,0,0]:=by kernel_rfl
  rw [encP_eq]
  show objP [⟨#[97]⟩] ([awN].map encP)=some awP
  rw [List.map_cons,List.map_nil,h1]
  decide
theorem encP_bare (t:MT):encP t.bare=encP t:=by
  refine MT.ind (P:=fun t=>encP t.bare=encP t) ?_ t
  intro t ih
  rw [encP_eq t.bare,encP_eq t,MT.bare_eq]
  obtain ⟨c,m,ks,vs⟩:=t
  simp only [MT.c,MT.m,MT.k,MT.v,Cel.bare] at ih ⊢
  have e:(vs.map MT.bare).map encP=vs.map encP:=by
    rw [List.map_map]
    exact List.map_congr_left ih
  rw [e,List.length_map]
  rfl
theorem encoP_of {t u:MT} (h:t.bare=u):encoP t=encoP u:=by
  have h1:checkB t=checkB u:=by rw [← checkB_bareC t,h]
  have h2:encP t=encP u:=by rw [← encP_bare t,h]
  unfold encoP
  rw [h1,h2]
theorem awP_encode {t:MT} (h:t.bare=awT10):encoP t=.inl awP:=by
  rw [encoP_of h,encoP_ok awC_check awP_enc (by decide)]
/-- The document's example. -/
theorem awake12_any (w:World) (hU:UT w) (hT:DB w):Calls Tryz.prog 25 #[] w (BoolBelow true w):=by
  have hba:Below w.heap.size w (w.alloc (.cells #[.int .u8 129,.int .u8 161,.int .u8 97,.int .u8 202,.int .u8 63,.int .u8 192,.int .u8 0,.int .u8 0] 5 (8,9))):=(Below.refl _ _).alloc (Nat.le_refl _) _
  have kc:=fun (w:World) (C:Array Value) (n c:Nat)=>Lib.run_convert_bytes_const (P:=Tryz.prog) w 22 5 C n c Tryz.underlying22 Tryz.underlying5
  have KD:=Lib.hid (decode_pk (some ⟨w.heap.size,0,none⟩) 8 8 awP _ (hU.below hba) rfl (Nat.le_refl _) (by unfold Okb awP;decide) (rd_mark w 5 [.int .u8 129,.int .u8 161,.int .u8 97,.int .u8 202,.int .u8 63,.int .u8 192,.int .u8 0,.int .u8 0] (8,9)) (.inr ⟨_,_,rfl⟩))
  rw [awP_dec] at KD
  have HU:=Lib.hid hU;have HT:=Lib.hid hT;have HBA:=Lib.hid hba
  clear hU hT hba
  unfold DecC at KD
  go_enter Tryz.func25,Tryz.ntmps25
  go_wp2_with fail
  refine KD.out.mono ?_
  rintro r w1 ⟨t,rfl,hbare,hR,hb⟩
  replace hb:=below_on HBA.out hb
  have KE:=Lib.hid (fun W (h:Below w1.heap.size w1 W)=>encode_pk t W (hR.on h) (HU.out.below (hb.trans (h.mono hb.size))) (HT.out.below (hb.trans (h.mono hb.size))))
  rw [awP_encode hbare] at KE
  unfold EnP at KE
  obtain ⟨hvn,vb,vo,hva,hce⟩:=awC_cells hbare hR
  have hvlt:=lt_of_cell hce
  have HB:=Lib.hid hb
  clear hb hR hbare KD
  generalize t.c=c at *
  obtain ⟨k,b0,neg,ma,mn,mc,e,s,ka,kn,kc,va,vn,vc⟩:=c
  unfold Cel.val at *
  simp only at hvn hva
  subst hvn hva
  have hb2:Below w1.heap.size w1 (w1.alloc (.cells #[.int .i64 k,.bool b0,.bool neg,.slice ma mn mc,.int .i64 e,.string s,.slice ka kn kc,.slice (some ⟨vb,vo,none⟩) 1 vc] 29)):=(Below.refl _ _).alloc (Nat.le_refl _) _
  have KE2:=Lib.hid (KE.out _ hb2)
  have HB2:=Lib.hid hb2
  have q2:=heap_alloc_new w1 (.cells #[.int .i64 k,.bool b0,.bool neg,.slice ma mn mc,.int .i64 e,.string s,.slice ka kn kc,.slice (some ⟨vb,vo,none⟩) 1 vc] 29)
  have Q2:=Lib.hid q2
  clear hb2 KE q2
  go_wp2_with fail
  refine KE2.out.mono ?_
  rintro r w3 ⟨v,rfl,ho,hb3⟩
  obtain ⟨ad3,cap3,rfl,hc3,hr3,_,_,h03⟩:=own_viewN ho
  have HCV:=Lib.hid (conv_bv w3 ad3 8 cap3 awP rfl hr3)
  rw [show strB awP=⟨#[129,161,97,202,63,192,0,0]⟩ from rfl] at HCV
  have x3:=(hb3.cell (p:=⟨vb,vo+4,none⟩) (by simp;omega)).trans ((HB2.out.cell (p:=⟨vb,vo+4,none⟩) hvlt).trans hce)
  have q3:=(hb3.block _ (by simp)).trans Q2.out
  have HB3:=Lib.hid (HB.out.trans ((HB2.out.trans (hb3.mono HB2.out.size)).mono HB.out.size))
  clear hb3 KE2 ho hr3 h03 hc3 hce
  have y7:=(boxC q3 7 _ rfl).1
  clear q3
  have el:awP.length=8:=rfl
  rw [el]
  go_wp2_with fail
  rw [HCV.out]
  simp only [Result.andThen]
  rw [Oper.upon_value]
  go_wp2_with fail
  go_ret
  exact BoolBelow.mk rfl HB3.out

theorem sameStrings0 (w:World):Calls Tryz.prog 43 #[.slice none 0 0,.slice none 0 0] w (BoolBelow true w):=by
  have HB:=Lib.hid (Below.refl w.heap.size w)
  go_enter Tryz.func43,Tryz.ntmps43
  go_wp2_with fail
  go_loopg [5] 1 (fun g i wr=>i=.int .i64 0∧wr=w)
  case atStart=>exact ⟨rfl,rfl⟩
  case round =>
    obtain ⟨rfl,rfl⟩:=hrel
    go_wp2_with fail
    go_ret
    exact BoolBelow.mk rfl HB.out
theorem sameTree0 (w:World):Calls Tryz.prog 18 #[.agg #[.int .i64 0,.bool false,.bool false,.slice none 0 0,.int .i64 0,.string ⟨#[]⟩,.slice none 0 0,.slice none 0 0],.agg #[.int .i64 0,.bool false,.bool false,.slice none 0 0,.int .i64 0,.string ⟨#[]⟩,.slice none 0 0,.slice none 0 0]] w (BoolBelow true w):=by
  have KN:=Lib.hid (fun W=>sameNum_any false none 0 0 [] 0 none 0 W rfl (by omega) (by omega) (by omega) (Rd.nil _ _) (Rd.nil _ _))
  have KS:=Lib.hid sameStrings0
  have hb0:Below w.heap.size w ((w.alloc (.cells #[.int .i64 0,.bool false,.bool false,.slice none 0 0,.int .i64 0,.string ⟨#[]⟩,.slice none 0 0,.slice none 0 0] 29)).alloc (.cells #[.int .i64 0,.bool false,.bool false,.slice none 0 0,.int .i64 0,.string ⟨#[]⟩,.slice none 0 0,.slice none 0 0] 29)):=((Below.refl _ _).alloc (Nat.le_refl _) _).alloc (by simp) _
  have Q0:Hid (((w.alloc (.cells #[.int .i64 0,.bool false,.bool false,.slice none 0 0,.int .i64 0,.string ⟨#[]⟩,.slice none 0 0,.slice none 0 0] 29)).alloc (.cells #[.int .i64 0,.bool false,.bool false,.slice none 0 0,.int .i64 0,.string ⟨#[]⟩,.slice none 0 0,.slice none 0 0] 29)).heap[w.heap.size]? = some (.cells #[.int .i64 0,.bool false,.bool false,.slice none 0 0,.int .i64 0,.string ⟨#[]⟩,.slice none 0 0,.slice none 0 0] 29)):=Lib.hid ((Below.heap_alloc _ _ _ (by simp)).trans (heap_alloc_new w _))
  have Q1:Hid (((w.alloc (.cells #[.int .i64 0,.bool false,.bool false,.slice none 0 0,.int .i64 0,.string ⟨#[]⟩,.slice none 0 0,.slice none 0 0] 29)).alloc (.cells #[.int .i64 0,.bool false,.bool false,.slice none 0 0,.int .i64 0,.string ⟨#[]⟩,.slice none 0 0,.slice none 0 0] 29)).heap[w.heap.size+1]? = some (.cells #[.int .i64 0,.bool false,.bool false,.slice none 0 0,.int .i64 0,.string ⟨#[]⟩,.slice none 0 0,.slice none 0 0] 29)):=Lib.hid (by have:=heap_alloc_new (w.alloc (.cells #[.int .i64 0,.bool false,.bool false,.slice none 0 0,.int .i64 0,.string ⟨#[]⟩,.slice none 0 0,.slice none 0 0] 29)) (.cells #[.int .i64 0,.bool false,.bool false,.slice none 0 0,.int .i64 0,.string ⟨#[]⟩,.slice none 0 0,.slice none 0 0] 29);simpa using this)
  have HB0:=Lib.hid hb0
  clear hb0
  go_enter Tryz.func18,Tryz.ntmps18
  go_wp2_with fail
  refine (KN.out _).mono ?_
  rintro r w1 ⟨rfl,hb1⟩
  have p0:=(hb1.block w.heap.size (by simp;omega)).trans Q0.out
  have p1:=(hb1.block (w.heap.size+1) (by simp)).trans Q1.out
  have y0:=(boxC p0 0 _ rfl).1;have z0:=(boxC p1 0 _ rfl).1
  have y1:=(boxC p0 1 _ rfl).1;have z1:=(boxC p1 1 _ rfl).1
  have y2:=(boxC p0 2 _ rfl).1;have z2:=(boxC p1 2 _ rfl).1
  have y3:=(boxC p0 3 _ rfl).1;have z3:=(boxC p1 3 _ rfl).1
  have y4:=(boxC p0 4 _ rfl).1;have z4:=(boxC p1 4 _ rfl).1
  have y5:=(boxC p0 5 _ rfl).1;have z5:=(boxC p1 5 _ rfl).1
  have y6:=(boxC p0 6 _ rfl).1;have z6:=(boxC p1 6 _ rfl).1
  have y7:=(boxC p0 7 _ rfl).1;have z7:=(boxC p1 7 _ rfl).1
  have hs1:w.heap.size+1<w1.heap.size:=(Array.getElem?_eq_some_iff.1 p1).1
  have P0:=Lib.hid p0;have P1:=Lib.hid p1
  have HB1:=Lib.hid (HB0.out.trans (hb1.mono HB0.out.size))
  clear hb1 p0 p1
  go_wp2_with fail
  refine (KS.out _).mono ?_
  rintro r w2 ⟨rfl,hb2⟩
  clear y0 z0 y1 z1 y2 z2 y3 z3 y4 z4 y5 z5 y6 z6 y7 z7
  have p0:=(hb2.block w.heap.size (by omega)).trans P0.out
  have p1:=(hb2.block (w.heap.size+1) (by omega)).trans P1.out
  have y0:=(boxC p0 0 _ rfl).1;have z0:=(boxC p1 0 _ rfl).1
  have y1:=(boxC p0 1 _ rfl).1;have z1:=(boxC p1 1 _ rfl).1
  have y2:=(boxC p0 2 _ rfl).1;have z2:=(boxC p1 2 _ rfl).1
  have y3:=(boxC p0 3 _ rfl).1;have z3:=(boxC p1 3 _ rfl).1
  have y4:=(boxC p0 4 _ rfl).1;have z4:=(boxC p1 4 _ rfl).1
  have y5:=(boxC p0 5 _ rfl).1;have z5:=(boxC p1 5 _ rfl).1
  have y6:=(boxC p0 6 _ rfl).1;have z6:=(boxC p1 6 _ rfl).1
  have y7:=(boxC p0 7 _ rfl).1;have z7:=(boxC p1 7 _ rfl).1
  have HB2:=Lib.hid (below_on HB1.out hb2)
  clear hb2 p0 p1
  go_wp2_with fail
  go_loopg [5] 1 (fun g i wr=>i=.int .i64 0∧wr=w2)
  case atStart=>exact ⟨rfl,rfl⟩
  case round =>
    obtain ⟨rfl,hwr⟩:=hrel
    replace hwr:=hwr.symm
    subst hwr
    go_wp2_with fail
    go_ret
    exact BoolBelow.mk rfl HB2.out
theorem okb_append {a b:List Nat} (h:Okb a) (k:Okb b):Okb (a++b):=fun x hx=>by exact (List.mem_append.1 hx).elim (h x) (k x)
theorem strN_strB {l:List Nat} (h:Okb l):strN (strB l)=l:=by
  unfold strN strB
  simp only [List.map_map,Function.comp_def]
  conv=>rhs;rw [← List.map_id l]
  refine List.map_congr_left fun x hx=>?_
  have:=h x hx
  simp
  omega
theorem strN_append (a b:ByteArray):strN (a++b)=strN a++strN b:=by
  unfold strN
  rw [← List.map_append]
  congr 1
theorem be_okb (k n:Nat):Okb (be k n):=be_lt k n
theorem mlay_lt (k n:Nat) (hk:n<18446744073709551616):(mlay k n).1<256:=by
  have h2:∀ q,stepN q≤3:=stepN_le
  have h3:∀ q,q<4294967296→stepN q≤2:=fun q h=>by
    unfold stepN;split <;> (try split) <;> (try split) <;> omega
  have hI:∀ (c:Prop) [Decidable c] (a b:Nat × Nat),(c→a.1<256)→(¬ c→b.1<256)→(if c then a else b).1<256:=by
    intro c _ a b h h'
    split
    · exact h ‹_›
    · exact h' ‹_›
  have e1:=h2 n
  have e2:=h2 ((18446744073709551615 - n)*2)
  have e3:=h3 (n % 4294967296) (Nat.mod_lt _ (by decide))
  unfold mlay
  repeat' (refine hI _ _ _ (fun _=>?_) (fun _=>?_))
  all_goals (simp only)
  all_goals omega
theorem mput_okb (k:Int) (n:Nat) (hk:n<18446744073709551616):Okb (mput k n):=by
  unfold mput
  split
  · intro x hx;cases hx
  · intro x hx
    rcases List.mem_cons.1 hx with rfl | hx
    · exact mlay_lt _ _ hk
    · exact be_okb _ _ x hx
theorem strP_okb (m:Nat) (s:ByteArray) (hz:s.size≤2000):Okb (strP m s):=okb_append (mput_okb _ _ (by omega)) (strN_okb s)
theorem catP_okb:∀ {ps:List (Option (List Nat))} {q:List Nat},(∀ p,some p∈ps→Okb p)→catP ps=some q→Okb q:=by
  intro ps
  induction ps with
  | nil=>intro q _ h;simp only [catP,Option.some.injEq] at h;subst h;intro x hx;cases hx
  | cons o r ih =>
    intro q hp h
    obtain ⟨p,q2,rfl,h2,rfl⟩:=catP_cons h
    exact okb_append (hp p (by simp)) (ih (fun p hp'=>hp p (by simp [hp'])) h2)
theorem numP_okb {ng:Bool} {xs:List Nat} {e:Int} {p:List Nat} (ho:Okl xs) (h:chkB ng xs e=true) (hp:numP ng (val xs) e=some p):Okb p:=by
  unfold numP at hp
  split at hp
  · cases hp
  · rename_i k x hw
    cases hp
    exact mput_okb _ _ (wordP_bd (chk_tens ho h) hw).1
theorem encP_okb (t:MT):∀ d p,SndC t d→CohC t→encP t=some p→Okb p:=by
  refine MT.ind (P:=fun t=>∀ d p,SndC t d→CohC t→encP t=some p→Okb p) ?_ t
  intro t ih d p hs hc hp
  obtain ⟨_,hso⟩:=hs.own
  have hV:∀ q,some q∈t.v.map encP→Okb q:=fun q hq=>by
    obtain ⟨u,hu,he⟩:=List.mem_map.1 hq
    exact ih u hu (d+1) q (hs.part hu) (hc.part hu) he
  rw [encP_eq] at hp
  split at hp
  · cases hp;exact mput_okb _ _ (by decide)
  split at hp
  · cases hp;unfold truthP;exact mput_okb _ _ (by decide)
  split at hp
  next c3=>exact numP_okb hc.own.2.1 (bare_numC hc c3 hso).1 hp
  split at hp
  next c4=>cases hp;exact strP_okb _ _ (bare_textC hc c4 hso).1.2
  split at hp
  next c5=>cases hp;exact strP_okb _ _ (bare_bytesC hc c5 hso).1
  split at hp
  next c6 =>
    have:=(bare_arrC hc c6 hso).1
    unfold arrP at hp
    split at hp
    · cases hp
    · rename_i q hq
      cases hp
      exact okb_append (mput_okb _ _ (by omega)) (catP_okb hV hq)
  split at hp
  next c7 =>
    obtain ⟨h1,h3,h4,_⟩:=bare_objC hc c7 hso
    unfold objP at hp
    split at hp
    · cases hp
    · rename_i q hq
      cases hp
      refine okb_append (mput_okb _ _ (by omega)) (catP_okb (fun p hp=>?_) hq)
      rw [List.mem_iff_getElem] at hp
      obtain ⟨i,hi,he⟩:=hp
      rw [List.length_zipWith,List.length_map] at hi
      rw [List.getElem_zipWith,List.getElem_map] at he
      unfold mbrP at he
      split at he
      · cases he
      · rename_i q0 hq0
        cases he
        exact okb_append (strP_okb _ _ (okN_valid (riseC_ok h4 _ (List.getElem_mem _))).1) (hV q0 (List.mem_map.2 ⟨_,List.getElem_mem _,hq0⟩))
  · cases hp;intro x hx;cases hx
theorem pkDecode_nil:pkDecode []=.inr 2:=by kernel_rfl
end Go.Proofs.YtnacbakcalcgaaaGreatDoor
namespace Go.Proofs.YtnacbakcalcgaaaGreatDoor
open Go.RowKit
theorem refNorm_any (ad:Option Addr) (n cap:Nat) (xs:List Nat) (w:World) (hn:xs.length=n) (hcap:n≤cap) (hm:n≤100000000) (ho:Okl xs) (hr:Rd w ad xs) :
    Calls Tryz.prog 60 #[.slice ad n cap] w (Gives (val xs) w):=by
  have hcl:=cutLen_le xs n
  have hcv:=cut_limbs ho
  rw [hn] at hcv
  have hr':=hr.take (cutLen xs n)
  have hlc:(xs.take (cutLen xs n)).length=cutLen xs n:=by rw [List.length_take];omega
  have hot:=ho.take (cutLen xs n)
  have HN:=Lib.hid hn;clear hn
  have HF:Hid (∀ v w1,Own w.heap.size w1 v ([]++xs.take (cutLen xs n))→Below w.heap.size w w1→Gives (val xs) w (.returned v) w1):=fun v w1 h1 h2=>⟨v,rfl,by rw [← hcv];simpa using h1,h2⟩
  clear hcv
  have HC:=Lib.hid (rfl:cutLen xs n=cutLen xs n)
  generalize hc0:cutLen xs n=c at *
  have HC0:=Lib.hid hc0;clear hc0 HC
  generalize hY:xs.take c=Y at *
  clear hY
  have HLC:=Lib.hid hlc;clear hlc
  go_enter Tryz.func60,Tryz.ntmps60
  go_wp2
  go_loop [3] (fun i=>∃ k:Nat,k≤n∧i=.int .i64 k∧cutLen xs k=c) (fun i=>(intOf i).toNat)
  case atStart=>exact ⟨n,Nat.le_refl _,rfl,HC0.out⟩
  case round =>
    obtain ⟨k,hk,rfl,he⟩:=hrel
    have HE:=Lib.hid he;clear he
    rcases k with _ | k
    · have h0:c=0:=by rw [← HE.out];rfl
      subst h0
      go_wp2_with (at_builtin;refine wpl_append_rd rfl _ _ rfl w.heap.size _ [] rfl (Own.nil _ _) _ _ _ Y rfl hot HLC.out hr' (by simp) (Nat.le_refl _) ?_;intro v' w' hv hb)
      go_ret
      exact HF.out _ _ hv hb
    · obtain ⟨b,o,hadd,_,hc⟩:=hr k (by rw [HN.out];omega)
      subst hadd
      generalize hx:xs.getD k 0=x at *
      have HX:=Lib.hid hx;clear hx
      by_cases hz:x=0
      · go_wp2
        go_round
        case rel=>exact ⟨k,by omega,rfl,by rw [← HE.out];simp only [cutLen];rw [if_pos (by rw [HX.out];exact hz)]⟩
        case measure=>simp [intOf]
      · have h0:c=k+1:=by rw [← HE.out];simp only [cutLen];rw [if_neg (by rw [HX.out];exact hz)]
        subst h0
        go_wp2_with (at_builtin;refine wpl_append_rd rfl _ _ rfl w.heap.size _ [] rfl (Own.nil _ _) _ _ _ Y rfl hot HLC.out hr' (by simp;omega) (Nat.le_refl _) ?_;intro v' w' hv hb)
        go_ret
        exact HF.out _ _ hv hb
def SMRel (g n:Nat) (xs:List Nat) (d:Nat) (w1:World) (c i:Value) (wr:World):Prop :=
  ∃ (k q:Nat) (zs:List Nat),k≤n∧i=.int .i64 ((k:Int) - 1)∧c=.int .u64 (q:Int)∧q<d∧zs.length=n∧Okl zs∧val (zs.drop k)*d+q=val (xs.drop k)∧wr=put g zs [] w1
def SmallPost (N d:Nat) (w:World) (e:Ending) (w':World):Prop :=
  ∃ v,e=.returned (.tuple #[v,.int .u32 ((N % d:Nat):Int)])∧Own w.heap.size w' v (limbs (N / d))∧Below w.heap.size w w'
theorem sm_step {g n d j q x:Nat} {xs zs:List Nat} {w1:World} (hl:zs.length=n) (hn:xs.length=n) (hj:j+1≤n) (hd:d<B32) (hd0:0<d) (hq:q<d) (hoz:Okl zs) (hx:xs.getD j 0=x) (hxb:x<B32)
    (he:val (zs.drop (j+1))*d+q=val (xs.drop (j+1))) (hb:Blk w1 g (List.replicate n 0) []) :
    SMRel g n xs d w1 (.int .u64 ((wd q x % d:Nat):Int)) (.int .i64 ((j:Int) - 1)) ((put g zs [] w1).setCell ⟨g,j,none⟩ (.int .u32 ((wd q x / d:Nat):Int))):=by
  have hql:wd q x / d<B32:=by
    rw [Nat.div_lt_iff_lt_mul hd0];unfold wd
    have:(q+1)*B32≤d*B32:=Nat.mul_le_mul_right _ hq
    rw [Nat.add_mul,Nat.one_mul] at this
    rw [Nat.mul_comm B32 d];omega
  have hml:wd q x % d<d:=Nat.mod_lt _ hd0
  rw [set_blk (put_blk _ _ hb.lt) _ _ (by omega),put_put]
  refine ⟨j,_,zs.set j (wd q x / d),by omega,rfl,rfl,hml,by rw [List.length_set];exact hl,hoz.set _ _ hql,?_,rfl⟩
  rw [val_drop_succ _ j (by rw [List.length_set];omega),val_drop_succ xs j (by omega),hx,List.drop_set_of_lt (by omega)]
  have e3:(zs.set j (wd q x / d)).getD j 0=wd q x / d:=by simp [List.getD,show j<zs.length by omega]
  rw [e3]
  exact sh_num he (Nat.div_add_mod _ _)
theorem refSmall_any (ad:Option Addr) (n cap:Nat) (xs:List Nat) (d:Nat) (w:World) (hn:xs.length=n) (hcap:n≤cap) (hm:n≤100000000) (ho:Okl xs) (hr:Rd w ad xs) (hd:d<B32) (hd0:0<d) :
    Calls Tryz.prog 99 #[.slice ad n cap,.int .u32 (d:Int)] w (SmallPost (val xs) d w):=by
  have HN:=Lib.hid hn;clear hn
  have hd':=hd
  rw [B32_eq] at hd'
  have hd0':¬ ((d:Int)=0):=by omega
  go_enter Tryz.func99,Tryz.ntmps99
  go_wp2_with (at_make;refine wpl_make _ rfl _ _ rfl _ _ _ _ n rfl rfl rfl rfl (by omega) ?_;intro w1 hB1 hb1)
  have hg1:=hr.apart (Nat.le_refl w.heap.size)
  have hr1:=hr.below hb1
  go_loopw [7,8] (fun c i wr=>SMRel w.heap.size n xs d w1 c i wr) (fun _ i _=>(intOf i+1).toNat)
  case atStart=>exact ⟨n,0,List.replicate n 0,Nat.le_refl _,by go_num,rfl,hd0,by simp,Okl.replicate n,by rw [List.drop_of_length_le (by simp),List.drop_of_length_le (by rw [HN.out];exact Nat.le_refl _)];simp [val],(put_same hB1).symm⟩
  case round =>
    obtain ⟨k,q,zs,hk,rfl,rfl,hq,hl,hoz,he,rfl⟩:=hrel
    have HL:=Lib.hid hl;clear hl
    have HE:=Lib.hid he;clear he
    have hbz:Blk (put w.heap.size zs [] w1) w.heap.size zs []:=put_blk _ _ hB1.lt
    rcases k with _ | j
    · have hv:=HE.out
      simp only [List.drop_zero] at hv
      have hdv:val xs / d=val zs:=by rw [← hv,Nat.mul_comm,Nat.mul_add_div hd0,Nat.div_eq_of_lt hq,Nat.add_zero]
      have hmd:val xs % d=q:=by rw [← hv,Nat.mul_comm,Nat.mul_add_mod,Nat.mod_eq_of_lt hq]
      have HD:=Lib.hid hdv;clear hdv
      have HM:=Lib.hid hmd;clear hmd hv
      have hbl:Below w.heap.size w (put w.heap.size zs [] w1):=put_below hb1 (Nat.le_refl _) _ _
      have KN:=Lib.hid (refNorm_any (some ⟨w.heap.size,0,none⟩) n n zs _ HL.out (Nat.le_refl _) hm hoz hbz.rd_all)
      have hq':q<4294967296:=by omega
      rw [show (((0:Nat):Int) - 1) = -1 from rfl]
      have HBL:=Lib.hid hbl;clear hbl
      generalize put w.heap.size zs [] w1=W at *
      go_wp2_with fail
      refine KN.out.mono ?_
      rintro e w' ⟨v,rfl,hv,hb'⟩
      go_wp2
      go_ret2
      exact ⟨v,by rw [HM.out];rfl,by rw [HD.out];exact hv.mono HBL.out.size,below_on HBL.out hb'⟩
    · rw [show (((j+1:Nat):Int) - 1)=(j:Int) by omega]
      obtain ⟨b,o,rfl,hblt,hc⟩:=(hr1.put (g:=w.heap.size) hg1 zs []) j (by rw [HN.out];omega)
      have hcz:=hbz.cell j (by rw [HL.out];omega)
      have hfz:=hbz.free j
      have hxb:=ho.getD j
      generalize hx:xs.getD j 0=x at *
      have R:=Lib.hid (sm_step (g:=w.heap.size) (w1:=w1) HL.out HN.out hk hd hd0 hq hoz hx hxb HE.out hB1)
      clear hx
      have hq':q<4294967296:=by omega
      have hwl:=wd_lt (Nat.lt_trans hq hd) hxb
      have hwd:(q:Int)*4294967296+(x:Int)=((wd q x:Nat):Int):=by unfold wd;rw [B32_eq];omega
      have hqb:wd q x / d<4294967296:=by
        have:wd q x / d<B32:=by
          rw [Nat.div_lt_iff_lt_mul hd0];unfold wd
          have:(q+1)*B32≤d*B32:=Nat.mul_le_mul_right _ hq
          rw [Nat.add_mul,Nat.one_mul] at this
          rw [Nat.mul_comm B32 d];omega
        rwa [B32_eq] at this
      rw [B32_eq] at hxb
      generalize wd q x=D at *
      have hml:D % d<4294967296:=by have:=Nat.mod_lt D hd0;omega
      go_wp2
      go_roundw
      case rel =>
        have e1:IntKind.u64.wrap ((D:Int) / (d:Int)) % 4294967296=((D / d:Nat):Int):=by
          rw [← Int.natCast_ediv]
          generalize D / d=Q at *
          rw [IntWalk.u64_in _ (by omega)];omega
        rw [e1];exact R.out
      case measure=>simp [intOf]
def RTPost (a:Nat) (w:World) (e:Ending) (w':World):Prop :=
  ∃ v m k,e=.returned (.tuple #[v,.int .i64 ((k:Nat):Int)])∧Own w.heap.size w' v (limbs m)∧Below w.heap.size w w'∧a=m*tenN k∧(a=0→k=0)∧(a ≠ 0→m % 10 ≠ 0)∧k≤400000000
def RTRel (G N:Nat) (w:World) (M:Nat) (lv n:Value) (wr:World):Prop :=
  ∃ k:Nat,n=.int .i64 (k:Int)∧Own G wr lv (limbs M)∧N=M*tenN k∧(N=0→k=0)∧M≤N∧k≤400000000∧Below G w wr
theorem rt_step {N M k n:Nat} (h:N=M*tenN k) (h0:M ≠ 0) (hm:M % 10=0) (hN:N<B32 ^ n) (hn:n≤10000000):N=M / 10*tenN (k+1)∧(N=0→k+1=0)∧k+1≤400000000:=by
  have e:=Nat.div_add_mod M 10
  rw [hm,Nat.add_zero] at e
  have hN0:N ≠ 0:=by rw [h];exact Nat.mul_ne_zero h0 (tenN_ne _)
  have e1:N=M / 10*tenN (k+1):=by
    rw [h];conv=>lhs;rw [← e]
    rw [tenN_succ]
    generalize tenN k=T;generalize M / 10=q;grind
  have h1:M / 10 ≠ 0:=by omega
  have h2:tenN (k+1)≤N:=by rw [e1];exact Nat.le_mul_of_pos_left _ (by omega)
  have:=ten_bound h2 hN
  exact ⟨e1,fun h0=>absurd h0 hN0,by omega⟩
theorem refTrim_any (ad:Option Addr) (n cap:Nat) (xs:List Nat) (w:World) (hn:xs.length=n) (hcap:n≤cap) (hm:n≤10000000) (ho:Okl xs) (hr:Rd w ad xs) :
    Calls Tryz.prog 58 #[.slice ad n cap] w (RTPost (val xs) w):=by
  have KN:=Lib.hid (refNorm_any ad n cap xs w hn hcap (by omega) ho hr)
  have hlen:=limbs_len_le ho
  rw [hn] at hlen
  have hlt:=val_lt ho
  rw [hn] at hlt
  generalize val xs=N at *
  clear ho hr hn
  generalize hG:w.heap.size=G at *
  have HLT:=Lib.hid hlt;clear hlt
  go_enter Tryz.func58,Tryz.ntmps58
  go_wp2_with fail
  refine KN.out.mono ?_
  rintro e w' ⟨v,rfl,hv,hbl⟩
  rw [hG] at hv hbl
  have HV:=Lib.hid hv;have HB:=Lib.hid hbl;clear hv hbl
  go_wp2_with fail
  go_loopg [4,5] N (fun M lv nv wr=>RTRel G N w M lv nv wr)
  case atStart=>exact ⟨0,rfl,HV.out,by rw [tenN_zero,Nat.mul_one],fun _=>rfl,Nat.le_refl _,by omega,HB.out⟩
  case round =>
    clear HV HB
    obtain ⟨k,rfl,hown,hT,hk0,hle,hk4,hbl⟩:=hrel
    obtain ⟨ad2,cap2,hve,hc2,hrd,hadd⟩:=hown.view
    have hll:(limbs gk).length≤n:=Nat.le_trans (limbs_len_mono hle) hlen
    by_cases hM:gk=0
    · subst hM
      rw [limbs_zero] at hve
      subst hve
      have F:=Lib.hid (show RTPost N w (.returned (.tuple #[.slice ad2 0 cap2,.int .i64 ((k:Nat):Int)])) wr from ⟨_,0,k,rfl,by rw [hG];exact hown,by rw [hG];exact hbl,hT,hk0,fun h=>absurd (by rw [hT,Nat.zero_mul]) h,hk4⟩)
      clear hown hrd hadd hT hbl hc2 hll hk0
      go_wp2
      go_ret2
      exact F.out
    · have hpos:(0:Int)<((limbs gk).length:Int):=by
        have:(limbs gk).length ≠ 0:=fun h=>hM ((limbs_nil_iff gk).1 (List.eq_nil_of_length_eq_zero h))
        omega
      have K:=refSmall_any ad2 (limbs gk).length cap2 (limbs gk) 10 wr rfl hc2 (by omega) (limbs_ok gk) hrd (by decide) (by decide)
      rw [val_limbs] at K
      have KS:=Lib.hid K;clear K
      have hGs:G≤wr.heap.size:=Nat.le_trans (by rw [← hG];exact Nat.le_refl _) hbl.size
      have HT:=Lib.hid hT;have HB:=Lib.hid hbl;have HO:=Lib.hid hown;have HK0:=Lib.hid hk0;have HVE:=Lib.hid hve
      subst hve
      clear hown hrd hadd hT hbl hc2 hk0
      go_wp2_with fail
      refine KS.out.mono ?_
      rintro r w1 ⟨v1,rfl,hv1,hb1⟩
      have hv2:=hv1.mono hGs
      have hbl2:=HB.out.trans (hb1.mono hGs)
      have ho2:=HO.out.below hb1
      have h10:gk % 10<10:=Nat.mod_lt _ (by decide)
      have HV2:=Lib.hid hv2;have HB2:=Lib.hid hbl2;have HO2:=Lib.hid ho2
      clear hv1 hb1 hv2 hbl2 KS ho2
      by_cases h0:gk % 10=0
      · have HS:=Lib.hid (rt_step HT.out hM h0 HLT.out hm)
        have hqm:gk / 10<gk:=by omega
        have HQN:=Lib.hid (show gk / 10≤N by omega)
        have hb:((((gk % 10:Nat):Int)) != 0)=false:=by rw [h0];rfl
        have hi:((gk % 10:Nat):Int)=0:=by omega
        generalize gk % 10=r at *
        subst h0
        generalize gk / 10=q at *
        go_wp2
        go_roundg q
        case measure=>exact hqm
        case rel=>exact ⟨k+1,by go_num,HV2.out,HS.out.1,HS.out.2.1,HQN.out,HS.out.2.2,HB2.out⟩
      · have F:=Lib.hid (show RTPost N w (.returned (.tuple #[.slice ad2 (limbs gk).length cap2,.int .i64 ((k:Nat):Int)])) w1 from ⟨_,gk,k,rfl,by rw [hG];exact HO2.out,by rw [hG];exact HB2.out,HT.out,HK0.out,fun _=>h0,hk4⟩)
        have hi:¬ ((gk % 10:Nat):Int)=0:=by omega
        generalize gk % 10=r at *
        go_wp2
        go_ret2
        exact F.out

end Go.Proofs.YtnacbakcalcgaaaGreatDoor
namespace Go.Proofs.YtnacbakcalcgaaaGreatDoor
open Go.RowKit Go.Lib Go.Sort

structure Byt (w:World) (v:Value) (l:List Nat):Prop where
  at_:∃ ad n cap,v=.slice ad n cap∧l.length=n∧n≤cap∧RdV w ad (bc l)∧Shp ad cap∧(ad=none→cap=0)
theorem Byt.on {w w':World} {v:Value} {l:List Nat} (h:Byt w v l) (hb:Below w.heap.size w w'):Byt w' v l:=by
  obtain ⟨ad,n,cap,h1,h2,h3,h4,h5,h6⟩:=h.at_
  exact ⟨⟨ad,n,cap,h1,h2,h3,h4.on hb,h5,h6⟩⟩
theorem Byt.own {w:World} {B:Nat} {v:Value} {n:Nat} {l:List Nat} (h:w.ownsRow B 5 1 v n (bc l)):Byt w v l:=by
  have hl:l.length=n:=by have:=h.1;rw [bc_len] at this;omega
  rcases h.2 with ⟨rfl,h0⟩ | ⟨g,cap,cur,rfl,_,_,hc,_⟩
  · subst h0
    have:l=[]:=List.eq_nil_of_length_eq_zero hl
    subst this
    exact ⟨none,0,0,rfl,rfl,Nat.le_refl _,RdV.nil _ _,.inl ⟨rfl,rfl⟩,fun _=>rfl⟩
  · obtain ⟨ad,cap',e,_,hr,_⟩:=own_viewN h
    simp only [Value.slice.injEq] at e
    obtain ⟨rfl,_,rfl⟩:=e
    exact ⟨_,n,cap,rfl,hl,hc,hr,.inr ⟨_,_,rfl⟩,fun h=>by cases h⟩
def zc:Cel:=⟨0,false,false,none,0,0,0,⟨#[]⟩,none,0,0,none,0,0⟩
structure NumC (w:World) (c:Cel) (g:Bool) (N:Nat) (E:Int):Prop where
  neg:c.neg=g
  mn:c.mn=(limbs N).length
  e:c.e=E
  le:c.mn≤c.mc
  rd:Rd w c.ma (limbs N)
theorem NumC.on {w w':World} {c:Cel} {g:Bool} {N:Nat} {E:Int} (h:NumC w c g N E) (hb:Below w.heap.size w w'):NumC w' c g N E:=⟨h.neg,h.mn,h.e,h.le,h.rd.below hb⟩

end Go.Proofs.YtnacbakcalcgaaaGreatDoor
namespace Go.Proofs.YtnacbakcalcgaaaGreatDoor
open Go.RowKit Go.Sort

theorem box3_cells {w:World} {g:Nat} {x0 x1 x2:Value} (hz:g<w.heap.size) (c0:w.cell? ⟨g,0,none⟩=some x0) (c1:w.cell? ⟨g,1,none⟩=some x1) (c2:w.cell? ⟨g,2,none⟩=some x2) (v0 v1 v2:Value) (b:Array Value) (t:TypeId) :
    ((((w.setCell ⟨g,0,none⟩ v0).setCell ⟨g,1,none⟩ v1).setCell ⟨g,2,none⟩ v2).alloc (.cells b t)).cell? ⟨g,0,none⟩=some v0∧((((w.setCell ⟨g,0,none⟩ v0).setCell ⟨g,1,none⟩ v1).setCell ⟨g,2,none⟩ v2).alloc (.cells b t)).cell? ⟨g,1,none⟩=some v1∧((((w.setCell ⟨g,0,none⟩ v0).setCell ⟨g,1,none⟩ v1).setCell ⟨g,2,none⟩ v2).alloc (.cells b t)).cell? ⟨g,2,none⟩=some v2:=by
  have hb:=below_box (((w.setCell ⟨g,0,none⟩ v0).setCell ⟨g,1,none⟩ v1).setCell ⟨g,2,none⟩ v2) b t
  have hs:g<(((w.setCell ⟨g,0,none⟩ v0).setCell ⟨g,1,none⟩ v1).setCell ⟨g,2,none⟩ v2).heap.size:=by simpa [World.setCell] using hz
  refine ⟨?_,?_,?_⟩
  · rw [hb.cell (p:=⟨g,0,none⟩) hs];simp [go_sem,c0,c1,c2]
  · rw [hb.cell (p:=⟨g,1,none⟩) hs];simp [go_sem,c0,c1,c2]
  · rw [hb.cell (p:=⟨g,2,none⟩) hs];simp [go_sem,c0,c1,c2]
end Go.Proofs.YtnacbakcalcgaaaGreatDoor
