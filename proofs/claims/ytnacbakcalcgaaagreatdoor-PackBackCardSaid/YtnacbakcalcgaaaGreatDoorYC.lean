/- Texts of the claim. -/
import Derived.Test.YtnacbakcalcgaaaGreatDoorYB
set_option linter.unusedVariables false
set_option linter.unusedSimpArgs false
set_option maxHeartbeats 8000000
set_option maxRecDepth 100000
namespace Go.Proofs.YtnacbakcalcgaaaGreatDoor
open Go.RowKit Go.Lib Go.Sort
def awP:List Nat:=[129,161,97,202,63,192,0,0]
theorem awP_mem:pkMembers (pkValue 64) 1 [] [] [161,97,202,63,192,0,0] 1=.inl (([⟨#[97]⟩],[awN]),[],2):=by kernel_rfl
theorem awP_val:pkValue 65 awP 0=.inl (awT10,[],2):=by
  unfold awP
  rw [valP_on (h:=(10,1)) (r:=[161,97,202,63,192,0,0]) (by kernel_rfl) (by decide) (by decide)]
  have h:=awP_mem
  unfold pkBehind pkObj
  rw [if_neg (by decide),if_neg (by decide),if_neg (by decide),if_neg (by decide),if_neg (by decide),if_neg (by decide),if_neg (by decide),if_neg (by decide),if_neg (by decide),if_neg (by decide),if_pos (by decide)]
  simp only
  rw [if_neg (by decide),h]
  simp only
  rw [if_pos (by simp),awC_sort]
  rfl
theorem awP_dec:pkDecode awP=.inl awT10:=by
  unfold pkDecode
  rw [if_neg (by decide),awP_val]
  rfl
theorem awP_enc:encP awT10=some awP:=by
  have h1:encP awN=some [202,63,192,0,0]:=by kernel_rfl
  rw [encP_eq]
  show objP [⟨#[97]⟩] ([awN].map encP)=some awP
  rw [List.map_cons,List.map_nil,h1]
  decide
theorem encP_bare (t:MT):encP t.bare=encP t:=by
  refine MT.ind (P:=fun t=>encP t.bare=encP t) ?_ t
  intro t ih
  rw [encP_eq t.bare,encP_eq t,MT.bare_eq]
  obtain ⟨c,m,ks,vs⟩:=t
  simp only [MT.c,MT.m,MT.k,MT.v,Cel.bare] at ih ⊢
  have e:(vs.map MT.bare).map encP=vs.map encP:=by
    rw [List.map_map]
    exact List.map_congr_left ih
  rw [e,List.length_map]
  rfl
theorem encoP_of {t u:MT} (h:t.bare=u):encoP t=encoP u:=by
  have h1:checkB t=checkB u:=by rw [← checkB_bareC t,h]
  have h2:encP t=encP u:=by rw [← encP_bare t,h]
  unfold encoP
  rw [h1,h2]
theorem awP_encode {t:MT} (h:t.bare=awT10):encoP t=.inl awP:=by
  rw [encoP_of h,encoP_ok awC_check awP_enc (by decide)]
/-- The document's example. -/
theorem awake12_any (w:World) (hU:UT w) (hT:DB w):Calls Tryz.prog 25 #[] w (BoolBelow true w):=by
  have hba:Below w.heap.size w (w.alloc (.cells #[.int .u8 129,.int .u8 161,.int .u8 97,.int .u8 202,.int .u8 63,.int .u8 192,.int .u8 0,.int .u8 0] 5 (8,9))):=(Below.refl _ _).alloc (Nat.le_refl _) _
  have kc:=fun (w:World) (C:Array Value) (n c:Nat)=>Lib.run_convert_bytes_const (P:=Tryz.prog) w 22 5 C n c Tryz.underlying22 Tryz.underlying5
  have KD:=Lib.hid (decode_pk (some ⟨w.heap.size,0,none⟩) 8 8 awP _ (hU.below hba) rfl (Nat.le_refl _) (by unfold Okb awP;decide) (rd_mark w 5 [.int .u8 129,.int .u8 161,.int .u8 97,.int .u8 202,.int .u8 63,.int .u8 192,.int .u8 0,.int .u8 0] (8,9)) (.inr ⟨_,_,rfl⟩))
  rw [awP_dec] at KD
  have HU:=Lib.hid hU;have HT:=Lib.hid hT;have HBA:=Lib.hid hba
  clear hU hT hba
  unfold DecC at KD
  go_enter Tryz.func25,Tryz.ntmps25
  go_wp2_with fail
  refine KD.out.mono ?_
  rintro r w1 ⟨t,rfl,hbare,hR,hb⟩
  replace hb:=below_on HBA.out hb
  have KE:=Lib.hid (fun W (h:Below w1.heap.size w1 W)=>encode_pk t W (hR.on h) (HU.out.below (hb.trans (h.mono hb.size))) (HT.out.below (hb.trans (h.mono hb.size))))
  rw [awP_encode hbare] at KE
  unfold EnP at KE
  obtain ⟨hvn,vb,vo,hva,hce⟩:=awC_cells hbare hR
  have hvlt:=lt_of_cell hce
  have HB:=Lib.hid hb
  clear hb hR hbare KD
  generalize t.c=c at *
  obtain ⟨k,b0,neg,ma,mn,mc,e,s,ka,kn,kc,va,vn,vc⟩:=c
  unfold Cel.val at *
  simp only at hvn hva
  subst hvn hva
  have hb2:Below w1.heap.size w1 (w1.alloc (.cells #[.int .i64 k,.bool b0,.bool neg,.slice ma mn mc,.int .i64 e,.string s,.slice ka kn kc,.slice (some ⟨vb,vo,none⟩) 1 vc] 29)):=(Below.refl _ _).alloc (Nat.le_refl _) _
  have KE2:=Lib.hid (KE.out _ hb2)
  have HB2:=Lib.hid hb2
  have q2:=heap_alloc_new w1 (.cells #[.int .i64 k,.bool b0,.bool neg,.slice ma mn mc,.int .i64 e,.string s,.slice ka kn kc,.slice (some ⟨vb,vo,none⟩) 1 vc] 29)
  have Q2:=Lib.hid q2
  clear hb2 KE q2
  go_wp2_with fail
  refine KE2.out.mono ?_
  rintro r w3 ⟨v,rfl,ho,hb3⟩
  obtain ⟨ad3,cap3,rfl,hc3,hr3,_,_,h03⟩:=own_viewN ho
  have HCV:=Lib.hid (conv_bv w3 ad3 8 cap3 awP rfl hr3)
  rw [show strB awP=⟨#[129,161,97,202,63,192,0,0]⟩ from rfl] at HCV
  have x3:=(hb3.cell (p:=⟨vb,vo+4,none⟩) (by simp;omega)).trans ((HB2.out.cell (p:=⟨vb,vo+4,none⟩) hvlt).trans hce)
  have q3:=(hb3.block _ (by simp)).trans Q2.out
  have HB3:=Lib.hid (HB.out.trans ((HB2.out.trans (hb3.mono HB2.out.size)).mono HB.out.size))
  clear hb3 KE2 ho hr3 h03 hc3 hce
  have y7:=(boxC q3 7 _ rfl).1
  clear q3
  have el:awP.length=8:=rfl
  rw [el]
  go_wp2_with fail
  rw [HCV.out]
  simp only [Result.andThen]
  rw [Oper.upon_value]
  go_wp2_with fail
  go_ret
  exact BoolBelow.mk rfl HB3.out

theorem sameStrings0 (w:World):Calls Tryz.prog 43 #[.slice none 0 0,.slice none 0 0] w (BoolBelow true w):=by
  have HB:=Lib.hid (Below.refl w.heap.size w)
  go_enter Tryz.func43,Tryz.ntmps43
  go_wp2_with fail
  go_loopg [5] 1 (fun g i wr=>i=.int .i64 0∧wr=w)
  case atStart=>exact ⟨rfl,rfl⟩
  case round =>
    obtain ⟨rfl,rfl⟩:=hrel
    go_wp2_with fail
    go_ret
    exact BoolBelow.mk rfl HB.out
theorem sameTree0 (w:World):Calls Tryz.prog 18 #[.agg #[.int .i64 0,.bool false,.bool false,.slice none 0 0,.int .i64 0,.string ⟨#[]⟩,.slice none 0 0,.slice none 0 0],.agg #[.int .i64 0,.bool false,.bool false,.slice none 0 0,.int .i64 0,.string ⟨#[]⟩,.slice none 0 0,.slice none 0 0]] w (BoolBelow true w):=by
  have KN:=Lib.hid (fun W=>sameNum_any false none 0 0 [] 0 none 0 W rfl (by omega) (by omega) (by omega) (Rd.nil _ _) (Rd.nil _ _))
  have KS:=Lib.hid sameStrings0
  have hb0:Below w.heap.size w ((w.alloc (.cells #[.int .i64 0,.bool false,.bool false,.slice none 0 0,.int .i64 0,.string ⟨#[]⟩,.slice none 0 0,.slice none 0 0] 29)).alloc (.cells #[.int .i64 0,.bool false,.bool false,.slice none 0 0,.int .i64 0,.string ⟨#[]⟩,.slice none 0 0,.slice none 0 0] 29)):=((Below.refl _ _).alloc (Nat.le_refl _) _).alloc (by simp) _
  have Q0:Hid (((w.alloc (.cells #[.int .i64 0,.bool false,.bool false,.slice none 0 0,.int .i64 0,.string ⟨#[]⟩,.slice none 0 0,.slice none 0 0] 29)).alloc (.cells #[.int .i64 0,.bool false,.bool false,.slice none 0 0,.int .i64 0,.string ⟨#[]⟩,.slice none 0 0,.slice none 0 0] 29)).heap[w.heap.size]? = some (.cells #[.int .i64 0,.bool false,.bool false,.slice none 0 0,.int .i64 0,.string ⟨#[]⟩,.slice none 0 0,.slice none 0 0] 29)):=Lib.hid ((Below.heap_alloc _ _ _ (by simp)).trans (heap_alloc_new w _))
  have Q1:Hid (((w.alloc (.cells #[.int .i64 0,.bool false,.bool false,.slice none 0 0,.int .i64 0,.string ⟨#[]⟩,.slice none 0 0,.slice none 0 0] 29)).alloc (.cells #[.int .i64 0,.bool false,.bool false,.slice none 0 0,.int .i64 0,.string ⟨#[]⟩,.slice none 0 0,.slice none 0 0] 29)).heap[w.heap.size+1]? = some (.cells #[.int .i64 0,.bool false,.bool false,.slice none 0 0,.int .i64 0,.string ⟨#[]⟩,.slice none 0 0,.slice none 0 0] 29)):=Lib.hid (by have:=heap_alloc_new (w.alloc (.cells #[.int .i64 0,.bool false,.bool false,.slice none 0 0,.int .i64 0,.string ⟨#[]⟩,.slice none 0 0,.slice none 0 0] 29)) (.cells #[.int .i64 0,.bool false,.bool false,.slice none 0 0,.int .i64 0,.string ⟨#[]⟩,.slice none 0 0,.slice none 0 0] 29);simpa using this)
  have HB0:=Lib.hid hb0
  clear hb0
  go_enter Tryz.func18,Tryz.ntmps18
  go_wp2_with fail
  refine (KN.out _).mono ?_
  rintro r w1 ⟨rfl,hb1⟩
  have p0:=(hb1.block w.heap.size (by simp;omega)).trans Q0.out
  have p1:=(hb1.block (w.heap.size+1) (by simp)).trans Q1.out
  have y0:=(boxC p0 0 _ rfl).1;have z0:=(boxC p1 0 _ rfl).1
  have y1:=(boxC p0 1 _ rfl).1;have z1:=(boxC p1 1 _ rfl).1
  have y2:=(boxC p0 2 _ rfl).1;have z2:=(boxC p1 2 _ rfl).1
  have y3:=(boxC p0 3 _ rfl).1;have z3:=(boxC p1 3 _ rfl).1
  have y4:=(boxC p0 4 _ rfl).1;have z4:=(boxC p1 4 _ rfl).1
  have y5:=(boxC p0 5 _ rfl).1;have z5:=(boxC p1 5 _ rfl).1
  have y6:=(boxC p0 6 _ rfl).1;have z6:=(boxC p1 6 _ rfl).1
  have y7:=(boxC p0 7 _ rfl).1;have z7:=(boxC p1 7 _ rfl).1
  have hs1:w.heap.size+1<w1.heap.size:=(Array.getElem?_eq_some_iff.1 p1).1
  have P0:=Lib.hid p0;have P1:=Lib.hid p1
  have HB1:=Lib.hid (HB0.out.trans (hb1.mono HB0.out.size))
  clear hb1 p0 p1
  go_wp2_with fail
  refine (KS.out _).mono ?_
  rintro r w2 ⟨rfl,hb2⟩
  clear y0 z0 y1 z1 y2 z2 y3 z3 y4 z4 y5 z5 y6 z6 y7 z7
  have p0:=(hb2.block w.heap.size (by omega)).trans P0.out
  have p1:=(hb2.block (w.heap.size+1) (by omega)).trans P1.out
  have y0:=(boxC p0 0 _ rfl).1;have z0:=(boxC p1 0 _ rfl).1
  have y1:=(boxC p0 1 _ rfl).1;have z1:=(boxC p1 1 _ rfl).1
  have y2:=(boxC p0 2 _ rfl).1;have z2:=(boxC p1 2 _ rfl).1
  have y3:=(boxC p0 3 _ rfl).1;have z3:=(boxC p1 3 _ rfl).1
  have y4:=(boxC p0 4 _ rfl).1;have z4:=(boxC p1 4 _ rfl).1
  have y5:=(boxC p0 5 _ rfl).1;have z5:=(boxC p1 5 _ rfl).1
  have y6:=(boxC p0 6 _ rfl).1;have z6:=(boxC p1 6 _ rfl).1
  have y7:=(boxC p0 7 _ rfl).1;have z7:=(boxC p1 7 _ rfl).1
  have HB2:=Lib.hid (below_on HB1.out hb2)
  clear hb2 p0 p1
  go_wp2_with fail
  go_loopg [5] 1 (fun g i wr=>i=.int .i64 0∧wr=w2)
  case atStart=>exact ⟨rfl,rfl⟩
  case round =>
    obtain ⟨rfl,hwr⟩:=hrel
    replace hwr:=hwr.symm
    subst hwr
    go_wp2_with fail
    go_ret
    exact BoolBelow.mk rfl HB2.out
theorem okb_append {a b:List Nat} (h:Okb a) (k:Okb b):Okb (a++b):=fun x hx=>by exact (List.mem_append.1 hx).elim (h x) (k x)
theorem wordP_ne {ng:Bool} {N:Nat} {e:Int} {k x:Nat} (h:wordP ng N e=some (k,x)):numP ng N e ≠ none:=by
  unfold numP;rw [h];simp
theorem whole_form {ng:Bool} {N:Nat} {e:Int} (h:wholeP ng N e ≠ none):numP ng N e ≠ none:=by
  cases h1:wholeP ng N e with
  | none=>exact absurd h1 h
  | some p=>exact wordP_ne (k:=p.1) (x:=p.2) (by unfold wordP;rw [h1])
theorem float_form {ng:Bool} {N:Nat} {e:Int} (h:toF 32 ng N e ≠ none∨toF 64 ng N e ≠ none):numP ng N e ≠ none:=by
  unfold numP wordP
  cases wholeP ng N e with
  | some p=>simp
  | none =>
    cases h2:toF 32 ng N e with
    | some y=>simp
    | none =>
      cases h3:toF 64 ng N e with
      | some y=>simp
      | none=>rw [h2,h3] at h;simp at h
theorem zero_form:numP false 0 0 ≠ none:=by
  refine whole_form ?_
  have hb:bitsN 0=0:=bitsN_z
  unfold wholeP intAt
  simp [hb]
theorem bits_le64 {M k:Nat} (h:M<2 ^ k):bitsN M≤k:=by
  by_cases h0:M=0
  · subst h0;rw [bitsN_z];omega
  · obtain ⟨t,h1,h2,_⟩:=bitsN_bounds h0
    rw [h1]
    have:=(Nat.pow_lt_pow_iff_right (show 1<2 by decide)).1 (Nat.lt_of_le_of_lt h2 h)
    omega
theorem encP_num (r:Bool × Nat × Int):encP (bnumC r)=numP r.1 r.2.1 r.2.2:=by
  rw [encP_eq]
  show numP r.1 (val (limbs r.2.1)) r.2.2=_
  rw [val_limbs]
theorem pnum_form (neg:Bool) (N:Nat) (h:if neg then N≤9223372036854775808 else N<18446744073709551616):encP (pkNum neg N) ≠ none:=by
  unfold pkNum
  cases hm:mkN neg N 0 with
  | none=>simp only;rw [encP_num];exact zero_form
  | some r =>
    simp only
    rw [encP_num]
    unfold mkN at hm
    split at hm
    · cases hm;exact zero_form
    · rename_i h0
      split at hm
      · cases hm
        simp only
        refine whole_form ?_
        have hs:=(trim_spec h0).1
        have h64:N<2 ^ 64:=by split at h <;> omega
        have hb:=bits_le64 h64
        unfold wholeP intAt
        rw [Int.zero_add,Int.toNat_natCast,← hs,if_pos ⟨by omega,by omega⟩]
        simp only
        cases neg with
        | true =>
          simp only [if_true] at h ⊢
          have:N - 1<2 ^ 63:=by omega
          rw [if_pos (bits_le64 this)]
          simp
        | false =>
          simp only [Bool.false_eq_true,if_false]
          rw [if_pos hb]
          simp
      · cases hm
theorem psigned_form (n:Nat) (h:n<18446744073709551616):encP (pkSigned n) ≠ none:=by
  unfold pkSigned
  split
  · exact pnum_form true _ (by simp only [if_true];omega)
  · exact pnum_form false _ (by simp only [Bool.false_eq_true,if_false];exact h)
theorem exact_form {width:Int} {e f x:Nat} {r:Bool × Nat × Int} (hl:layOf width=some (e,f)) (h:exactN width x=some r):r=(false,0,0)∨toF width r.1 r.2.1 r.2.2 ≠ none:=by
  unfold exactN at h
  split at h
  · cases h
    unfold exNegW exMW exEW
    rw [hl]
    simp only
    by_cases hk:kindF e f x=1
    · right
      rw [if_pos hk,if_pos hk]
      have ht:=to_ex (layOf_lay hl) hk
      unfold toF
      rw [hl]
      simp only
      rw [ht]
      split <;> simp
    · left
      rw [if_neg hk,if_neg hk,decide_eq_false hk]
      rfl
  · cases h
theorem pfloat_form {width:Int} {x:Nat} {t:MT} (hw:width=32∨width=64) (h:pkFloat width x=.inl t):encP t ≠ none:=by
  unfold pkFloat at h
  split at h
  · cases h
  · rename_i r hr
    cases h
    rw [encP_num]
    rcases hw with rfl | rfl
    · rcases exact_form (e:=8) (f:=23) rfl hr with rfl | h
      · exact zero_form
      · exact float_form (.inl h)
    · rcases exact_form (e:=11) (f:=52) rfl hr with rfl | h
      · exact zero_form
      · exact float_form (.inr h)
theorem catP_all:∀ {ps:List (Option (List Nat))},(∀ o∈ps,o ≠ none)→catP ps ≠ none:=by
  intro ps
  induction ps with
  | nil=>intro _;simp [catP]
  | cons o r ih =>
    intro h
    cases o with
    | none=>exact absurd rfl (h none (by simp))
    | some p =>
      have:=ih (fun o ho=>h o (by simp [ho]))
      cases hr:catP r with
      | none=>exact absurd hr this
      | some q=>simp [catP,hr]
theorem mbr_all {ks:List ByteArray} {us:List MT} (h:∀ u∈us,encP u ≠ none):catP (List.zipWith mbrP ks (us.map encP)) ≠ none:=by
  refine catP_all fun o ho=>?_
  rw [List.mem_iff_getElem] at ho
  obtain ⟨i,hi,rfl⟩:=ho
  rw [List.getElem_zipWith]
  rw [List.length_zipWith,List.length_map] at hi
  rw [List.getElem_map]
  have:=h us[i] (List.getElem_mem _)
  unfold mbrP
  split
  · rename_i hn;exact absurd hn this
  · simp
theorem leaf_form {k:Int} {b:Bool} {s:ByteArray} (h:k=1∨k=2∨k=4∨k=5):encP (leafT k b s) ≠ none:=by
  rw [encP_eq]
  rcases h with rfl | rfl | rfl | rfl <;> exact fun h=>by cases h
theorem arr_form {us:List MT} (h:∀ u∈us,encP u ≠ none):encP (barrC us) ≠ none:=by
  rw [encP_eq]
  show arrP us.length (us.map encP) ≠ none
  have:=catP_all (ps:=us.map encP) (fun o ho=>by
    obtain ⟨u,hu,rfl⟩:=List.mem_map.1 ho
    exact h u hu)
  unfold arrP
  cases hq:catP (us.map encP) with
  | none=>exact absurd hq this
  | some q=>simp
theorem obj_form {ks:List ByteArray} {us:List MT} (h:∀ u∈us,encP u ≠ none):encP (bobjC ks us) ≠ none:=by
  rw [encP_eq]
  show objP ks (us.map encP) ≠ none
  have:=mbr_all (ks:=ks) h
  unfold objP
  cases hq:catP (List.zipWith mbrP ks (us.map encP)) with
  | none=>exact absurd hq this
  | some q=>simp
def VFP (V:List Nat→Nat→RC MT):Prop:=∀ l n p,Okb l→V l n=.inl p→encP p.1 ≠ none∧Okb p.2.1
theorem pbytes_okb {k:Nat} {l p r:List Nat} (hb:Okb l) (h:pkBytes k l=.inl (p,r)):Okb r:=by
  unfold pkBytes at h
  split at h
  · cases h
  · split at h
    · cases h
    · simp only [Sum.inl.injEq,Prod.mk.injEq] at h
      obtain ⟨rfl,rfl⟩:=h
      exact okb_drop hb _
theorem ptext_okb {k:Nat} {l p r:List Nat} (hb:Okb l) (h:pkText k l=.inl (p,r)):Okb r:=by
  unfold pkText at h
  split at h
  · cases h
  · rename_i q r0 he
    split at h
    · simp only [Sum.inl.injEq,Prod.mk.injEq] at h
      obtain ⟨rfl,rfl⟩:=h
      exact pbytes_okb hb he
    · cases h
theorem pname_okb {l p r:List Nat} (hb:Okb l) (h:pkName l=.inl (p,r)):Okb r:=by
  unfold pkName at h
  split at h
  · cases h
  · rename_i h0 r0 he
    split at h
    · cases h
    · exact ptext_okb ((pkHead_ok hb he).b hb) h
theorem pitems_form {V:List Nat→Nat→RC MT} (hV:VFP V):∀ (f:Nat) (us:List MT) (l:List Nat) (n:Nat) (p:List MT × List Nat × Nat),Okb l→pkItems V f us l n=.inl p→(∀ u∈us,encP u ≠ none)→(∀ u∈p.1,encP u ≠ none)∧Okb p.2.1:=by
  intro f
  induction f with
  | zero =>
    intro us l n p hb h hu
    unfold pkItems at h
    simp only [Sum.inl.injEq] at h
    subst h
    exact ⟨hu,hb⟩
  | succ f ih =>
    intro us l n p hb h hu
    unfold pkItems at h
    split at h
    · cases h
    · rename_i t r3 n2 hv
      obtain ⟨g1,g2⟩:=hV _ _ _ hb hv
      exact ih _ _ _ _ g2 h (fun u hu'=>by
        rcases List.mem_append.1 hu' with h | h
        · exact hu u h
        · rw [List.mem_singleton.1 h];exact g1)
theorem pmems_form {V:List Nat→Nat→RC MT} (hV:VFP V):∀ (f:Nat) (ks:List ByteArray) (us:List MT) (l:List Nat) (n:Nat) (p:(List ByteArray × List MT) × List Nat × Nat),Okb l→pkMembers V f ks us l n=.inl p→ks.length=us.length→(∀ u∈us,encP u ≠ none)→(∀ u∈p.1.2,encP u ≠ none)∧Okb p.2.1∧p.1.1.length=p.1.2.length:=by
  intro f
  induction f with
  | zero =>
    intro ks us l n p hb h hk hu
    unfold pkMembers at h
    simp only [Sum.inl.injEq] at h
    subst h
    exact ⟨hu,hb,hk⟩
  | succ f ih =>
    intro ks us l n p hb h hk hu
    unfold pkMembers at h
    split at h
    · cases h
    · rename_i s r1 hs
      split at h
      · cases h
      · rename_i t r3 n2 hv
        obtain ⟨g1,g2⟩:=hV _ _ _ (pname_okb hb hs) hv
        exact ih _ _ _ _ _ g2 h (by simp;omega) (fun u hu'=>by
          rcases List.mem_append.1 hu' with h | h
          · exact hu u h
          · rw [List.mem_singleton.1 h];exact g1)
theorem pbehind_form {V:List Nat→Nat→RC MT} (hV:VFP V) (h0:HdM) (l:List Nat) (n:Nat) (p:MT × List Nat × Nat) (hb:Okb l) (hn:h0.2<18446744073709551616) (h:pkBehind V h0 l n=.inl p):encP p.1 ≠ none∧Okb p.2.1:=by
  unfold pkBehind at h
  split at h
  · simp only [Sum.inl.injEq] at h
    subst h
    exact ⟨leaf_form (by decide),hb⟩
  split at h
  · simp only [Sum.inl.injEq] at h
    subst h
    exact ⟨leaf_form (by decide),hb⟩
  split at h
  · simp only [Sum.inl.injEq] at h
    subst h
    exact ⟨leaf_form (by decide),hb⟩
  split at h
  · simp only [Sum.inl.injEq] at h
    subst h
    exact ⟨pnum_form false _ (by simp only [Bool.false_eq_true,if_false];exact hn),hb⟩
  split at h
  · simp only [Sum.inl.injEq] at h
    subst h
    exact ⟨psigned_form _ hn,hb⟩
  split at h
  · split at h
    · cases h
    · rename_i he
      simp only [Sum.inl.injEq] at h
      subst h
      exact ⟨pfloat_form (.inl rfl) he,hb⟩
  split at h
  · split at h
    · cases h
    · rename_i he
      simp only [Sum.inl.injEq] at h
      subst h
      exact ⟨pfloat_form (.inr rfl) he,hb⟩
  split at h
  · split at h
    · cases h
    · rename_i he
      simp only [Sum.inl.injEq] at h
      subst h
      exact ⟨leaf_form (by decide),ptext_okb hb he⟩
  split at h
  · split at h
    · cases h
    · rename_i he
      simp only [Sum.inl.injEq] at h
      subst h
      exact ⟨leaf_form (by decide),pbytes_okb hb he⟩
  split at h
  · unfold pkArr at h
    split at h
    · cases h
    · split at h
      · cases h
      · rename_i us r n2 he
        simp only [Sum.inl.injEq] at h
        subst h
        obtain ⟨g1,g2⟩:=pitems_form hV _ _ _ _ _ hb he (fun u hu=>by cases hu)
        exact ⟨arr_form g1,g2⟩
  split at h
  · unfold pkObj at h
    split at h
    · cases h
    · split at h
      · cases h
      · rename_i ks us r n2 he
        obtain ⟨g1,g2,g3⟩:=pmems_form hV _ _ _ _ _ _ hb he rfl (fun u hu=>by cases hu)
        split at h
        · simp only [Sum.inl.injEq] at h
          subst h
          have hpu:=mapC_sorted (ks:=ks) (us:=us) (leafT 0 false ⟨#[]⟩) (by have:ks.length=us.length:=g3;omega)
          exact ⟨obj_form (fun u hu=>g1 u (hpu.mem_iff.1 hu)),g2⟩
        · cases h
  · cases h
theorem pvalue_form:∀ f,VFP (pkValue f):=by
  intro f
  induction f with
  | zero=>intro l n p _ h;cases h
  | succ f ih =>
    intro l n p hb h
    rw [pkValue] at h
    split at h
    · cases h
    · rename_i h0 r2 hh
      have hk:=pkHead_ok hb hh
      split at h
      · cases h
      · exact pbehind_form ih h0 r2 (n+1) p (hk.b hb) hk.n h
theorem pkDecode_form {l:List Nat} {u:MT} (hb:Okb l) (h:pkDecode l=.inl u):encP u ≠ none:=by
  unfold pkDecode at h
  split at h
  · cases h
  · split at h
    · cases h
    · rename_i t r n he
      split at h
      · cases h
        exact (pvalue_form 65 _ _ _ hb he).1
      · cases h
theorem be_okb (k n:Nat):Okb (be k n):=be_lt k n
theorem mlay_lt (k n:Nat) (hk:n<18446744073709551616):(mlay k n).1<256:=by
  have h2:∀ q,stepN q≤3:=stepN_le
  have h3:∀ q,q<4294967296→stepN q≤2:=fun q h=>by
    unfold stepN;split <;> (try split) <;> (try split) <;> omega
  have hI:∀ (c:Prop) [Decidable c] (a b:Nat × Nat),(c→a.1<256)→(¬ c→b.1<256)→(if c then a else b).1<256:=by
    intro c _ a b h h'
    split
    · exact h ‹_›
    · exact h' ‹_›
  have e1:=h2 n
  have e2:=h2 ((18446744073709551615 - n)*2)
  have e3:=h3 (n % 4294967296) (Nat.mod_lt _ (by decide))
  unfold mlay
  repeat' (refine hI _ _ _ (fun _=>?_) (fun _=>?_))
  all_goals (simp only)
  all_goals omega
theorem mput_okb (k:Int) (n:Nat) (hk:n<18446744073709551616):Okb (mput k n):=by
  unfold mput
  split
  · intro x hx;cases hx
  · intro x hx
    rcases List.mem_cons.1 hx with rfl | hx
    · exact mlay_lt _ _ hk
    · exact be_okb _ _ x hx
theorem strP_okb (m:Nat) (s:ByteArray) (hz:s.size≤2000):Okb (strP m s):=okb_append (mput_okb _ _ (by omega)) (strN_okb s)
theorem catP_okb:∀ {ps:List (Option (List Nat))} {q:List Nat},(∀ p,some p∈ps→Okb p)→catP ps=some q→Okb q:=by
  intro ps
  induction ps with
  | nil=>intro q _ h;simp only [catP,Option.some.injEq] at h;subst h;intro x hx;cases hx
  | cons o r ih =>
    intro q hp h
    obtain ⟨p,q2,rfl,h2,rfl⟩:=catP_cons h
    exact okb_append (hp p (by simp)) (ih (fun p hp'=>hp p (by simp [hp'])) h2)
theorem numP_okb {ng:Bool} {xs:List Nat} {e:Int} {p:List Nat} (ho:Okl xs) (h:chkB ng xs e=true) (hp:numP ng (val xs) e=some p):Okb p:=by
  unfold numP at hp
  split at hp
  · cases hp
  · rename_i k x hw
    cases hp
    exact mput_okb _ _ (wordP_bd (chk_tens ho h) hw).1
theorem encP_okb (t:MT):∀ d p,SndC t d→CohC t→encP t=some p→Okb p:=by
  refine MT.ind (P:=fun t=>∀ d p,SndC t d→CohC t→encP t=some p→Okb p) ?_ t
  intro t ih d p hs hc hp
  obtain ⟨_,hso⟩:=hs.own
  have hV:∀ q,some q∈t.v.map encP→Okb q:=fun q hq=>by
    obtain ⟨u,hu,he⟩:=List.mem_map.1 hq
    exact ih u hu (d+1) q (hs.part hu) (hc.part hu) he
  rw [encP_eq] at hp
  split at hp
  · cases hp;exact mput_okb _ _ (by decide)
  split at hp
  · cases hp;unfold truthP;exact mput_okb _ _ (by decide)
  split at hp
  next c3=>exact numP_okb hc.own.2.1 (bare_numC hc c3 hso).1 hp
  split at hp
  next c4=>cases hp;exact strP_okb _ _ (bare_textC hc c4 hso).1.2
  split at hp
  next c5=>cases hp;exact strP_okb _ _ (bare_bytesC hc c5 hso).1
  split at hp
  next c6 =>
    have:=(bare_arrC hc c6 hso).1
    unfold arrP at hp
    split at hp
    · cases hp
    · rename_i q hq
      cases hp
      exact okb_append (mput_okb _ _ (by omega)) (catP_okb hV hq)
  split at hp
  next c7 =>
    obtain ⟨h1,h3,h4,_⟩:=bare_objC hc c7 hso
    unfold objP at hp
    split at hp
    · cases hp
    · rename_i q hq
      cases hp
      refine okb_append (mput_okb _ _ (by omega)) (catP_okb (fun p hp=>?_) hq)
      rw [List.mem_iff_getElem] at hp
      obtain ⟨i,hi,he⟩:=hp
      rw [List.length_zipWith,List.length_map] at hi
      rw [List.getElem_zipWith,List.getElem_map] at he
      unfold mbrP at he
      split at he
      · cases he
      · rename_i q0 hq0
        cases he
        exact okb_append (strP_okb _ _ (okN_valid (riseC_ok h4 _ (List.getElem_mem _))).1) (hV q0 (List.mem_map.2 ⟨_,List.getElem_mem _,hq0⟩))
  · cases hp;intro x hx;cases hx
theorem encoP_err {t:MT} {x:Int} (h:encoP t=.inr x):x=1∨x=4∨x=6:=by
  unfold encoP at h
  split at h
  · cases h;exact .inl rfl
  · split at h
    · cases h;exact .inr (.inr rfl)
    · split at h
      · cases h
      · cases h;exact .inr (.inl rfl)
theorem encoP_inl {t:MT} {l:List Nat} (h:encoP t=.inl l):checkB t=true∧encP t=some l∧l.length≤32768:=by
  unfold encoP at h
  split at h
  · cases h
  · rename_i hc
    split at h
    · cases h
    · rename_i p hp
      split at h
      · rename_i hl
        cases h
        exact ⟨by cases hq:checkB t <;> simp_all,hp,hl⟩
      · cases h
theorem encoP_may {t:MT} (h:checkB t=true) (hf:encP t ≠ none):∃ l,encP t=some l∧(encoP t=.inl l∧l.length≤32768∨encoP t=.inr 4):=by
  cases hp:encP t with
  | none=>exact absurd hp hf
  | some l =>
    refine ⟨l,rfl,?_⟩
    by_cases hl:l.length≤32768
    · exact .inl ⟨encoP_ok h hp hl,hl⟩
    · exact .inr (encoP_long h hp hl)
theorem pkDecode_nil:pkDecode []=.inr 2:=by kernel_rfl
end Go.Proofs.YtnacbakcalcgaaaGreatDoor
namespace Go.Proofs.YtnacbakcalcgaaaGreatDoor
open Go.Shelf Go.RowKit Go.Lib
def SameNC:Prop:=∀ (neg:Bool) (ma ma':Option Addr) (mn mc mc':Nat) (m:List Nat) (e:Int) (W:World),NumOk W neg ma mn mc m e→NumOk W neg ma' mn mc' m e→Calls Tryz.prog 42 #[.agg #[.bool neg,.slice ma mn mc,.int .i64 e],.agg #[.bool neg,.slice ma' mn mc',.int .i64 e]] W (BoolBelow true W)
theorem rdv_strC {w:World} {ad:Option Addr} {l:List ByteArray} {b o:Nat} (h:RdV w ad (sv l)) (e:ad=some ⟨b,o,none⟩) (i:Nat) (hi:i<l.length):w.cell? ⟨b,o+i,none⟩=some (.string (l.getD i ByteArray.empty)):=by
  subst e
  rw [h.at i (by rw [sv_len];exact hi),sv_get _ _ hi]
theorem bare_cellsC {t u:MT} (h:t.bare=u.bare):t.c.bare=u.c.bare∧t.m=u.m∧t.k=u.k∧t.v.map MT.bare=u.v.map MT.bare:=by
  rw [MT.bare_eq,MT.bare_eq] at h
  injection h with h1 h2 h3 h4
  exact ⟨h1,h2,h3,h4⟩
theorem sound_arr0C {t:MT} (hc:CohC t) (k:t.c.k=6) (h:soundB t=true):t.c.kn=0:=by
  obtain ⟨⟨ck,b,neg,ma,mn,mc,e,s,ka,kn,kc,va,vn,vc⟩,m,ks,vs⟩:=t
  simp only [MT.c] at k
  subst k
  have h':(decide (vn≤300) && blankB ⟨6,b,neg,ma,mn,mc,e,s,ka,kn,kc,none,0,0⟩)=true:=h
  rw [Bool.and_eq_true] at h'
  exact (blank_factsC h'.2).2.2.2.2.2.1
theorem sound_kindsC {t:MT} (h:soundB t=true):t.c.k=1∨t.c.k=2∨t.c.k=3∨t.c.k=4∨t.c.k=5∨t.c.k=6∨t.c.k=7:=by
  unfold soundB at h
  by_cases c1:t.c.k=1
  · exact .inl c1
  by_cases c2:t.c.k=2
  · exact .inr (.inl c2)
  by_cases c3:t.c.k=3
  · exact .inr (.inr (.inl c3))
  by_cases c4:t.c.k=4
  · exact .inr (.inr (.inr (.inl c4)))
  by_cases c5:t.c.k=5
  · exact .inr (.inr (.inr (.inr (.inl c5))))
  by_cases c6:t.c.k=6
  · exact .inr (.inr (.inr (.inr (.inr (.inl c6)))))
  by_cases c7:t.c.k=7
  · exact .inr (.inr (.inr (.inr (.inr (.inr c7)))))
  rw [if_neg c1,if_neg c2,if_neg c3,if_neg c4,if_neg c5,if_neg c7,if_neg c6] at h
  cases h
theorem refSame_anyC (KN:SameNC) (t:MT):∀ (u:MT) (d:Nat) (w:World),t.bare=u.bare→SndC t d→Rep w t→Rep w u→Calls Tryz.prog 17 #[t.c.val,u.c.val] w (BoolBelow true w):=by
  refine MT.ind (P:=fun t=>∀ (u:MT) (d:Nat) (w:World),t.bare=u.bare→SndC t d→Rep w t→Rep w u→Calls Tryz.prog 17 #[t.c.val,u.c.val] w (BoolBelow true w)) ?_ t
  intro t ih u d w hbe hs hR hU
  have own:=hR.own
  have own2:=hU.own
  have hco:=CohC.of hR
  obtain ⟨e1,e2,e3,e4⟩:=bare_cellsC hbe
  have hso:=hs.own.2
  obtain ⟨Wb,hWb⟩:∃ x,two2 w t.c u.c=x:=⟨_,rfl⟩
  have hb0:Below w.heap.size w Wb:=by rw [← hWb];exact two_below2 _ _ _
  have hsz:Wb.heap.size=w.heap.size+2:=by rw [← hWb,two2_size]
  have ya:BoxT Wb w.heap.size t.c:=by rw [← hWb];exact (two2_box w t.c u.c).1
  have yb:BoxT Wb (w.heap.size+1) u.c:=by rw [← hWb];exact (two2_box w t.c u.c).2
  have HB:=Lib.hid hb0
  have HZ:=Lib.hid hsz
  have KNN:=Lib.hid (fun (h3:t.c.k=3) (W:World) (h:Below w.heap.size w W)=>(by
    have hck:=(bare_numC hco h3 hso).1
    have n1:NumOk W t.c.neg t.c.ma t.c.mn t.c.mc t.m t.c.e:=⟨own.mn,own.mc,own.mo,own.mr.below h,hck⟩
    have f1:u.c.neg=t.c.neg:=(by have:=congrArg Cel.neg e1.symm;exact this)
    have f2:u.c.mn=t.c.mn:=(by have:=congrArg Cel.mn e1.symm;exact this)
    have f3:u.c.e=t.c.e:=(by have:=congrArg Cel.e e1.symm;exact this)
    have n2:NumOk W t.c.neg u.c.ma t.c.mn u.c.mc t.m t.c.e:=⟨own.mn,by rw [← f2];exact own2.mc,own.mo,by rw [e2];exact own2.mr.below h,hck⟩
    exact KN _ _ _ _ _ _ _ _ W n1 n2:Calls Tryz.prog 42 #[.agg #[.bool t.c.neg,.slice t.c.ma t.c.mn t.c.mc,.int .i64 t.c.e],.agg #[.bool t.c.neg,.slice u.c.ma t.c.mn u.c.mc,.int .i64 t.c.e]] W (BoolBelow true W)))
  have HK1:=Lib.hid (fun W (h:Below w.heap.size w W)=>own.kr.on h)
  have HK2:=Lib.hid (fun W (h:Below w.heap.size w W)=>(by have:=own2.kr.on h;rwa [← e3] at this:RdV W u.c.ka (sv t.k)))
  have HV1:=Lib.hid (fun W (h:Below w.heap.size w W)=>own.vr.on h)
  have HV2:=Lib.hid (fun W (h:Below w.heap.size w W)=>own2.vr.on h)
  have HVL:=Lib.hid own.vn
  have HKL:=Lib.hid own.kn
  have hlen:t.v.length=u.v.length:=by have:=congrArg List.length e4;rwa [List.length_map,List.length_map] at this
  have HVU:=Lib.hid hlen
  have HLM:=Lib.hid own.lm
  have HA0:=Lib.hid (fun (h6:t.c.k=6)=>sound_arr0C hco h6 hso)
  have HKD:=Lib.hid (show t.c.k=1∨t.c.k=2∨t.c.k=3∨t.c.k=4∨t.c.k=5∨t.c.k=6∨t.c.k=7 by
    exact sound_kindsC hso)
  have KI:=Lib.hid (fun (j:Nat) (hj:j<t.v.length) (W:World) (h:Below w.heap.size w W)=>ih (t.v.getD j (leafT 0 false ⟨#[]⟩)) (by simp [List.getD,hj]) (u.v.getD j (leafT 0 false ⟨#[]⟩)) (d+1) W
    (by
      have:=congrArg (fun l=>l.getD j (leafT 0 false ⟨#[]⟩).bare) e4
      simpa [List.getD,hj,(by omega:j<u.v.length)] using this)
    (hs.part (by simp [List.getD,hj])) ((hR.part (by simp [List.getD,hj])).on h) ((hU.part (by simp [List.getD,(by omega:j<u.v.length)])).on h))
  have hwb:=hWb
  have g1:u.c.k=t.c.k:=(by have:=congrArg Cel.k e1.symm;exact this)
  have g2:u.c.b=t.c.b:=(by have:=congrArg Cel.b e1.symm;exact this)
  have g3:u.c.neg=t.c.neg:=(by have:=congrArg Cel.neg e1.symm;exact this)
  have g4:u.c.mn=t.c.mn:=(by have:=congrArg Cel.mn e1.symm;exact this)
  have g5:u.c.e=t.c.e:=(by have:=congrArg Cel.e e1.symm;exact this)
  have g6:u.c.s=t.c.s:=(by have:=congrArg Cel.s e1.symm;exact this)
  have g7:u.c.kn=t.c.kn:=(by have:=congrArg Cel.kn e1.symm;exact this)
  have g8:u.c.vn=t.c.vn:=(by have:=congrArg Cel.vn e1.symm;exact this)
  clear hb0 hsz own own2 hbe hs hR hU ih hWb e1 e2 e3 e4 hso hco hlen KN
  generalize t.k=names at *
  generalize t.v=vals at *
  generalize u.v=vals' at *
  generalize t.m=limbs at *
  generalize t.c=c at *
  generalize u.c=c' at *
  obtain ⟨k,b0,neg,ma,mn,mc,e,st,ka,kn,kc,va,vn,vc⟩:=c
  obtain ⟨k',b0',neg',ma',mn',mc',e',st',ka',kn',kc',va',vn',vc'⟩:=c'
  simp only at g1 g2 g3 g4 g5 g6 g7 g8
  subst g1 g2 g3 g4 g5 g6 g7 g8
  unfold Cel.val
  obtain ⟨a0,a1,a2,a3,a4,a5,a6,a7⟩:=ya.cells
  obtain ⟨b0,b1,b2,b3,b4,b5,b6,b7⟩:=yb.cells
  simp only at a0 a1 a2 a3 a4 a5 a6 a7 b0 b1 b2 b3 b4 b5 b6 b7
  have HLA:=Lib.hid ya.lt;have HLB:=Lib.hid yb.lt
  clear ya yb
  unfold two2 Cel.cells at hwb
  simp only at hwb KNN HK1 HK2 HV1 HV2 HVL HKL HLM HA0 HKD
  have HWB:=Lib.hid hwb
  clear hwb
  have hkd:=HKD.out
  have hnn:∀ x:Nat,((x:Int) != (x:Int))=false:=fun x=>by simp
  have hn1:=hnn vn'
  have hn2:=hnn kn'
  clear hnn
  rcases hkd with hk | hk | hk | hk | hk | hk | hk
  iterate 2
    · subst hk
      go_enter Tryz.func17,Tryz.ntmps17
      go_upto_region 1 with fail
      rw [HWB.out]
      go_wp2
      go_ret
      exact BoolBelow.mk (by simp) HB.out
  · subst hk
    have KNX:=Lib.hid (KNN.out rfl)
    go_enter Tryz.func17,Tryz.ntmps17
    go_upto_region 1 with fail
    rw [HWB.out]
    go_wp2_with fail
    refine (KNX.out _ HB.out).mono ?_
    rintro r w5 ⟨rfl,hb5⟩
    have HF:=Lib.hid (HB.out.trans (hb5.mono HB.out.size))
    clear hb5
    go_wp2
    go_ret
    exact BoolBelow.mk rfl HF.out
  iterate 2
    · subst hk
      go_enter Tryz.func17,Tryz.ntmps17
      go_upto_region 1 with fail
      rw [HWB.out]
      go_wp2
      go_ret
      exact BoolBelow.mk (by simp) HB.out
  · subst hk
    have hkn:=HA0.out rfl
    subst hkn
    have hvn:vn'≤1000000000000000:=HLM.out.2.2
    go_enter Tryz.func17,Tryz.ntmps17
    go_upto_region 1 with fail
    rw [HWB.out]
    go_wp2
    go_loopg [5] 0 (fun g i wr=>∃ q d:Nat,q≤0∧0 - q≤g∧i=.int .i64 (q:Int)∧wr=Wb.drewN d)
    case atStart=>exact ⟨0,0,Nat.zero_le _,by omega,rfl,rfl⟩
    case round =>
      obtain ⟨q,d,hq,hgq,rfl,hd⟩:=hrel
      obtain rfl:q=0:=by omega
      have HW:=Lib.hid (below_drewN (Below.refl Wb.heap.size Wb) d)
      subst hd
      go_wp2
      go_loopg [6] vn' (fun g i wr=>∃ q:Nat,q≤vn'∧vn' - q≤g∧i=.int .i64 (q:Int)∧Below Wb.heap.size Wb wr)
      case atStart=>exact ⟨0,Nat.zero_le _,by omega,rfl,HW.out⟩
      case round =>
        clear HW
        obtain ⟨q,hq,hgq,rfl,hb⟩:=hrel
        have HBW:=Lib.hid hb
        have HF:=Lib.hid (HB.out.trans (hb.mono HB.out.size))
        obtain ⟨hc,hf⟩:=bcell hb
        have a7':=(hc w.heap.size 7 HLA.out).trans a7
        have b7':=(hc (w.heap.size+1) 7 HLB.out).trans b7
        by_cases hlt:q<vn'
        · obtain ⟨g,rfl⟩:∃ g,gk=g+1:=⟨gk - 1,by omega⟩
          have i1:(q:Int)<(vn':Int):=by omega
          have i2:(0:Int)≤(q:Int):=by omega
          have hqv:q<vals.length:=by rw [HVL.out];exact hlt
          have hqu:q<vals'.length:=by rw [← HVU.out];exact hqv
          have hr1:=HV1.out wr HF.out
          have hr2:=HV2.out wr HF.out
          obtain ⟨xb,xo,rfl,_⟩:=hr1.shape (by rw [flat_len,List.length_map];omega)
          obtain ⟨zb,zo,rfl,_⟩:=hr2.shape (by rw [flat_len,List.length_map];omega)
          obtain ⟨p0,p1,p2,p3,p4,p5,p6,p7⟩:=flat_at hr1 q (by rw [List.length_map];exact hqv) (c:=(vals.getD q (leafT 0 false ⟨#[]⟩)).c) (getD_mapc hqv _)
          obtain ⟨z0,z1,z2,z3,z4,z5,z6,z7⟩:=flat_at hr2 q (by rw [List.length_map];exact hqu) (c:=(vals'.getD q (leafT 0 false ⟨#[]⟩)).c) (getD_mapc hqu _)
          have KS:=Lib.hid (KI.out q hqv)
          generalize (vals.getD q (leafT 0 false ⟨#[]⟩)).c=cx at *
          generalize (vals'.getD q (leafT 0 false ⟨#[]⟩)).c=cz at *
          obtain ⟨xk,xbb,xneg,xma,xmn,xmc,xe,xs,xka,xkn,xkc,xva,xvn,xvc⟩:=cx
          obtain ⟨zk,zbb,zneg,zma,zmn,zmc,ze,zs,zka,zkn,zkc,zva,zvn,zvc⟩:=cz
          unfold Cel.val at KS
          simp only at p0 p1 p2 p3 p4 p5 p6 p7 z0 z1 z2 z3 z4 z5 z6 z7
          clear hc hf hb hr1 hr2
          go_wp2
          go_still_tail 10,(by kernel_rfl)
          change wpList _ _ _ _ _ wr.drew
          have HBD:=Lib.hid HBW.out.drew
          generalize wr.drew=W at HBD ⊢
          go_wp2_with fail
          refine (KS.out _ (HB.out.trans (HBD.out.mono HB.out.size))).mono ?_
          rintro r w5 ⟨rfl,hb5⟩
          have HB5:=Lib.hid (below_on HBD.out hb5)
          clear hb5
          go_wp2
          go_roundg g
          case rel=>exact ⟨q+1,by omega,by omega,by simp,HB5.out⟩
          case measure=>omega
        · have i1:¬ (q:Int)<(vn':Int):=by omega
          clear hc hf hb
          go_wp2
          go_ret
          exact BoolBelow.mk rfl HF.out
  · subst hk
    have hvn:vn'≤1000000000000000:=HLM.out.2.2
    have hkn6:kn'≤1000000000000000:=HLM.out.2.1
    go_enter Tryz.func17,Tryz.ntmps17
    go_upto_region 1 with fail
    rw [HWB.out]
    go_wp2
    go_loopg [5] kn' (fun g i wr=>∃ q d:Nat,q≤kn'∧kn' - q≤g∧i=.int .i64 (q:Int)∧wr=Wb.drewN d)
    case atStart=>exact ⟨0,0,Nat.zero_le _,by omega,rfl,rfl⟩
    case round =>
      obtain ⟨q,d,hq,hgq,rfl,hd⟩:=hrel
      by_cases hlk:q<kn'
      · obtain ⟨g,rfl⟩:∃ g,gk=g+1:=⟨gk - 1,by omega⟩
        have i1:(q:Int)<(kn':Int):=by omega
        have i2:(0:Int)≤(q:Int):=by omega
        have hqk:q<names.length:=by rw [HKL.out];exact hlk
        have hr1:=HK1.out Wb HB.out
        have hr2:=HK2.out Wb HB.out
        obtain ⟨xb,xo,rfl,_⟩:=hr1.shape (by rw [sv_len];omega)
        obtain ⟨zb,zo,rfl,_⟩:=hr2.shape (by rw [sv_len];omega)
        have c1:=rdv_strC hr1 rfl q hqk
        have c2:=rdv_strC hr2 rfl q hqk
        generalize names.getD q ByteArray.empty=x at c1 c2
        have hx:(x.toList != x.toList)=false:=by simp
        clear hr1 hr2
        subst hd
        go_wp2
        go_quiet (fail)
        go_wp2
        go_roundg g
        case rel=>exact ⟨q+1,_,by omega,by omega,by simp,rfl⟩
        case measure=>omega
      · have i1:¬ (q:Int)<(kn':Int):=by omega
        have HW:=Lib.hid (below_drewN (Below.refl Wb.heap.size Wb) d)
        subst hd
        go_wp2
        go_loopg [6] vn' (fun g i wr=>∃ q:Nat,q≤vn'∧vn' - q≤g∧i=.int .i64 (q:Int)∧Below Wb.heap.size Wb wr)
        case atStart=>exact ⟨0,Nat.zero_le _,by omega,rfl,HW.out⟩
        case round =>
          clear HW
          obtain ⟨q,hq,hgq,rfl,hb⟩:=hrel
          have HBW:=Lib.hid hb
          have HF:=Lib.hid (HB.out.trans (hb.mono HB.out.size))
          obtain ⟨hc,hf⟩:=bcell hb
          have a7':=(hc w.heap.size 7 HLA.out).trans a7
          have b7':=(hc (w.heap.size+1) 7 HLB.out).trans b7
          by_cases hlt:q<vn'
          · obtain ⟨g,rfl⟩:∃ g,gk=g+1:=⟨gk - 1,by omega⟩
            have i1:(q:Int)<(vn':Int):=by omega
            have i2:(0:Int)≤(q:Int):=by omega
            have hqv:q<vals.length:=by rw [HVL.out];exact hlt
            have hqu:q<vals'.length:=by rw [← HVU.out];exact hqv
            have hr1:=HV1.out wr HF.out
            have hr2:=HV2.out wr HF.out
            obtain ⟨xb,xo,rfl,_⟩:=hr1.shape (by rw [flat_len,List.length_map];omega)
            obtain ⟨zb,zo,rfl,_⟩:=hr2.shape (by rw [flat_len,List.length_map];omega)
            obtain ⟨p0,p1,p2,p3,p4,p5,p6,p7⟩:=flat_at hr1 q (by rw [List.length_map];exact hqv) (c:=(vals.getD q (leafT 0 false ⟨#[]⟩)).c) (getD_mapc hqv _)
            obtain ⟨z0,z1,z2,z3,z4,z5,z6,z7⟩:=flat_at hr2 q (by rw [List.length_map];exact hqu) (c:=(vals'.getD q (leafT 0 false ⟨#[]⟩)).c) (getD_mapc hqu _)
            have KS:=Lib.hid (KI.out q hqv)
            generalize (vals.getD q (leafT 0 false ⟨#[]⟩)).c=cx at *
            generalize (vals'.getD q (leafT 0 false ⟨#[]⟩)).c=cz at *
            obtain ⟨xk,xbb,xneg,xma,xmn,xmc,xe,xs,xka,xkn,xkc,xva,xvn,xvc⟩:=cx
            obtain ⟨zk,zbb,zneg,zma,zmn,zmc,ze,zs,zka,zkn,zkc,zva,zvn,zvc⟩:=cz
            unfold Cel.val at KS
            simp only at p0 p1 p2 p3 p4 p5 p6 p7 z0 z1 z2 z3 z4 z5 z6 z7
            clear hc hf hb hr1 hr2
            go_wp2
            go_still_tail 10,(by kernel_rfl)
            change wpList _ _ _ _ _ wr.drew
            have HBD:=Lib.hid HBW.out.drew
            generalize wr.drew=W at HBD ⊢
            go_wp2_with fail
            refine (KS.out _ (HB.out.trans (HBD.out.mono HB.out.size))).mono ?_
            rintro r w5 ⟨rfl,hb5⟩
            have HB5:=Lib.hid (below_on HBD.out hb5)
            clear hb5
            go_wp2
            go_roundg g
            case rel=>exact ⟨q+1,by omega,by omega,by simp,HB5.out⟩
            case measure=>omega
          · have i1:¬ (q:Int)<(vn':Int):=by omega
            clear hc hf hb
            go_wp2
            go_ret
            exact BoolBelow.mk rfl HF.out
end Go.Proofs.YtnacbakcalcgaaaGreatDoor
namespace Go.Proofs.YtnacbakcalcgaaaGreatDoor
open Go.RowKit
theorem refNorm_any (ad:Option Addr) (n cap:Nat) (xs:List Nat) (w:World) (hn:xs.length=n) (hcap:n≤cap) (hm:n≤100000000) (ho:Okl xs) (hr:Rd w ad xs) :
    Calls Tryz.prog 60 #[.slice ad n cap] w (Gives (val xs) w):=by
  have hcl:=cutLen_le xs n
  have hcv:=cut_limbs ho
  rw [hn] at hcv
  have hr':=hr.take (cutLen xs n)
  have hlc:(xs.take (cutLen xs n)).length=cutLen xs n:=by rw [List.length_take];omega
  have hot:=ho.take (cutLen xs n)
  have HN:=Lib.hid hn;clear hn
  have HF:Hid (∀ v w1,Own w.heap.size w1 v ([]++xs.take (cutLen xs n))→Below w.heap.size w w1→Gives (val xs) w (.returned v) w1):=fun v w1 h1 h2=>⟨v,rfl,by rw [← hcv];simpa using h1,h2⟩
  clear hcv
  have HC:=Lib.hid (rfl:cutLen xs n=cutLen xs n)
  generalize hc0:cutLen xs n=c at *
  have HC0:=Lib.hid hc0;clear hc0 HC
  generalize hY:xs.take c=Y at *
  clear hY
  have HLC:=Lib.hid hlc;clear hlc
  go_enter Tryz.func60,Tryz.ntmps60
  go_wp2
  go_loop [3] (fun i=>∃ k:Nat,k≤n∧i=.int .i64 k∧cutLen xs k=c) (fun i=>(intOf i).toNat)
  case atStart=>exact ⟨n,Nat.le_refl _,rfl,HC0.out⟩
  case round =>
    obtain ⟨k,hk,rfl,he⟩:=hrel
    have HE:=Lib.hid he;clear he
    rcases k with _ | k
    · have h0:c=0:=by rw [← HE.out];rfl
      subst h0
      go_wp2_with (at_builtin;refine wpl_append_rd rfl _ _ rfl w.heap.size _ [] rfl (Own.nil _ _) _ _ _ Y rfl hot HLC.out hr' (by simp) (Nat.le_refl _) ?_;intro v' w' hv hb)
      go_ret
      exact HF.out _ _ hv hb
    · obtain ⟨b,o,hadd,_,hc⟩:=hr k (by rw [HN.out];omega)
      subst hadd
      generalize hx:xs.getD k 0=x at *
      have HX:=Lib.hid hx;clear hx
      by_cases hz:x=0
      · go_wp2
        go_round
        case rel=>exact ⟨k,by omega,rfl,by rw [← HE.out];simp only [cutLen];rw [if_pos (by rw [HX.out];exact hz)]⟩
        case measure=>simp [intOf]
      · have h0:c=k+1:=by rw [← HE.out];simp only [cutLen];rw [if_neg (by rw [HX.out];exact hz)]
        subst h0
        go_wp2_with (at_builtin;refine wpl_append_rd rfl _ _ rfl w.heap.size _ [] rfl (Own.nil _ _) _ _ _ Y rfl hot HLC.out hr' (by simp;omega) (Nat.le_refl _) ?_;intro v' w' hv hb)
        go_ret
        exact HF.out _ _ hv hb
theorem limb_any (ad:Option Addr) (n cap:Nat) (xs:List Nat) (i:Nat) (w:World) (hn:xs.length=n) (hcap:n≤cap) (hm:n≤1000000000) (hi:i≤1000000000) (ho:Okl xs) (hr:Rd w ad xs) :
    Calls Tryz.prog 59 #[.slice ad n cap,.int .i64 (i:Int)] w fun e w'=>e=.returned (.int .u64 ((xs.getD i 0:Nat):Int))∧w'=w:=by
  by_cases hin:i<n
  · obtain ⟨b,o,rfl,_,hc⟩:=hr i (by omega)
    have hin':(i:Int)<(n:Int):=by omega
    have hx:xs.getD i 0<4294967296:=ho.getD i
    generalize xs.getD i 0=x at *
    go_enter Tryz.func59,Tryz.ntmps59
    go_wp2
    go_ret
    exact ⟨rfl,rfl⟩
  · have hin':¬ ((i:Int)<(n:Int)):=by omega
    have hx:xs.getD i 0=0:=getD_out (by omega)
    rw [hx]
    go_enter Tryz.func59,Tryz.ntmps59
    go_wp2
    go_ret
    exact ⟨rfl,rfl⟩
def pad (xs:List Nat) (m:Nat):List Nat:=xs++List.replicate (m - xs.length) 0
theorem pad_len {xs:List Nat} {m:Nat} (h:xs.length≤m):(pad xs m).length=m:=by simp [pad];omega
theorem pad_ok {xs:List Nat} (h:Okl xs) (m:Nat):Okl (pad xs m):=h.append (Okl.replicate _)
theorem pad_val (xs:List Nat) (m:Nat):val (pad xs m)=val xs:=val_behind xs _
theorem pad_getD (xs:List Nat) (m i:Nat):(pad xs m).getD i 0=xs.getD i 0:=by
  unfold pad
  simp only [List.getD,List.getElem?_append,List.getElem?_replicate]
  by_cases h:i<xs.length
  · simp [h]
  · simp only [h,if_false]
    split <;> simp [List.getElem?_eq_none (by omega:xs.length≤i)]
theorem val_top_pad {xs ys:List Nat} (hx:Okl xs) (hy:Okl ys) {m:Nat} (h1:xs.length≤m) (h2:ys.length≤m) (j:Nat) (hj:j<m) (hs:∀ i,j+1≤i→xs.getD i 0=ys.getD i 0) (h:xs.getD j 0<ys.getD j 0):val xs<val ys:=by
  rw [← pad_val xs m,← pad_val ys m]
  exact val_top_lt (pad_ok hx m) (pad_ok hy m) (by rw [pad_len h1,pad_len h2]) j (by rw [pad_len h1];exact hj) (fun i hi=>by rw [pad_getD,pad_getD];exact hs i hi) (by rw [pad_getD,pad_getD];exact h)
theorem val_same_pad {xs ys:List Nat} {m:Nat} (h1:xs.length≤m) (h2:ys.length≤m) (hs:∀ i,0≤i→xs.getD i 0=ys.getD i 0):val xs=val ys:=by
  rw [← pad_val xs m,← pad_val ys m]
  exact congrArg val (list_eq_of_getD (xs:=pad xs m) (ys:=pad ys m) (by rw [pad_len h1,pad_len h2]) (fun i hi=>by rw [pad_getD,pad_getD];exact hs i hi))
theorem refCmp_any (ad:Option Addr) (n cap:Nat) (xs:List Nat) (ad':Option Addr) (n' cap':Nat) (ys:List Nat) (w:World) (hn:xs.length=n) (hcap:n≤cap) (hm:n≤100000000) (ho:Okl xs) (hr:Rd w ad xs)
    (hn':ys.length=n') (hcap':n'≤cap') (hm':n'≤100000000) (ho':Okl ys) (hr':Rd w ad' ys) :
    Calls Tryz.prog 61 #[.slice ad n cap,.slice ad' n' cap'] w (CmpPost (val xs) (val ys) w):=by
  have KA:=Lib.hid (fun (i:Nat) q (hi:i≤1000000000)=>limb_any ad n cap xs i (w.drewN q) hn hcap (by omega) hi ho (hr.drewN q))
  have KB:=Lib.hid (fun (i:Nat) q (hi:i≤1000000000)=>limb_any ad' n' cap' ys i (w.drewN q) hn' hcap' (by omega) hi ho' (hr'.drewN q))
  obtain ⟨m,hmm⟩:∃ m,m=max n n':=⟨_,rfl⟩
  have hl1:xs.length≤m:=by omega
  have hl2:ys.length≤m:=by omega
  have hm9:m≤100000000:=by omega
  have HV1:=Lib.hid (fun j hj hs=>val_top_pad ho ho' hl1 hl2 j hj hs)
  have HV2:=Lib.hid (fun j hj hs=>val_top_pad ho' ho hl2 hl1 j hj hs)
  have HV3:=Lib.hid (val_same_pad (xs:=xs) (ys:=ys) hl1 hl2)
  have HA:=Lib.hid ho
  have HB:=Lib.hid ho'
  have H1:=Lib.hid (fun j (h:m≤j)=>getD_out (xs:=xs) (j:=j) (by omega))
  have H2:=Lib.hid (fun j (h:m≤j)=>getD_out (xs:=ys) (j:=j) (by omega))
  have HM:=Lib.hid (show max (n:Int) (n':Int)=(m:Int) by omega)
  clear hn hn' ho ho' hr hr' hl1 hl2 hmm
  generalize val xs=a at *
  generalize val ys=b at *
  go_enter Tryz.func61,Tryz.ntmps61
  go_wp2_with fail
  rw [HM.out]
  go_loopw [5] (fun i wr=>CmpRel xs ys m w i wr) (fun i _=>(intOf i+1).toNat)
  case atStart=>exact ⟨m,0,Nat.le_refl _,rfl,fun j hj=>by rw [H1.out j hj,H2.out j hj],rfl⟩
  case round =>
    obtain ⟨k,q,hk,rfl,hs,rfl⟩:=hrel
    have HS:=Lib.hid hs;clear hs
    rcases k with _ | j
    · have hab:a=b:=HV3.out HS.out
      have H:=Lib.hid (show CmpPost a b w (.returned (.int .i64 0)) (w.drewN q) from ⟨by rw [hab,cmpN_eq],q,rfl⟩)
      clear hab
      rw [show (((0:Nat):Int) - 1) = -1 from rfl]
      go_wp2
      go_ret
      exact H.out
    · rw [show (((j+1:Nat):Int) - 1)=(j:Int) by omega]
      have hv1:=Lib.hid (HV1.out j (by omega) HS.out)
      have hv2:=Lib.hid (HV2.out j (by omega) (fun i hi=>(HS.out i hi).symm))
      have HJ:Hid (xs.getD j 0=ys.getD j 0→∀ i,j≤i→xs.getD i 0=ys.getD i 0):=fun h0 i hi=>by
        by_cases hij:i=j
        · subst hij;exact h0
        · exact HS.out i (by omega)
      have KA':=Lib.hid (fun q=>KA.out j q (by omega))
      have KB':=Lib.hid (fun q=>KB.out j q (by omega))
      clear KA KB HV1 HV2
      generalize xs.getD j 0=x at *
      generalize ys.getD j 0=y at *
      rcases Nat.lt_trichotomy x y with hxy | hxy | hxy
      · have hab:=hv1.out hxy
        have hxy':(x:Int)<(y:Int):=by omega
        have H:=Lib.hid (cmpN_lt hab)
        clear hab HJ
        go_wp2_with fail
        refine (KA'.out q).mono ?_
        rintro e w' ⟨rfl,rfl⟩
        go_wp2_with fail
        refine (KB'.out _).mono ?_
        rintro e w' ⟨rfl,rfl⟩
        go_wp2
        go_ret
        exact ⟨by rw [H.out];rfl,_,rfl⟩
      · subst hxy
        go_wp2_with fail
        refine (KA'.out q).mono ?_
        rintro e w' ⟨rfl,rfl⟩
        go_wp2_with fail
        refine (KB'.out _).mono ?_
        rintro e w' ⟨rfl,rfl⟩
        go_wp2_with fail
        refine (KA'.out q).mono ?_
        rintro e w' ⟨rfl,rfl⟩
        go_wp2_with fail
        refine (KB'.out _).mono ?_
        rintro e w' ⟨rfl,rfl⟩
        go_wp2
        go_roundw
        case rel=>exact ⟨j,_,by omega,by go_num,by first | exact HJ.out rfl | exact HJ.out trivial,rfl⟩
        case measure=>simp [intOf]
      · have hab:=hv2.out hxy
        have hxy':(y:Int)<(x:Int):=by omega
        have H:=Lib.hid (cmpN_gt hab)
        clear hab HJ
        go_wp2_with fail
        refine (KA'.out q).mono ?_
        rintro e w' ⟨rfl,rfl⟩
        go_wp2_with fail
        refine (KB'.out _).mono ?_
        rintro e w' ⟨rfl,rfl⟩
        go_wp2_with fail
        refine (KA'.out q).mono ?_
        rintro e w' ⟨rfl,rfl⟩
        go_wp2_with fail
        refine (KB'.out _).mono ?_
        rintro e w' ⟨rfl,rfl⟩
        go_wp2
        go_ret
        exact ⟨by rw [H.out];rfl,_,rfl⟩
def SMRel (g n:Nat) (xs:List Nat) (d:Nat) (w1:World) (c i:Value) (wr:World):Prop :=
  ∃ (k q:Nat) (zs:List Nat),k≤n∧i=.int .i64 ((k:Int) - 1)∧c=.int .u64 (q:Int)∧q<d∧zs.length=n∧Okl zs∧val (zs.drop k)*d+q=val (xs.drop k)∧wr=put g zs [] w1
def SmallPost (N d:Nat) (w:World) (e:Ending) (w':World):Prop :=
  ∃ v,e=.returned (.tuple #[v,.int .u32 ((N % d:Nat):Int)])∧Own w.heap.size w' v (limbs (N / d))∧Below w.heap.size w w'
theorem sm_step {g n d j q x:Nat} {xs zs:List Nat} {w1:World} (hl:zs.length=n) (hn:xs.length=n) (hj:j+1≤n) (hd:d<B32) (hd0:0<d) (hq:q<d) (hoz:Okl zs) (hx:xs.getD j 0=x) (hxb:x<B32)
    (he:val (zs.drop (j+1))*d+q=val (xs.drop (j+1))) (hb:Blk w1 g (List.replicate n 0) []) :
    SMRel g n xs d w1 (.int .u64 ((wd q x % d:Nat):Int)) (.int .i64 ((j:Int) - 1)) ((put g zs [] w1).setCell ⟨g,j,none⟩ (.int .u32 ((wd q x / d:Nat):Int))):=by
  have hql:wd q x / d<B32:=by
    rw [Nat.div_lt_iff_lt_mul hd0];unfold wd
    have:(q+1)*B32≤d*B32:=Nat.mul_le_mul_right _ hq
    rw [Nat.add_mul,Nat.one_mul] at this
    rw [Nat.mul_comm B32 d];omega
  have hml:wd q x % d<d:=Nat.mod_lt _ hd0
  rw [set_blk (put_blk _ _ hb.lt) _ _ (by omega),put_put]
  refine ⟨j,_,zs.set j (wd q x / d),by omega,rfl,rfl,hml,by rw [List.length_set];exact hl,hoz.set _ _ hql,?_,rfl⟩
  rw [val_drop_succ _ j (by rw [List.length_set];omega),val_drop_succ xs j (by omega),hx,List.drop_set_of_lt (by omega)]
  have e3:(zs.set j (wd q x / d)).getD j 0=wd q x / d:=by simp [List.getD,show j<zs.length by omega]
  rw [e3]
  exact sh_num he (Nat.div_add_mod _ _)
theorem refSmall_any (ad:Option Addr) (n cap:Nat) (xs:List Nat) (d:Nat) (w:World) (hn:xs.length=n) (hcap:n≤cap) (hm:n≤100000000) (ho:Okl xs) (hr:Rd w ad xs) (hd:d<B32) (hd0:0<d) :
    Calls Tryz.prog 99 #[.slice ad n cap,.int .u32 (d:Int)] w (SmallPost (val xs) d w):=by
  have HN:=Lib.hid hn;clear hn
  have hd':=hd
  rw [B32_eq] at hd'
  have hd0':¬ ((d:Int)=0):=by omega
  go_enter Tryz.func99,Tryz.ntmps99
  go_wp2_with (at_make;refine wpl_make _ rfl _ _ rfl _ _ _ _ n rfl rfl rfl rfl (by omega) ?_;intro w1 hB1 hb1)
  have hg1:=hr.apart (Nat.le_refl w.heap.size)
  have hr1:=hr.below hb1
  go_loopw [7,8] (fun c i wr=>SMRel w.heap.size n xs d w1 c i wr) (fun _ i _=>(intOf i+1).toNat)
  case atStart=>exact ⟨n,0,List.replicate n 0,Nat.le_refl _,by go_num,rfl,hd0,by simp,Okl.replicate n,by rw [List.drop_of_length_le (by simp),List.drop_of_length_le (by rw [HN.out];exact Nat.le_refl _)];simp [val],(put_same hB1).symm⟩
  case round =>
    obtain ⟨k,q,zs,hk,rfl,rfl,hq,hl,hoz,he,rfl⟩:=hrel
    have HL:=Lib.hid hl;clear hl
    have HE:=Lib.hid he;clear he
    have hbz:Blk (put w.heap.size zs [] w1) w.heap.size zs []:=put_blk _ _ hB1.lt
    rcases k with _ | j
    · have hv:=HE.out
      simp only [List.drop_zero] at hv
      have hdv:val xs / d=val zs:=by rw [← hv,Nat.mul_comm,Nat.mul_add_div hd0,Nat.div_eq_of_lt hq,Nat.add_zero]
      have hmd:val xs % d=q:=by rw [← hv,Nat.mul_comm,Nat.mul_add_mod,Nat.mod_eq_of_lt hq]
      have HD:=Lib.hid hdv;clear hdv
      have HM:=Lib.hid hmd;clear hmd hv
      have hbl:Below w.heap.size w (put w.heap.size zs [] w1):=put_below hb1 (Nat.le_refl _) _ _
      have KN:=Lib.hid (refNorm_any (some ⟨w.heap.size,0,none⟩) n n zs _ HL.out (Nat.le_refl _) hm hoz hbz.rd_all)
      have hq':q<4294967296:=by omega
      rw [show (((0:Nat):Int) - 1) = -1 from rfl]
      have HBL:=Lib.hid hbl;clear hbl
      generalize put w.heap.size zs [] w1=W at *
      go_wp2_with fail
      refine KN.out.mono ?_
      rintro e w' ⟨v,rfl,hv,hb'⟩
      go_wp2
      go_ret2
      exact ⟨v,by rw [HM.out];rfl,by rw [HD.out];exact hv.mono HBL.out.size,below_on HBL.out hb'⟩
    · rw [show (((j+1:Nat):Int) - 1)=(j:Int) by omega]
      obtain ⟨b,o,rfl,hblt,hc⟩:=(hr1.put (g:=w.heap.size) hg1 zs []) j (by rw [HN.out];omega)
      have hcz:=hbz.cell j (by rw [HL.out];omega)
      have hfz:=hbz.free j
      have hxb:=ho.getD j
      generalize hx:xs.getD j 0=x at *
      have R:=Lib.hid (sm_step (g:=w.heap.size) (w1:=w1) HL.out HN.out hk hd hd0 hq hoz hx hxb HE.out hB1)
      clear hx
      have hq':q<4294967296:=by omega
      have hwl:=wd_lt (Nat.lt_trans hq hd) hxb
      have hwd:(q:Int)*4294967296+(x:Int)=((wd q x:Nat):Int):=by unfold wd;rw [B32_eq];omega
      have hqb:wd q x / d<4294967296:=by
        have:wd q x / d<B32:=by
          rw [Nat.div_lt_iff_lt_mul hd0];unfold wd
          have:(q+1)*B32≤d*B32:=Nat.mul_le_mul_right _ hq
          rw [Nat.add_mul,Nat.one_mul] at this
          rw [Nat.mul_comm B32 d];omega
        rwa [B32_eq] at this
      rw [B32_eq] at hxb
      generalize wd q x=D at *
      have hml:D % d<4294967296:=by have:=Nat.mod_lt D hd0;omega
      go_wp2
      go_roundw
      case rel =>
        have e1:IntKind.u64.wrap ((D:Int) / (d:Int)) % 4294967296=((D / d:Nat):Int):=by
          rw [← Int.natCast_ediv]
          generalize D / d=Q at *
          rw [IntWalk.u64_in _ (by omega)];omega
        rw [e1];exact R.out
      case measure=>simp [intOf]
theorem chkB_ref {neg:Bool} {xs:List Nat} {e:Int} (h:xs.length ≠ 0) (h1:xs.length≤90) (h2:xs.getD (xs.length - 1) 0 ≠ 0) (h3:-1200≤e) (h4:e≤1200):chkB neg xs e=decide (val xs % 10 ≠ 0):=by
  rw [chkB_tens h h1 h2 h3 h4];simp
theorem refCheck_any (neg:Bool) (ad:Option Addr) (n cap:Nat) (xs:List Nat) (e:Int) (w:World) (hn:xs.length=n) (hcap:n≤cap) (hm:n≤100000000) (ho:Okl xs) (hr:Rd w ad xs) :
    Calls Tryz.prog 116 #[.agg #[.bool neg,.slice ad n cap,.int .i64 e]] w (BoolBelow (chkB neg xs e) w):=by
  have hbl:Below w.heap.size w (w.alloc (.cells #[.bool neg,.slice ad n cap,.int .i64 e] 25)):=(Below.refl _ _).alloc (Nat.le_refl _) _
  have HB:=Lib.hid hbl
  have KT:=Lib.hid (refSmall_any ad n cap xs 10 _ hn hcap hm ho (hr.below hbl) (by decide) (by decide))
  clear hbl
  by_cases h0:n=0
  · subst h0
    have hx:xs=[]:=List.eq_nil_of_length_eq_zero hn
    subst hx
    clear hr KT
    have HN:=Lib.hid hn;clear hn
    cases neg
    · have HC:=Lib.hid (chkB_nil (neg:=false) (e:=e))
      by_cases he:e=0
      · subst he
        go_enter Tryz.func116,Tryz.ntmps116
        go_wp2
        go_ret
        exact BoolBelow.mk (by rw [HC.out];rfl) HB.out
      · have he':(e == 0)=false:=by rw [beq_eq_false_iff_ne];exact he
        go_enter Tryz.func116,Tryz.ntmps116
        go_wp2
        go_ret
        exact BoolBelow.mk (by rw [HC.out];simp [he]) HB.out
    · have HC:=Lib.hid (chkB_nil (neg:=true) (e:=e))
      go_enter Tryz.func116,Tryz.ntmps116
      go_wp2
      go_ret
      exact BoolBelow.mk (by rw [HC.out];rfl) HB.out
  · have h0':xs.length ≠ 0:=by omega
    have hnb:((n:Int) == 0)=false:=by rw [beq_eq_false_iff_ne];omega
    by_cases h1:90<n
    · have HC:=Lib.hid (chkB_long (neg:=neg) (e:=e) (show 90<xs.length by omega))
      have h1':(90:Int)<(n:Int):=by omega
      have HN:=Lib.hid hn;clear hn h0'
      go_enter Tryz.func116,Tryz.ntmps116
      go_wp2
      go_ret
      exact BoolBelow.mk (by rw [HC.out]) HB.out
    · have h1':¬ (90:Int)<(n:Int):=by omega
      obtain ⟨b,o,rfl,hlt,hc⟩:=hr (n - 1) (by omega)
      have hoff:((n:Int) - 1).toNat=n - 1:=by omega
      have hc2:(w.alloc (.cells #[.bool neg,.slice (some ⟨b,o,none⟩) n cap,.int .i64 e] 25)).cell? ⟨b,o+(n - 1),none⟩=some (.int .u32 ((xs.getD (n - 1) 0:Nat):Int)):=by
        rw [HB.out.cell (p:=⟨b,o+(n - 1),none⟩) hlt];exact hc
      have hxb:xs.getD (n - 1) 0<4294967296:=ho.getD _
      by_cases h2:xs.getD (n - 1) 0=0
      · have HC:=Lib.hid (chkB_top (neg:=neg) (e:=e) h0' (by rw [hn];exact h2))
        rw [h2] at hc hc2
        have HN:=Lib.hid hn;clear hn h0' h2 hxb
        go_enter Tryz.func116,Tryz.ntmps116
        go_wp2
        go_ret
        exact BoolBelow.mk (by rw [HC.out]) HB.out
      · have h2':(((xs.getD (n - 1) 0:Nat):Int) == 0)=false:=by rw [beq_eq_false_iff_ne];omega
        by_cases h3:e < -1200∨1200<e
        · have HC:=Lib.hid (chkB_out (neg:=neg) (e:=e) h0' h3)
          have HN:=Lib.hid hn;clear hn h0' h2
          generalize xs.getD (n - 1) 0=x at *
          by_cases h4:e < -1200
          · clear h3
            go_enter Tryz.func116,Tryz.ntmps116
            go_wp2
            go_ret
            exact BoolBelow.mk (by rw [HC.out]) HB.out
          · have h5:1200<e:=by omega
            clear h3
            go_enter Tryz.func116,Tryz.ntmps116
            go_wp2
            go_ret
            exact BoolBelow.mk (by rw [HC.out]) HB.out
        · have h4:¬ e < -1200:=by omega
          have h5:¬ 1200<e:=by omega
          have HC:=Lib.hid (chkB_ref (neg:=neg) (e:=e) h0' (by omega) (by rw [hn];exact h2) (by omega) (by omega))
          have HN:=Lib.hid hn;clear hn h0' h2 h3
          generalize xs.getD (n - 1) 0=x at *
          have hml:val xs % 10<10:=Nat.mod_lt _ (by decide)
          generalize val xs=N at *
          go_enter Tryz.func116,Tryz.ntmps116
          go_wp2_with fail
          refine KT.out.mono ?_
          rintro r w' ⟨v,rfl,hv,hb⟩
          have HF:=Lib.hid (below_on HB.out hb)
          clear hb hv
          go_wp2
          go_ret
          refine BoolBelow.mk ?_ HF.out
          rw [HC.out]
          by_cases hq:N % 10=0
          · have hq2:(N:Int) % 10=0:=by omega
            simp [hq,hq2]
          · have hq2:¬ (N:Int) % 10=0:=by omega
            simp [hq,hq2]


end Go.Proofs.YtnacbakcalcgaaaGreatDoor
