/- Texts of the claim. -/
import Derived.Test.YtnacbakcalcgaaaGreatDoorYy
set_option linter.unusedVariables false
set_option linter.unusedSimpArgs false
set_option maxHeartbeats 200000
set_option maxRecDepth 100000
namespace Go.Proofs.YtnacbakcalcgaaaGreatDoor
open Go.RowKit Go.Lib Go.Sort
def CohC (t:MT):Prop:=∀ s,t.sub s→s.m.length=s.c.mn∧Okl s.m∧s.k.length=s.c.kn∧s.v.length=s.c.vn
theorem CohC.of {w:World} {t:MT} (h:Rep w t):CohC t:=fun s hs=>⟨(h s hs).mn,(h s hs).mo,(h s hs).kn,(h s hs).vn⟩
theorem CohC.own {t:MT} (h:CohC t):t.m.length=t.c.mn∧Okl t.m∧t.k.length=t.c.kn∧t.v.length=t.c.vn:=h t t.sub_refl
theorem CohC.part {t u:MT} (h:CohC t) (hu:u∈t.v):CohC u:=fun s hs=>h s (MT.sub_v hu hs)
theorem blank_factsC {c:Cel} (h:blankB c=true):c.b=false∧c.neg=false∧c.mn=0∧c.e=0∧c.s=⟨#[]⟩∧c.kn=0∧c.vn=0:=by
  unfold blankB at h
  simp only [Bool.and_eq_true,Bool.not_eq_true',decide_eq_true_eq] at h
  obtain ⟨h1,h2,h3,h4,h5,h6,h7⟩:=h
  refine ⟨h1,h2,h3,h4,?_,h6,h7⟩
  apply ByteArray.ext
  exact Array.eq_empty_of_size_eq_zero h5
theorem bare_nullC {t:MT} (hc:CohC t) (k:t.c.k=1) (h:soundB t=true):t.bare=leafT 1 false ⟨#[]⟩:=by
  obtain ⟨h1,_,h2,h3⟩:=hc.own
  rw [MT.bare_eq]
  obtain ⟨⟨ck,b,neg,ma,mn,mc,e,s,ka,kn,kc,va,vn,vc⟩,m,ks,vs⟩:=t
  simp only [MT.c,MT.m,MT.k,MT.v] at *
  subst k
  obtain ⟨e1,e2,e3,e4,e5,e6,e7⟩:=blank_factsC (c:=⟨1,b,neg,ma,mn,mc,e,s,ka,kn,kc,va,vn,vc⟩) h
  simp only at e1 e2 e3 e4 e5 e6 e7
  subst e1 e2 e3 e4 e5 e6 e7
  rw [List.eq_nil_of_length_eq_zero h1,List.eq_nil_of_length_eq_zero h2,List.eq_nil_of_length_eq_zero h3]
  rfl
theorem bare_boolC {t:MT} (hc:CohC t) (k:t.c.k=2) (h:soundB t=true):t.bare=leafT 2 t.c.b ⟨#[]⟩:=by
  obtain ⟨h1,_,h2,h3⟩:=hc.own
  rw [MT.bare_eq]
  obtain ⟨⟨ck,b,neg,ma,mn,mc,e,s,ka,kn,kc,va,vn,vc⟩,m,ks,vs⟩:=t
  simp only [MT.c,MT.m,MT.k,MT.v] at *
  subst k
  obtain ⟨e1,e2,e3,e4,e5,e6,e7⟩:=blank_factsC (c:=⟨2,false,neg,ma,mn,mc,e,s,ka,kn,kc,va,vn,vc⟩) h
  simp only at e1 e2 e3 e4 e5 e6 e7
  subst e2 e3 e4 e5 e6 e7
  rw [List.eq_nil_of_length_eq_zero h1,List.eq_nil_of_length_eq_zero h2,List.eq_nil_of_length_eq_zero h3]
  rfl
theorem bare_numC {t:MT} (hc:CohC t) (k:t.c.k=3) (h:soundB t=true):chkB t.c.neg t.m t.c.e=true∧t.bare=numT t.c.neg none t.m.length 0 t.c.e t.m:=by
  obtain ⟨h1,_,h2,h3⟩:=hc.own
  rw [MT.bare_eq]
  obtain ⟨⟨ck,b,neg,ma,mn,mc,e,s,ka,kn,kc,va,vn,vc⟩,m,ks,vs⟩:=t
  simp only [MT.c,MT.m,MT.k,MT.v] at *
  subst k
  have h':(chkB neg m e && blankB ⟨3,b,false,none,0,0,0,s,ka,kn,kc,va,vn,vc⟩)=true:=h
  rw [Bool.and_eq_true] at h'
  obtain ⟨e1,e2,e3,e4,e5,e6,e7⟩:=blank_factsC h'.2
  simp only at e1 e2 e3 e4 e5 e6 e7
  subst e1 e5 e6 e7 h1
  rw [List.eq_nil_of_length_eq_zero h2,List.eq_nil_of_length_eq_zero h3]
  exact ⟨h'.1,rfl⟩
theorem bare_textC {t:MT} (hc:CohC t) (k:t.c.k=4) (h:soundB t=true):(validL t.c.s.data.toList=true∧t.c.s.size≤2000)∧t.bare=leafT 4 false t.c.s:=by
  obtain ⟨h1,_,h2,h3⟩:=hc.own
  rw [MT.bare_eq]
  obtain ⟨⟨ck,b,neg,ma,mn,mc,e,s,ka,kn,kc,va,vn,vc⟩,m,ks,vs⟩:=t
  simp only [MT.c,MT.m,MT.k,MT.v] at *
  subst k
  have h':(validL s.data.toList && (decide (s.size≤2000) && blankB ⟨4,b,neg,ma,mn,mc,e,⟨#[]⟩,ka,kn,kc,va,vn,vc⟩))=true:=h
  rw [Bool.and_eq_true,Bool.and_eq_true] at h'
  obtain ⟨e1,e2,e3,e4,e5,e6,e7⟩:=blank_factsC h'.2.2
  simp only at e1 e2 e3 e4 e5 e6 e7
  subst e1 e2 e3 e4 e6 e7
  rw [List.eq_nil_of_length_eq_zero h1,List.eq_nil_of_length_eq_zero h2,List.eq_nil_of_length_eq_zero h3]
  exact ⟨⟨h'.1,of_decide_eq_true h'.2.1⟩,rfl⟩
theorem bare_bytesC {t:MT} (hc:CohC t) (k:t.c.k=5) (h:soundB t=true):t.c.s.size≤2000∧t.bare=leafT 5 false t.c.s:=by
  obtain ⟨h1,_,h2,h3⟩:=hc.own
  rw [MT.bare_eq]
  obtain ⟨⟨ck,b,neg,ma,mn,mc,e,s,ka,kn,kc,va,vn,vc⟩,m,ks,vs⟩:=t
  simp only [MT.c,MT.m,MT.k,MT.v] at *
  subst k
  have h':(decide (s.size≤2000) && blankB ⟨5,b,neg,ma,mn,mc,e,⟨#[]⟩,ka,kn,kc,va,vn,vc⟩)=true:=h
  rw [Bool.and_eq_true] at h'
  obtain ⟨e1,e2,e3,e4,e5,e6,e7⟩:=blank_factsC h'.2
  simp only at e1 e2 e3 e4 e5 e6 e7
  subst e1 e2 e3 e4 e6 e7
  rw [List.eq_nil_of_length_eq_zero h1,List.eq_nil_of_length_eq_zero h2,List.eq_nil_of_length_eq_zero h3]
  exact ⟨of_decide_eq_true h'.1,rfl⟩
theorem bare_arrC {t:MT} (hc:CohC t) (k:t.c.k=6) (h:soundB t=true):t.v.length≤300∧t.bare=barrC (t.v.map MT.bare):=by
  obtain ⟨h1,_,h2,h3⟩:=hc.own
  rw [MT.bare_eq]
  obtain ⟨⟨ck,b,neg,ma,mn,mc,e,s,ka,kn,kc,va,vn,vc⟩,m,ks,vs⟩:=t
  simp only [MT.c,MT.m,MT.k,MT.v] at *
  subst k
  have h':(decide (vn≤300) && blankB ⟨6,b,neg,ma,mn,mc,e,s,ka,kn,kc,none,0,0⟩)=true:=h
  rw [Bool.and_eq_true] at h'
  obtain ⟨e1,e2,e3,e4,e5,e6,e7⟩:=blank_factsC h'.2
  simp only at e1 e2 e3 e4 e5 e6 e7
  subst e1 e2 e3 e4 e5 e6 h3
  rw [List.eq_nil_of_length_eq_zero h1,List.eq_nil_of_length_eq_zero h2]
  refine ⟨of_decide_eq_true h'.1,?_⟩
  unfold barrC arrT
  rw [List.length_map]
  rfl
theorem bare_objC {t:MT} (hc:CohC t) (k:t.c.k=7) (h:soundB t=true):t.v.length≤300∧t.k.length=t.v.length∧risesB t.k=true∧t.bare=bobjC t.k (t.v.map MT.bare):=by
  obtain ⟨h1,_,h2,h3⟩:=hc.own
  rw [MT.bare_eq]
  obtain ⟨⟨ck,b,neg,ma,mn,mc,e,s,ka,kn,kc,va,vn,vc⟩,m,ks,vs⟩:=t
  simp only [MT.c,MT.m,MT.k,MT.v] at *
  subst k
  have h':(decide (kn=vn) && (risesB ks && (decide (vn≤300) && blankB ⟨7,b,neg,ma,mn,mc,e,s,none,0,0,none,0,0⟩)))=true:=h
  rw [Bool.and_eq_true,Bool.and_eq_true,Bool.and_eq_true] at h'
  obtain ⟨e1,e2,e3,e4,e5,e6,e7⟩:=blank_factsC h'.2.2.2
  simp only at e1 e2 e3 e4 e5 e6 e7
  have hkv:=of_decide_eq_true h'.1
  subst e1 e2 e3 e4 e5 h3 h2
  rw [List.eq_nil_of_length_eq_zero h1]
  refine ⟨of_decide_eq_true h'.2.2.1,hkv,h'.2.1,?_⟩
  unfold bobjC objT
  rw [List.length_map]
  rfl
def SndC (t:MT) (d:Nat):Prop:=∀ x∈t.pre d,x.1≤64∧soundB x.2=true
theorem SndC.own {t:MT} {d:Nat} (h:SndC t d):d≤64∧soundB t=true:=h (d,t) (by rw [MT.pre_eq];simp)
theorem SndC.part {t u:MT} {d:Nat} (h:SndC t d) (hu:u∈t.v):SndC u (d+1):=fun x hx=>h x (by rw [MT.pre_eq];exact List.mem_cons_of_mem _ (MT.mem_preL.2 ⟨u,hu,hx⟩))
theorem SndC.of {t:MT} (h:checkB t=true):SndC t 1∧t.nodes≤2000:=by
  unfold checkB at h
  rw [Bool.and_eq_true,List.all_eq_true] at h
  refine ⟨fun x hx=>?_,of_decide_eq_true h.1⟩
  have:=h.2 x hx
  rw [Bool.and_eq_true] at this
  exact ⟨of_decide_eq_true this.1,this.2⟩
theorem okN_valid {s:ByteArray} (h:okN s=true):s.size≤2000∧validL s.data.toList=true:=by
  unfold okN at h
  rw [Bool.and_eq_true,decide_eq_true_eq] at h
  exact h
theorem head_lays {k x f S:Nat} (h:Lays k x f S) (hk:k ≠ 0∧k ≠ 11) (r:List Nat):pkHead (f::(be S x++r))=.inl ((k,x),r):=by
  have hg:=getM_in (f::(be S x++r)) 0 f (by simp) rfl
  rw [Int.natCast_zero] at hg
  have hm:moreB f=0:=by unfold moreB;rw [h.kd,if_neg hk.2]
  have h193:f ≠ 193:=fun e=>hk.1 (by rw [← h.kd];exact (kindB_0 f h.lt).2 e)
  rw [if_neg h193,hm,h.sz,if_neg (by simp only [List.length_cons,List.length_append,be_len];omega),h.kd] at hg
  have hd:(f::(be S x++r)).drop (0+1)=be S x++r:=rfl
  have hlen:=be_len S x
  rw [hd,List.take_append_of_le_length (by omega),List.take_of_length_le (by omega)] at hg
  have hv:(if S=0 then shortM f else numM k (be S x))=x:=by
    by_cases h0:S=0
    · rw [if_pos h0,h.sh h0]
    · rw [if_neg h0,h.nm h0]
  rw [hv] at hg
  unfold pkHead
  rw [hg]
  simp only [if_true]
  rw [show 0+1+S+0=S+1 by omega,List.drop_succ_cons,List.drop_append_of_le_length (by omega),List.drop_of_length_le (by omega),List.nil_append]
theorem mput_eq {k:Nat} (x:Nat) (hk:1≤k∧k≤12∧k ≠ 11):mput (k:Int) x=(mlay k x).1::be (mlay k x).2 x:=by
  unfold mput
  rw [if_neg (by omega)]
  rfl
theorem head_mput {k x:Nat} (hk:1≤k∧k≤12∧k ≠ 11) (h:okX k x) (r:List Nat):pkHead (mput (k:Int) x++r)=.inl ((k,x),r):=by
  rw [mput_eq x hk,List.cons_append]
  exact head_lays (mlay_lays k x hk h) (by omega) r
theorem valP_on {f n:Nat} {l r:List Nat} {h:HdM} (e:pkHead l=.inl (h,r)) (hn:n<2000) (hf:f ≠ 0):pkValue (f+1) l n=pkBehind (pkValue f) h r (n+1):=by
  rw [pkValue,e]
  simp only
  rw [if_neg (by omega)]
theorem valP_put {f n k x:Nat} (hk:1≤k∧k≤12∧k ≠ 11) (h:okX k x) (r:List Nat) (hn:n<2000) (hf:f ≠ 0):pkValue (f+1) (mput (k:Int) x++r) n=pkBehind (pkValue f) (k,x) r (n+1) :=
  valP_on (head_mput hk h r) hn hf
theorem bytesP_enc (s:ByteArray) (more:List Nat) (hz:s.size≤2000):pkBytes s.size (strN s++more)=.inl (strN s,more):=by
  have hl:=strN_len s
  unfold pkBytes
  rw [if_neg (by omega),if_neg (by rw [List.length_append];omega),List.take_append_of_le_length (by omega),List.take_of_length_le (by omega),List.drop_append_of_le_length (by omega),List.drop_of_length_le (by omega),List.nil_append]
theorem validB_strN {s:ByteArray} (h:validL s.data.toList=true):validB (strN s)=true:=by
  have e:(strN s).map (fun x=>UInt8.ofNat x)=s.data.toList:=by
    unfold strN;rw [List.map_map];simp [Function.comp_def]
  unfold validB
  rw [e,h]
theorem textP_enc (s:ByteArray) (more:List Nat) (hz:s.size≤2000) (hv:validL s.data.toList=true):pkText s.size (strN s++more)=.inl (strN s,more):=by
  unfold pkText
  rw [bytesP_enc s more hz]
  simp only
  rw [if_pos (validB_strN hv)]
theorem okX_small {k x:Nat} (h3:k ≠ 1∧k ≠ 2∧k ≠ 3∧k ≠ 5) (hx:x<4294967296):okX k x:=⟨fun h=>by omega,fun h=>by omega,fun _=>hx,by omega⟩
theorem nameP_enc (s:ByteArray) (r:List Nat) (hz:s.size≤2000) (hv:validL s.data.toList=true):pkName (strP 7 s++r)=.inl (strN s,r):=by
  unfold strP pkName
  rw [List.append_assoc,head_mput (by omega) (okX_small (by omega) (by omega))]
  simp only
  rw [if_neg (by simp)]
  exact textP_enc s r hz hv
theorem numP_back {ng : Bool} {xs : List Nat} {e : Int} {p : List Nat} (ho : Okl xs) (h : chkB ng xs e = true) (hp : numP ng (val xs) e = some p) (f n : Nat) (more : List Nat) (hn : n < 2000) (hf : f ≠ 0) :
    pkValue (f + 1) (p ++ more) n = .inl (bnumC (ng, val xs, e), more, n + 1) := by
  unfold numP at hp
  cases hw : wordP ng (val xs) e with
  | none => rw [hw] at hp; cases hp
  | some kx =>
    obtain ⟨k, x⟩ := kx
    rw [hw] at hp
    simp only [Option.some.injEq] at hp
    subst hp
    unfold wordP at hw
    cases h1 : wholeP ng (val xs) e with
    | some q =>
      rw [h1] at hw
      simp only [Option.some.injEq] at hw
      subst hw
      unfold wholeP intAt at h1
      split at h1
      · cases h1
      · rename_i M hM
        split at hM
        case isFalse => cases hM
        rename_i hi
        simp only [Option.some.injEq] at hM
        have hmk := mkN_canon ho h e.toNat
        rw [show e - (e.toNat : Int) = 0 by omega, hM] at hmk
        split at h1
        · rename_i hng
          split at h1
          case isFalse => cases h1
          rename_i hb
          have hM0 : M ≠ 0 := by rw [← hM]; exact Nat.mul_ne_zero (neg_ne ho h hng) (tenN_ne _)
          have hb2 := bits_lt hb
          simp only [Option.some.injEq, Prod.mk.injEq] at h1
          obtain ⟨rfl, rfl⟩ := h1
          have hx : (18446744073709551616 - M) % 18446744073709551616 = 18446744073709551616 - M := Nat.mod_eq_of_lt (by omega)
          rw [hx, valP_put (by omega) ⟨fun h => by omega, fun _ => by omega, fun h => by omega, by omega⟩ more hn hf]
          unfold pkBehind
          simp only
          rw [if_neg (by omega), if_neg (by omega), if_neg (by omega), if_neg (by omega), if_pos trivial]
          unfold pkSigned pkNum
          rw [if_pos (by omega), show 18446744073709551616 - (18446744073709551616 - M) = M by omega, ← hng, hmk]
        · rename_i hng
          split at h1
          case isFalse => cases h1
          rename_i hb
          have hb2 := bits_lt hb
          simp only [Option.some.injEq, Prod.mk.injEq] at h1
          obtain ⟨rfl, rfl⟩ := h1
          rw [valP_put (by omega) ⟨fun h => by omega, fun h => by omega, fun h => by omega, by omega⟩ more hn hf]
          unfold pkBehind
          simp only
          rw [if_neg (by omega), if_neg (by omega), if_neg (by omega), if_pos trivial]
          unfold pkNum
          have : ng = false := by simpa using hng
          rw [← this, hmk]
    | none =>
      rw [h1] at hw
      simp only at hw
      have h0 : xs ≠ [] := by
        rintro rfl
        obtain ⟨rfl, rfl⟩ := chkB_zero h
        have hb : bitsN 0 = 0 := bitsN_z
        unfold wholeP intAt at h1
        simp [val, hb] at h1
      have h10 := (chkB_some h0 h).2.2.2.2
      cases h2 : toF 32 ng (val xs) e with
      | some y =>
        rw [h2] at hw
        simp only [Option.some.injEq, Prod.mk.injEq] at hw
        obtain ⟨rfl, rfl⟩ := hw
        obtain ⟨k1, k2⟩ := exactN_of (e := 8) (f := 23) rfl h10 h2
        have k3 : y < 4294967296 := by have : 2 ^ (8 + 23 + 1) = 4294967296 := by decide
                                       omega
        rw [valP_put (by omega) ⟨fun h => by omega, fun h => by omega, fun h => k3, by omega⟩ more hn hf]
        unfold pkBehind pkFloat
        simp only
        rw [if_neg (by omega), if_neg (by omega), if_neg (by omega), if_neg (by omega), if_neg (by omega), if_pos trivial, k1]
      | none =>
        rw [h2] at hw
        simp only at hw
        cases h3 : toF 64 ng (val xs) e with
        | none => rw [h3] at hw; cases hw
        | some y =>
          rw [h3] at hw
          simp only [Option.some.injEq, Prod.mk.injEq] at hw
          obtain ⟨rfl, rfl⟩ := hw
          obtain ⟨k1, k2⟩ := exactN_of (e := 11) (f := 52) rfl h10 h3
          have k3 : y < 18446744073709551616 := by have : 2 ^ (11 + 52 + 1) = 18446744073709551616 := by decide
                                                   omega
          rw [valP_put (by omega) ⟨fun h => by omega, fun h => by omega, fun h => by omega, by omega⟩ more hn hf]
          unfold pkBehind pkFloat
          simp only
          rw [if_neg (by omega), if_neg (by omega), if_neg (by omega), if_neg (by omega), if_neg (by omega), if_neg (by omega), if_pos trivial, k1]
def RtP (V:List Nat→Nat→RC MT) (u:MT):Prop:=∀ n more p,encP u=some p→n+u.nodes≤2000→V (p++more) n=.inl (u.bare,more,n+u.nodes)
theorem catP_cons {o:Option (List Nat)} {r:List (Option (List Nat))} {q:List Nat} (h:catP (o::r)=some q):∃ p q2,o=some p∧catP r=some q2∧q=p++q2:=by
  cases o with
  | none=>cases h
  | some p =>
    unfold catP at h
    cases h2:catP r with
    | none=>rw [h2] at h;cases h
    | some q2 =>
      rw [h2] at h
      simp only [Option.some.injEq] at h
      exact ⟨p,q2,rfl,rfl,h.symm⟩
theorem itemsP_enc {V:List Nat→Nat→RC MT}:∀ (us acc:List MT) (n:Nat) (more q:List Nat),catP (us.map encP)=some q→(∀ u∈us,RtP V u)→n+MT.nodesL us≤2000 →
    pkItems V us.length acc (q++more) n=.inl (acc++us.map MT.bare,more,n+MT.nodesL us):=by
  intro us
  induction us with
  | nil =>
    intro acc n more q hq hV hn
    simp only [List.map_nil,catP,Option.some.injEq] at hq
    subst hq
    simp [pkItems,MT.nodesL_nil]
  | cons u us ih =>
    intro acc n more q hq hV hn
    rw [List.map_cons] at hq
    obtain ⟨p,q2,h1,h2,rfl⟩:=catP_cons hq
    rw [MT.nodesL_cons] at hn ⊢
    have hu:=hV u (by simp) n (q2++more) p h1 (by omega)
    rw [List.length_cons,pkItems,List.append_assoc,hu]
    simp only
    rw [ih _ _ more q2 h2 (fun v hv=>hV v (by simp [hv])) (by omega)]
    rw [List.map_cons,List.append_assoc,Nat.add_assoc]
    rfl
theorem membersP_enc {V:List Nat→Nat→RC MT}:∀ (us:List MT) (ks ks0:List ByteArray) (acc:List MT) (n:Nat) (more q:List Nat),ks.length=us.length→catP (List.zipWith mbrP ks (us.map encP))=some q→(∀ s∈ks,s.size≤2000∧validL s.data.toList=true)→(∀ u∈us,RtP V u)→n+MT.nodesL us≤2000 →
    pkMembers V us.length ks0 acc (q++more) n=.inl ((ks0++ks,acc++us.map MT.bare),more,n+MT.nodesL us):=by
  intro us
  induction us with
  | nil =>
    intro ks ks0 acc n more q hk hq hN hV hn
    have hk0:=List.eq_nil_of_length_eq_zero hk
    subst hk0
    simp only [List.map_nil,List.zipWith_nil_left,catP,Option.some.injEq] at hq
    subst hq
    simp [pkMembers,MT.nodesL_nil]
  | cons u us ih =>
    intro ks ks0 acc n more q hk hq hN hV hn
    cases ks with
    | nil=>simp at hk
    | cons s ks =>
      rw [List.map_cons,List.zipWith_cons_cons] at hq
      obtain ⟨p,q2,h1,h2,rfl⟩:=catP_cons hq
      unfold mbrP at h1
      split at h1
      · cases h1
      · rename_i p1 hp1
        simp only [Option.some.injEq] at h1
        subst h1
        rw [MT.nodesL_cons] at hn ⊢
        obtain ⟨hz,hv⟩:=hN s (by simp)
        have hnm:=nameP_enc s (p1++(q2++more)) hz hv
        have hu:=hV u (by simp) n (q2++more) p1 hp1 (by omega)
        rw [List.length_cons,pkMembers,List.append_assoc,List.append_assoc,hnm]
        simp only
        rw [hu]
        simp only
        rw [ih ks _ _ _ more q2 (by simpa using hk) h2 (fun t ht=>hN t (by simp [ht])) (fun v hv=>hV v (by simp [hv])) (by omega),strB_strN]
        rw [List.map_cons,List.append_assoc,List.append_assoc,Nat.add_assoc]
        rfl
theorem ris_nodupP {ks:List ByteArray} (h:Ris ks):ks.Nodup:=by
  rw [List.nodup_iff_pairwise_ne,List.pairwise_iff_getElem]
  intro i j hi hj hij e
  have:=risC_ne h hi hj (by simp [List.getD,hi,hj,e])
  omega
theorem valP_enc (t:MT):∀ (f dd:Nat),dd+f=65→SndC t dd→CohC t→RtP (pkValue (f+1)) t:=by
  refine MT.ind (P:=fun t=>∀ (f dd:Nat),dd+f=65→SndC t dd→CohC t→RtP (pkValue (f+1)) t) ?_ t
  intro t ih f dd hf hs hc n more p hp hn
  obtain ⟨hd0,hso⟩:=hs.own
  have hf0:f ≠ 0:=by omega
  obtain ⟨f,rfl⟩:∃ g,f=g+1:=⟨f - 1,by omega⟩
  have hR:∀ u∈t.v,RtP (pkValue (f+1)) u:=fun u hu=>ih u hu f (dd+1) (by omega) (hs.part hu) (hc.part hu)
  have hnp:=t.nodes_pos
  have hn2:n<2000:=by omega
  have one:∀ {x:MT},t.bare=x→x.v=[]→t.nodes=1:=fun e h=>by
    have h2:t.v.map MT.bare=[]:=by rw [← h,← e,MT.bare_eq];rfl
    rw [List.map_eq_nil_iff] at h2
    rw [MT.nodes_eq,h2,MT.nodesL_nil]
  have hcs:=hso
  rw [encP_eq] at hp
  by_cases c1:t.c.k=1
  · have hb:=bare_nullC hc c1 hso
    rw [if_pos c1] at hp
    simp only [Option.some.injEq] at hp
    subst hp
    rw [hb,one hb rfl]
    have:=valP_put (k:=1) (x:=0) (f:=f+1) (by omega) ⟨fun _=>rfl,fun h=>by omega,fun h=>by omega,by omega⟩ more hn2 hf0
    rw [show ((1:Nat):Int)=1 from rfl] at this
    rw [this]
    rfl
  by_cases c2:t.c.k=2
  · have hb:=bare_boolC hc c2 hso
    rw [if_neg c1,if_pos c2] at hp
    simp only [Option.some.injEq] at hp
    subst hp
    rw [hb,one hb rfl]
    unfold truthP
    cases t.c.b
    · have:=valP_put (k:=2) (x:=0) (f:=f+1) (by omega) ⟨fun _=>rfl,fun h=>by omega,fun h=>by omega,by omega⟩ more hn2 hf0
      rw [show ((2:Nat):Int)=2 from rfl] at this
      simp only [Bool.false_eq_true,if_false]
      rw [this]
      rfl
    · have:=valP_put (k:=3) (x:=0) (f:=f+1) (by omega) ⟨fun _=>rfl,fun h=>by omega,fun h=>by omega,by omega⟩ more hn2 hf0
      rw [show ((3:Nat):Int)=3 from rfl] at this
      simp only [if_true]
      rw [this]
      rfl
  by_cases c3:t.c.k=3
  · obtain ⟨h1,h2⟩:=bare_numC hc c3 hso
    rw [if_neg c1,if_neg c2,if_pos c3] at hp
    rw [one h2 rfl,h2,numP_back hc.own.2.1 h1 hp (f+1) n more hn2 hf0]
    unfold bnumC
    simp only
    rw [chkB_limbs hc.own.2.1 h1]
  by_cases c4:t.c.k=4
  · obtain ⟨h1,h2⟩:=bare_textC hc c4 hso
    rw [if_neg c1,if_neg c2,if_neg c3,if_pos c4] at hp
    simp only [Option.some.injEq] at hp
    subst hp
    rw [one h2 rfl,h2]
    unfold strP
    rw [List.append_assoc,valP_put (by omega) (okX_small (by omega) (by omega)) _ hn2 hf0]
    unfold pkBehind
    simp only
    rw [if_neg (by omega),if_neg (by omega),if_neg (by omega),if_neg (by omega),if_neg (by omega),if_neg (by omega),if_neg (by omega),if_pos trivial,textP_enc t.c.s more h1.2 h1.1]
    simp only
    rw [strB_strN]
  by_cases c5:t.c.k=5
  · obtain ⟨h1,h2⟩:=bare_bytesC hc c5 hso
    rw [if_neg c1,if_neg c2,if_neg c3,if_neg c4,if_pos c5] at hp
    simp only [Option.some.injEq] at hp
    subst hp
    rw [one h2 rfl,h2]
    unfold strP
    rw [List.append_assoc,valP_put (by omega) (okX_small (by omega) (by omega)) _ hn2 hf0]
    unfold pkBehind
    simp only
    rw [if_neg (by omega),if_neg (by omega),if_neg (by omega),if_neg (by omega),if_neg (by omega),if_neg (by omega),if_neg (by omega),if_neg (by omega),if_pos trivial,bytesP_enc t.c.s more h1]
    simp only
    rw [strB_strN]
  by_cases c6:t.c.k=6
  · obtain ⟨h1,h2⟩:=bare_arrC hc c6 hso
    rw [if_neg c1,if_neg c2,if_neg c3,if_neg c4,if_neg c5,if_pos c6] at hp
    rw [h2]
    rw [MT.nodes_eq] at hn ⊢
    unfold arrP at hp
    cases hq:catP (t.v.map encP) with
    | none=>rw [hq] at hp;cases hp
    | some q =>
      rw [hq] at hp
      simp only [Option.some.injEq] at hp
      subst hp
      have:=valP_put (k:=9) (x:=t.v.length) (f:=f+1) (by omega) (okX_small (by omega) (by omega)) (q++more) hn2 hf0
      rw [show ((9:Nat):Int)=9 from rfl] at this
      rw [List.append_assoc,this]
      have hl:=itemsP_enc (V:=pkValue (f+1)) t.v [] (n+1) more q hq hR (by omega)
      unfold pkBehind
      simp only
      rw [if_neg (by omega),if_neg (by omega),if_neg (by omega),if_neg (by omega),if_neg (by omega),if_neg (by omega),if_neg (by omega),if_neg (by omega),if_neg (by omega),if_pos trivial]
      unfold pkArr
      rw [if_neg (by omega),hl]
      simp only [List.nil_append]
      rw [show n+1+MT.nodesL t.v=n+(1+MT.nodesL t.v) by omega]
  by_cases c7:t.c.k=7
  · obtain ⟨h1,h3,h4,h2⟩:=bare_objC hc c7 hso
    rw [if_neg c1,if_neg c2,if_neg c3,if_neg c4,if_neg c5,if_neg c6,if_pos c7] at hp
    rw [h2]
    rw [MT.nodes_eq] at hn ⊢
    have hris:=ris_of h4
    unfold objP at hp
    cases hq:catP (List.zipWith mbrP t.k (t.v.map encP)) with
    | none=>rw [hq] at hp;cases hp
    | some q =>
      rw [hq] at hp
      simp only [Option.some.injEq] at hp
      subst hp
      have:=valP_put (k:=10) (x:=t.k.length) (f:=f+1) (by omega) (okX_small (by omega) (by omega)) (q++more) hn2 hf0
      rw [show ((10:Nat):Int)=10 from rfl] at this
      rw [List.append_assoc,this]
      have hl:=membersP_enc (V:=pkValue (f+1)) t.v t.k [] [] (n+1) more q h3 hq (fun s hs=>okN_valid (riseC_ok h4 s hs)) hR (by omega)
      unfold pkBehind
      simp only
      rw [if_neg (by omega),if_neg (by omega),if_neg (by omega),if_neg (by omega),if_neg (by omega),if_neg (by omega),if_neg (by omega),if_neg (by omega),if_neg (by omega),if_neg (by omega),if_pos trivial]
      unfold pkObj
      rw [if_neg (by omega),h3,hl]
      simp only [List.nil_append]
      rw [if_pos (ris_nodupP hris)]
      have hsr:sortC t.k=List.range' 0 t.k.length:=sort_risC hris
      have hv1:=range_getDC t.k ByteArray.empty
      have hv2:=range_getDC (t.v.map MT.bare) (leafT 0 false ⟨#[]⟩)
      rw [List.length_map,← h3] at hv2
      rw [hsr,hv1,hv2]
      rw [show n+1+MT.nodesL t.v=n+(1+MT.nodesL t.v) by omega]
  · unfold soundB at hcs
    rw [if_neg c1,if_neg c2,if_neg c3,if_neg c4,if_neg c5,if_neg c7,if_neg c6] at hcs
    cases hcs
theorem decode_encP {t:MT} {p:List Nat} (h:checkB t=true) (hc:CohC t) (hp:encP t=some p) (hl:p.length≤32768):pkDecode p=.inl t.bare:=by
  obtain ⟨hs,hn⟩:=SndC.of h
  have:=valP_enc t 64 1 rfl hs hc 0 [] p hp (by omega)
  rw [List.append_nil] at this
  unfold pkDecode
  rw [if_neg (by omega),this]
  rfl
structure GC (d:Nat) (u:MT):Prop where
  sd:SndC u d
  ba:u.bare=u
theorem nodesL_snocC (l:List MT) (t:MT):MT.nodesL (l++[t])=MT.nodesL l+t.nodes:=by
  induction l with
  | nil=>rw [List.nil_append,MT.nodesL_cons,MT.nodesL_nil];omega
  | cons u l ih=>rw [List.cons_append,MT.nodesL_cons,ih,MT.nodesL_cons];omega
theorem snd_mkC {t:MT} {d:Nat} (hd:d≤64) (h:soundB t=true) (hv:∀ u∈t.v,SndC u (d+1)):SndC t d:=by
  intro x hx
  rw [MT.pre_eq,List.mem_cons] at hx
  rcases hx with rfl | hx
  · exact ⟨hd,h⟩
  · obtain ⟨u,hu,hx⟩:=MT.mem_preL.1 hx
    exact hv u hu x hx
theorem gc_leaf {d:Nat} {k:Int} {b:Bool} {s:ByteArray} (hd:d≤64) (h:soundB (leafT k b s)=true):GC d (leafT k b s):=by
  refine ⟨snd_mkC hd h (fun u hu=>by cases hu),?_⟩
  rw [MT.bare_eq];rfl
theorem leaf_nodesC (k:Int) (b:Bool) (s:ByteArray):(leafT k b s).nodes=1:=by rw [MT.nodes_eq];rfl
theorem bnum_nodesC (r:Bool × Nat × Int):(bnumC r).nodes=1:=by rw [MT.nodes_eq];rfl
theorem okN_strB {p:List Nat} (h1:p.length≤2000) (h2:validB p=true):okN (strB p)=true:=by
  unfold okN
  rw [Bool.and_eq_true,strB_size,strB_data]
  exact ⟨decide_eq_true h1,h2⟩
theorem gc_text {d:Nat} {p:List Nat} (hd:d≤64) (h1:p.length≤2000) (h2:validB p=true):GC d (leafT 4 false (strB p)):=by
  refine gc_leaf hd ?_
  show (validL (strB p).data.toList && (decide ((strB p).size≤2000) && _))=true
  rw [strB_data,strB_size,Bool.and_eq_true,Bool.and_eq_true]
  exact ⟨h2,decide_eq_true h1,rfl⟩
theorem gc_bytes {d:Nat} {p:List Nat} (hd:d≤64) (h1:p.length≤2000):GC d (leafT 5 false (strB p)):=by
  refine gc_leaf hd ?_
  show (decide ((strB p).size≤2000) && _)=true
  rw [strB_size,Bool.and_eq_true]
  exact ⟨decide_eq_true h1,rfl⟩
def NumT (t:MT):Prop:=∃ r:Bool × Nat × Int,chkB r.1 (limbs r.2.1) r.2.2=true∧t=bnumC r
theorem gc_num {d:Nat} {t:MT} (hd:d≤64) (h:NumT t):GC d t∧t.nodes=1:=by
  obtain ⟨r,h,rfl⟩:=h
  refine ⟨⟨snd_mkC hd ?_ (fun u hu=>by cases hu),?_⟩,bnum_nodesC r⟩
  · show (chkB r.1 (limbs r.2.1) r.2.2 && _)=true
    rw [h];rfl
  · rw [MT.bare_eq];rfl
theorem gc_arr {d:Nat} {us:List MT} (hd:d≤64) (hl:us.length≤300) (hu:∀ u∈us,GC (d+1) u):GC d (barrC us):=by
  refine ⟨snd_mkC hd ?_ (fun u h=>(hu u h).sd),?_⟩
  · show (decide (us.length≤300) && _)=true
    rw [decide_eq_true hl];rfl
  · rw [MT.bare_eq]
    have:us.map MT.bare=us:=(List.map_congr_left (fun u h=>(hu u h).ba)).trans (List.map_id us)
    show MT.mk _ _ _ (us.map MT.bare)=_
    rw [this];rfl
theorem gc_obj {d:Nat} {ks:List ByteArray} {us:List MT} (hd:d≤64) (hl:us.length≤300) (hk:ks.length=us.length) (hr:risesB ks=true) (hu:∀ u∈us,GC (d+1) u):GC d (bobjC ks us):=by
  refine ⟨snd_mkC hd ?_ (fun u h=>(hu u h).sd),?_⟩
  · show (decide (ks.length=us.length) && (risesB ks && (decide (us.length≤300) && _)))=true
    rw [decide_eq_true hk,hr,decide_eq_true hl];rfl
  · rw [MT.bare_eq]
    have:us.map MT.bare=us:=(List.map_congr_left (fun u h=>(hu u h).ba)).trans (List.map_id us)
    show MT.mk _ _ _ (us.map MT.bare)=_
    rw [this];rfl
theorem nd_injC {α:Type} {l:List α} (h:l.Nodup) {i j:Nat} (hi:i<l.length) (hj:j<l.length) (e:l[i]=l[j]):i=j:=by
  rcases Nat.lt_trichotomy i j with g | g | g
  · exact absurd e (List.pairwise_iff_getElem.1 h i j hi hj g)
  · exact g
  · exact absurd e.symm (List.pairwise_iff_getElem.1 h j i hj hi g)
theorem sortC_perm (ks:List ByteArray):(sortC ks).Perm (List.range' 0 ks.length):=srt_perm _ _ _ _
theorem mapC_sorted {α:Type} {ks:List ByteArray} {us:List α} (d:α) (h:us.length=ks.length):((sortC ks).map fun i=>us.getD i d).Perm us:=by
  have h1:=(sortC_perm ks).map fun i=>us.getD i d
  rw [← h,range_getDC] at h1
  exact h1
theorem sortC_rises {ks:List ByteArray} (hn:ks.Nodup) (hk:∀ k∈ks,okN k=true):risesB ((sortC ks).map fun i=>ks.getD i ByteArray.empty)=true:=by
  have hlen:(sortC ks).length=ks.length:=by have:=(sortC_perm ks).length_eq;simpa using this
  have hin:∀ a,a∈sortC ks→a<ks.length:=fun a ha=>by
    have:=(sortC_perm ks).mem_iff.1 ha
    rw [List.mem_range'_1] at this
    simpa using this.2
  have hnd:(sortC ks).Nodup:=(sortC_perm ks).nodup_iff.2 (List.nodup_range' (step:=1))
  have hst:=srt_sorted sto_bytes (fun i=>(ks.getD i ByteArray.empty).toList) 0 ks.length
  rw [risesB_iff]
  intro i hi
  rw [List.length_map,hlen] at hi
  have hg:∀ j (hj:j<ks.length),((sortC ks).map fun i=>ks.getD i ByteArray.empty).getD j ByteArray.empty=ks.getD ((sortC ks)[j]'(by omega)) ByteArray.empty:=fun j hj=>by
    simp [List.getD,hlen,hj]
  unfold nameAt
  rw [Bool.and_eq_true]
  constructor
  · rw [hg i hi]
    have ha:=hin _ (List.getElem_mem (show i<(sortC ks).length by omega))
    exact hk _ (by simp [List.getD,ha])
  · rw [Bool.or_eq_true]
    by_cases h0:i=0
    · exact .inl (decide_eq_true h0)
    · right
      rw [hg i hi,hg (i - 1) (by omega)]
      have hlt:i - 1<i:=by omega
      have hp:=List.pairwise_iff_getElem.1 hst (i - 1) i (by unfold sortC at hlen;rw [hlen];omega) (by unfold sortC at hlen;rw [hlen];omega) hlt
      rw [leI_iff] at hp
      have ha:=hin _ (List.getElem_mem (show i - 1<(sortC ks).length by omega))
      have hb:=hin _ (List.getElem_mem (show i<(sortC ks).length by omega))
      have hne:(sortC ks)[i - 1]'(by omega) ≠ (sortC ks)[i]'(by omega):=fun e=>by
        have:=nd_injC hnd _ _ e
        omega
      unfold ltS
      rcases hp with hp | ⟨hp,_⟩
      · exact hp
      · exfalso
        unfold sortC at ha hb hne
        rw [ByteArray.toList_eq,ByteArray.toList_eq] at hp
        have hp2:=congrArg List.toArray hp
        simp only [Array.toArray_toList] at hp2
        have hp3:ks.getD _ ByteArray.empty=ks.getD _ ByteArray.empty:=ByteArray.ext hp2
        rw [List.getD_eq_getElem?_getD,List.getD_eq_getElem?_getD,List.getElem?_eq_getElem ha,List.getElem?_eq_getElem hb] at hp3
        simp only [Option.getD_some] at hp3
        exact hne (nd_injC hn _ _ hp3)
theorem nodesL_permD {l k:List MT} (h:l.Perm k):MT.nodesL l=MT.nodesL k:=by
  induction h with
  | nil=>rfl
  | cons x _ ih=>rw [MT.nodesL_cons,MT.nodesL_cons,ih]
  | swap x y l=>simp only [MT.nodesL_cons];omega
  | trans _ _ h1 h2=>exact h1.trans h2
theorem gc_object {d:Nat} {ks:List ByteArray} {us:List MT} (hd:d≤64) (hn:ks.Nodup) (hk:∀ k∈ks,okN k=true) (hl:ks.length=us.length) (h3:us.length≤300) (hu:∀ u∈us,GC (d+1) u) :
    GC d (bobjC ((sortC ks).map fun i=>ks.getD i ByteArray.empty) ((sortC ks).map fun i=>us.getD i (leafT 0 false ⟨#[]⟩)))∧(bobjC ((sortC ks).map fun i=>ks.getD i ByteArray.empty) ((sortC ks).map fun i=>us.getD i (leafT 0 false ⟨#[]⟩))).nodes=1+MT.nodesL us:=by
  have hpu:=mapC_sorted (ks:=ks) (us:=us) (leafT 0 false ⟨#[]⟩) hl.symm
  have hpk:=mapC_sorted (ks:=ks) (us:=ks) ByteArray.empty rfl
  refine ⟨gc_obj hd (by rw [hpu.length_eq];exact h3) (by rw [hpu.length_eq,hpk.length_eq];omega) (sortC_rises hn hk) (fun u h=>hu u (hpu.mem_iff.1 h)),?_⟩
  rw [MT.nodes_eq]
  show 1+MT.nodesL ((sortC ks).map fun i=>us.getD i (leafT 0 false ⟨#[]⟩))=_
  rw [nodesL_permD hpu]
theorem mkN_chk {neg:Bool} {N:Nat} {e:Int} {r:Bool × Nat × Int} (h:mkN neg N e=some r):chkB r.1 (limbs r.2.1) r.2.2=true:=by
  unfold mkN at h
  split at h
  · cases h;rfl
  · rename_i h0
    split at h
    · rename_i hb
      cases h
      exact chkB_mk (trim_spec h0).2 hb.1 hb.2.1 hb.2.2
    · cases h
theorem exactN_chk {width:Int} {x:Nat} {r:Bool × Nat × Int} (h:exactN width x=some r):chkB r.1 (limbs r.2.1) r.2.2=true:=by
  unfold exactN at h
  split at h
  · cases h
    unfold exNegW exMW exEW
    cases hl:layOf width with
    | none=>rfl
    | some p =>
      obtain ⟨e,f⟩:=p
      simp only
      by_cases hk:kindF e f x=1
      · rw [if_pos hk,if_pos hk]
        obtain ⟨e1,e2,e3,e4,e5⟩:=ex_bounds (layOf_lay hl) hk
        exact chkB_mk e2 e3 e4 e5
      · rw [if_neg hk,if_neg hk,decide_eq_false hk]
        rfl
  · cases h
def E3 (x:Int):Prop:=x=2∨x=3∨x=4
theorem E3.of {x:Int} (h:x=2∨x=4):E3 x:=h.elim .inl (fun h=>.inr (.inr h))
def VGC (V:List Nat→Nat→RC MT) (D:Nat):Prop:=∀ l n p,n≤2000→V l n=.inl p→GC D p.1∧p.2.2=n+p.1.nodes∧p.2.2≤2000
def VEC (V:List Nat→Nat→RC MT):Prop:=∀ l n x,V l n=.inr x→E3 x
theorem pkHead_err {l:List Nat} {x:Int} (h:pkHead l=.inr x):E3 x:=by
  unfold pkHead at h
  have:=getM_errs l
  split at h
  · cases h
  · simp only [Sum.inr.injEq] at h
    subst h
    unfold E3
    omega
theorem pbytes_ok {k:Nat} {l p r:List Nat} (h:pkBytes k l=.inl (p,r)):p.length≤2000:=by
  unfold pkBytes at h
  split at h
  · cases h
  · split at h
    · cases h
    · simp only [Sum.inl.injEq,Prod.mk.injEq] at h
      obtain ⟨rfl,rfl⟩:=h
      rw [List.length_take];omega
theorem pbytes_err {k:Nat} {l:List Nat} {x:Int} (h:pkBytes k l=.inr x):E3 x:=by
  unfold pkBytes at h
  split at h
  · cases h;exact .inr (.inr rfl)
  · split at h
    · cases h;exact .inl rfl
    · cases h
theorem ptext_ok {k:Nat} {l p r:List Nat} (h:pkText k l=.inl (p,r)):p.length≤2000∧validB p=true:=by
  unfold pkText at h
  split at h
  · cases h
  · rename_i q r0 he
    split at h
    · rename_i hv
      simp only [Sum.inl.injEq,Prod.mk.injEq] at h
      obtain ⟨rfl,rfl⟩:=h
      exact ⟨pbytes_ok he,hv⟩
    · cases h
theorem ptext_err {k:Nat} {l:List Nat} {x:Int} (h:pkText k l=.inr x):E3 x:=by
  unfold pkText at h
  split at h
  · rename_i he;cases h;exact pbytes_err he
  · split at h
    · cases h
    · cases h;exact .inl rfl
theorem pname_ok {l p r:List Nat} (h:pkName l=.inl (p,r)):okN (strB p)=true:=by
  unfold pkName at h
  split at h
  · cases h
  · split at h
    · cases h
    · obtain ⟨h1,h2⟩:=ptext_ok h
      exact okN_strB h1 h2
theorem pname_err {l:List Nat} {x:Int} (h:pkName l=.inr x):E3 x:=by
  unfold pkName at h
  split at h
  · rename_i he;cases h;exact pkHead_err he
  · split at h
    · cases h;exact .inr (.inl rfl)
    · exact ptext_err h
theorem pnum_ok (neg:Bool) (N:Nat):NumT (pkNum neg N):=by
  unfold pkNum
  split
  · rename_i r hr;exact ⟨r,mkN_chk hr,rfl⟩
  · exact ⟨(false,0,0),rfl,rfl⟩
theorem psigned_ok (n:Nat):NumT (pkSigned n):=by
  unfold pkSigned
  split <;> exact pnum_ok _ _
theorem pfloat_ok {w:Int} {x:Nat} {t:MT} (h:pkFloat w x=.inl t):NumT t:=by
  unfold pkFloat at h
  split at h
  · cases h
  · rename_i r hr;cases h;exact ⟨r,exactN_chk hr,rfl⟩
theorem pfloat_err {w:Int} {x:Nat} {y:Int} (h:pkFloat w x=.inr y):E3 y:=by
  unfold pkFloat at h
  split at h
  · cases h;exact .inr (.inl rfl)
  · cases h
theorem pitems_good {V:List Nat→Nat→RC MT} {D:Nat} (hV:VGC V D):∀ (f:Nat) (us:List MT) (l:List Nat) (n:Nat) (p:List MT × List Nat × Nat),pkItems V f us l n=.inl p→us.length+f≤300→n≤2000→(∀ u∈us,GC D u) →
    (∀ u∈p.1,GC D u)∧p.1.length≤300∧p.2.2+MT.nodesL us=n+MT.nodesL p.1∧p.2.2≤2000:=by
  intro f
  induction f with
  | zero =>
    intro us l n p h hl hn hu
    unfold pkItems at h
    simp only [Sum.inl.injEq] at h
    subst h
    exact ⟨hu,by simpa using hl,rfl,hn⟩
  | succ f ih =>
    intro us l n p h hl hn hu
    unfold pkItems at h
    split at h
    · cases h
    · rename_i t r3 n2 hv
      obtain ⟨g1,g2,g3⟩:=hV _ _ _ hn hv
      obtain ⟨i1,i2,i3,i4⟩:=ih _ _ _ _ h (by simp;omega) g3 (fun u hu'=>by
        rcases List.mem_append.1 hu' with h | h
        · exact hu u h
        · rw [List.mem_singleton.1 h];exact g1)
      refine ⟨i1,i2,?_,i4⟩
      rw [nodesL_snocC] at i3
      simp only at g2
      omega
theorem pitems_err {V:List Nat→Nat→RC MT} (hV:VEC V):∀ (f:Nat) (us:List MT) (l:List Nat) (n:Nat) (x:Int),pkItems V f us l n=.inr x→E3 x:=by
  intro f
  induction f with
  | zero=>intro us l n x h;cases h
  | succ f ih =>
    intro us l n x h
    unfold pkItems at h
    split at h
    · rename_i he;cases h;exact hV _ _ _ he
    · exact ih _ _ _ _ h
theorem pmems_good {V:List Nat→Nat→RC MT} {D:Nat} (hV:VGC V D):∀ (f:Nat) (ks:List ByteArray) (us:List MT) (l:List Nat) (n:Nat) (p:(List ByteArray × List MT) × List Nat × Nat),pkMembers V f ks us l n=.inl p→ks.length=us.length→us.length+f≤300→n≤2000→(∀ k∈ks,okN k=true)→(∀ u∈us,GC D u) →
    (∀ k∈p.1.1,okN k=true)∧(∀ u∈p.1.2,GC D u)∧p.1.1.length=p.1.2.length∧p.1.2.length≤300∧p.2.2+MT.nodesL us=n+MT.nodesL p.1.2∧p.2.2≤2000:=by
  intro f
  induction f with
  | zero =>
    intro ks us l n p h hkl hl hn hks hu
    unfold pkMembers at h
    simp only [Sum.inl.injEq] at h
    subst h
    exact ⟨hks,hu,hkl,by simpa using hl,rfl,hn⟩
  | succ f ih =>
    intro ks us l n p h hkl hl hn hks hu
    unfold pkMembers at h
    split at h
    · cases h
    · rename_i s r1 hs
      split at h
      · cases h
      · rename_i t r3 n2 hv
        obtain ⟨g1,g2,g3⟩:=hV _ _ _ hn hv
        obtain ⟨i0,i1,i2,i3,i4,i5⟩:=ih _ _ _ _ _ h (by simp;omega) (by simp;omega) g3 (fun u hu'=>by
          rcases List.mem_append.1 hu' with h | h
          · exact hks u h
          · rw [List.mem_singleton.1 h];exact pname_ok hs) (fun u hu'=>by
          rcases List.mem_append.1 hu' with h | h
          · exact hu u h
          · rw [List.mem_singleton.1 h];exact g1)
        refine ⟨i0,i1,i2,i3,?_,i5⟩
        rw [nodesL_snocC] at i4
        simp only at g2
        omega
theorem pmems_err {V:List Nat→Nat→RC MT} (hV:VEC V):∀ (f:Nat) (ks:List ByteArray) (us:List MT) (l:List Nat) (n:Nat) (x:Int),pkMembers V f ks us l n=.inr x→E3 x:=by
  intro f
  induction f with
  | zero=>intro ks us l n x h;cases h
  | succ f ih =>
    intro ks us l n x h
    unfold pkMembers at h
    split at h
    · rename_i he;cases h;exact pname_err he
    · split at h
      · rename_i he;cases h;exact hV _ _ _ he
      · exact ih _ _ _ _ _ h
theorem pbehind_good {V:List Nat→Nat→RC MT} {D:Nat} (hD:D≤64) (hV:VGC V (D+1)) (h0:HdM) (l:List Nat) (n:Nat) (p:MT × List Nat × Nat) (hn:n≤2000) (h:pkBehind V h0 l n=.inl p) :
    GC D p.1∧p.2.2+1=n+p.1.nodes∧p.2.2≤2000:=by
  unfold pkBehind at h
  split at h
  · simp only [Sum.inl.injEq] at h
    subst h
    exact ⟨gc_leaf hD rfl,by simp only [leaf_nodesC],hn⟩
  split at h
  · simp only [Sum.inl.injEq] at h
    subst h
    exact ⟨gc_leaf hD rfl,by simp only [leaf_nodesC],hn⟩
  split at h
  · simp only [Sum.inl.injEq] at h
    subst h
    exact ⟨gc_leaf hD rfl,by simp only [leaf_nodesC],hn⟩
  split at h
  · simp only [Sum.inl.injEq] at h
    subst h
    obtain ⟨g1,g2⟩:=gc_num hD (pnum_ok false h0.2)
    exact ⟨g1,by simp only [g2],hn⟩
  split at h
  · simp only [Sum.inl.injEq] at h
    subst h
    obtain ⟨g1,g2⟩:=gc_num hD (psigned_ok h0.2)
    exact ⟨g1,by simp only [g2],hn⟩
  split at h
  · split at h
    · cases h
    · rename_i he
      simp only [Sum.inl.injEq] at h
      subst h
      obtain ⟨g1,g2⟩:=gc_num hD (pfloat_ok he)
      exact ⟨g1,by simp only [g2],hn⟩
  split at h
  · split at h
    · cases h
    · rename_i he
      simp only [Sum.inl.injEq] at h
      subst h
      obtain ⟨g1,g2⟩:=gc_num hD (pfloat_ok he)
      exact ⟨g1,by simp only [g2],hn⟩
  split at h
  · split at h
    · cases h
    · rename_i he
      simp only [Sum.inl.injEq] at h
      subst h
      exact ⟨gc_text hD (ptext_ok he).1 (ptext_ok he).2,by simp only [leaf_nodesC],hn⟩
  split at h
  · split at h
    · cases h
    · rename_i he
      simp only [Sum.inl.injEq] at h
      subst h
      exact ⟨gc_bytes hD (pbytes_ok he),by simp only [leaf_nodesC],hn⟩
  split at h
  · unfold pkArr at h
    split at h
    · cases h
    · rename_i hk
      split at h
      · cases h
      · rename_i us r n2 he
        simp only [Sum.inl.injEq] at h
        subst h
        obtain ⟨g1,g2,g3,g4⟩:=pitems_good hV _ _ _ _ _ he (by simp;omega) hn (fun u hu=>by cases hu)
        rw [MT.nodesL_nil] at g3
        refine ⟨gc_arr hD g2 g1,?_,g4⟩
        show n2+1=n+(barrC us).nodes
        rw [MT.nodes_eq]
        show _=n+(1+MT.nodesL us)
        simp only at g3
        omega
  split at h
  · unfold pkObj at h
    split at h
    · cases h
    · rename_i hk
      split at h
      · cases h
      · rename_i ks us r n2 he
        obtain ⟨g0,g1,g2,g3,g4,g5⟩:=pmems_good hV _ _ _ _ _ _ he rfl (by simp;omega) hn (fun u hu=>by cases hu) (fun u hu=>by cases hu)
        rw [MT.nodesL_nil] at g4
        split at h
        · rename_i hnd
          simp only [Sum.inl.injEq] at h
          subst h
          obtain ⟨k1,k2⟩:=gc_object hD hnd g0 g2 g3 g1
          refine ⟨k1,?_,g5⟩
          have g4':n2+0=n+MT.nodesL us:=g4
          show n2+1=n+MT.nodes _
          rw [k2]
          show n2+1=n+(1+MT.nodesL us)
          omega
        · cases h
  · cases h
theorem pbehind_err {V:List Nat→Nat→RC MT} (hV:VEC V) (h0:HdM) (l:List Nat) (n:Nat) (x:Int) (h:pkBehind V h0 l n=.inr x):E3 x:=by
  unfold pkBehind at h
  split at h
  · cases h
  split at h
  · cases h
  split at h
  · cases h
  split at h
  · cases h
  split at h
  · cases h
  split at h
  · split at h
    · rename_i he;cases h;exact pfloat_err he
    · cases h
  split at h
  · split at h
    · rename_i he;cases h;exact pfloat_err he
    · cases h
  split at h
  · split at h
    · rename_i he;cases h;exact ptext_err he
    · cases h
  split at h
  · split at h
    · rename_i he;cases h;exact pbytes_err he
    · cases h
  split at h
  · unfold pkArr at h
    split at h
    · cases h;exact .inr (.inr rfl)
    · split at h
      · rename_i he;cases h;exact pitems_err hV _ _ _ _ _ he
      · cases h
  split at h
  · unfold pkObj at h
    split at h
    · cases h;exact .inr (.inr rfl)
    · split at h
      · rename_i he;cases h;exact pmems_err hV _ _ _ _ _ _ he
      · split at h
        · cases h
        · cases h;exact .inl rfl
  · cases h;exact .inr (.inl rfl)
theorem pvalue_good:∀ f,f≤65→VGC (pkValue f) (66 - f):=by
  intro f
  induction f with
  | zero=>intro _ l n p _ h;cases h
  | succ f ih =>
    intro hf l n p hn h
    have hV:=ih (by omega)
    rw [pkValue] at h
    split at h
    · cases h
    · rename_i h0 r2 hh
      split at h
      · cases h
      · rename_i hlim
        rw [show 66 - f=(66 - (f+1))+1 by omega] at hV
        obtain ⟨g1,g2,g3⟩:=pbehind_good (by omega) hV h0 r2 (n+1) p (by omega) h
        exact ⟨g1,by omega,g3⟩
theorem pvalue_err:∀ f,VEC (pkValue f):=by
  intro f
  induction f with
  | zero=>intro l n x h;cases h;exact .inl rfl
  | succ f ih =>
    intro l n x h
    rw [pkValue] at h
    split at h
    · rename_i he;cases h;exact pkHead_err he
    · split at h
      · cases h;exact .inr (.inr rfl)
      · exact pbehind_err ih _ _ _ _ h
theorem pkDecode_ok {l:List Nat} {u:MT} (h:pkDecode l=.inl u):checkB u=true∧u.bare=u:=by
  unfold pkDecode at h
  split at h
  · cases h
  · split at h
    · cases h
    · rename_i t r n he
      split at h
      · cases h
        obtain ⟨g,g2,g3⟩:=pvalue_good 65 (Nat.le_refl _) _ _ _ (Nat.zero_le _) he
        simp only at g g2 g3
        refine ⟨?_,g.ba⟩
        unfold checkB
        rw [Bool.and_eq_true]
        refine ⟨decide_eq_true (by omega),List.all_eq_true.2 fun x hx=>?_⟩
        obtain ⟨h1,h2⟩:=g.sd x hx
        rw [decide_eq_true h1,h2];rfl
      · cases h
theorem pkDecode_err {l:List Nat} {x:Int} (h:pkDecode l=.inr x):E3 x:=by
  unfold pkDecode at h
  split at h
  · cases h;exact .inr (.inr rfl)
  · split at h
    · rename_i he;cases h;exact pvalue_err 65 _ _ _ he
    · split at h
      · cases h
      · cases h;exact .inl rfl
structure RdP (w0:World) (g:Nat) (l:List Nat) (d n:Nat) (w:World):Prop where
  low:w0.heap.size≤g
  env:Below w0.heap.size w0 w
  ok:Okb l
  len:l.length≤1000000
  cell:∃ ad cap,w.heap[g]? = some (.cells #[.slice ad l.length cap,.int .i64 (d:Int),.int .i64 (n:Int)] 89)∧l.length≤cap∧RdV w0 ad (bc l)∧Shp ad cap
theorem RdP.lt {w0:World} {g:Nat} {l:List Nat} {d n:Nat} {w:World} (h:RdP w0 g l d n w):g<w.heap.size:=by
  obtain ⟨ad,cap,h1,_⟩:=h.cell
  exact (Array.getElem?_eq_some_iff.1 h1).1
theorem RdP.c1 {w0:World} {g:Nat} {l:List Nat} {d n:Nat} {w:World} (h:RdP w0 g l d n w):w.cell? ⟨g,1,none⟩=some (.int .i64 (d:Int)):=by
  obtain ⟨ad,cap,h1,_⟩:=h.cell
  simp [World.cell?,h1]
theorem RdP.c2 {w0:World} {g:Nat} {l:List Nat} {d n:Nat} {w:World} (h:RdP w0 g l d n w):w.cell? ⟨g,2,none⟩=some (.int .i64 (n:Int)):=by
  obtain ⟨ad,cap,h1,_⟩:=h.cell
  simp [World.cell?,h1]
theorem RdP.fz {w0:World} {g:Nat} {l:List Nat} {d n:Nat} {w:World} (h:RdP w0 g l d n w) (i:Nat):w.frozen? ⟨g,i,none⟩=false:=by
  obtain ⟨ad,cap,h1,_⟩:=h.cell
  simp [World.frozen?,h1]
theorem RdP.on {w0:World} {g:Nat} {l:List Nat} {d n:Nat} {w w':World} (h:RdP w0 g l d n w) (hb:Below w.heap.size w w'):RdP w0 g l d n w':=by
  obtain ⟨ad,cap,h1,h2,h3⟩:=h.cell
  exact ⟨h.low,h.env.trans (hb.mono h.env.size),h.ok,h.len,ad,cap,(hb.block g h.lt).trans h1,h2,h3⟩
structure StP (w0:World) (g:Nat) (l:List Nat) (d n:Nat) (w w':World):Prop where
  oth:But g w w'
  rd:RdP w0 g l d n w'
theorem StP.trans {w0:World} {g:Nat} {l l':List Nat} {d n d' n':Nat} {w w1 w2:World} (h:StP w0 g l d n w w1) (k:StP w0 g l' d' n' w1 w2):StP w0 g l' d' n' w w2:=⟨h.oth.trans k.oth,k.rd⟩
theorem StP.of_below {w0:World} {g:Nat} {l:List Nat} {d n:Nat} {w w':World} (h:RdP w0 g l d n w) (hb:Below w.heap.size w w'):StP w0 g l d n w w':=⟨.of_below hb,h.on hb⟩
theorem StP.refl {w0:World} {g:Nat} {l:List Nat} {d n:Nat} {w:World} (h:RdP w0 g l d n w):StP w0 g l d n w w:=.of_below h (Below.refl _ _)
theorem StP.more {w0:World} {g:Nat} {l:List Nat} {d n:Nat} {w w1 w2:World} (h:StP w0 g l d n w w1) (hb:Below w1.heap.size w1 w2):StP w0 g l d n w w2:=h.trans (.of_below h.rd hb)
theorem StP.drew {w0:World} {g:Nat} {l:List Nat} {d n:Nat} {a w:World} (h:StP w0 g l d n a w):StP w0 g l d n a w.drew:=h.more (below_drew (Below.refl _ _))
theorem StP.drewN {w0:World} {g:Nat} {l:List Nat} {d n:Nat} {a w:World} (h:StP w0 g l d n a w) (k:Nat):StP w0 g l d n a (w.drewN k):=h.more (below_drewN (Below.refl _ _) k)
theorem StP.alloc {w0:World} {g:Nat} {l:List Nat} {d n:Nat} {a w:World} (h:StP w0 g l d n a w) (o:Obj):StP w0 g l d n a (w.alloc o):=h.more ((Below.refl _ _).alloc (Nat.le_refl _) _)
theorem StP.zero {w0:World} {g:Nat} {l:List Nat} {d n:Nat} {a w:World} (h:StP w0 g l d n a w) {l':List Nat} {ad:Option Addr} {k cap:Nat} (hok:Okb l') (hlen:l'.length≤1000000) (hk:l'.length=k) (hc:k≤cap) (hr:RdV w0 ad (bc l')) (hsh:Shp ad cap) :
    StP w0 g l' d n a (w.setCell ⟨g,0,none⟩ (.slice ad k cap)):=by
  subst hk
  refine ⟨h.oth.setCell _ _,⟨h.rd.low,h.rd.env.setCell h.rd.low _,hok,hlen,ad,cap,?_,hc,hr,hsh⟩⟩
  obtain ⟨ad',cap',h1,_⟩:=h.rd.cell
  simp [World.setCell,Array.getElem?_modify,h1]
theorem StP.depth {w0:World} {g:Nat} {l:List Nat} {d n:Nat} {a w:World} (h:StP w0 g l d n a w) (d':Nat) {v:Value} (hv:v=.int .i64 (d':Int)):StP w0 g l d' n a (w.setCell ⟨g,1,none⟩ v):=by
  subst hv
  obtain ⟨ad,cap,h1,h2,h3⟩:=h.rd.cell
  refine ⟨h.oth.setCell _ _,⟨h.rd.low,h.rd.env.setCell h.rd.low _,h.rd.ok,h.rd.len,ad,cap,?_,h2,h3⟩⟩
  simp [World.setCell,Array.getElem?_modify,h1]
theorem StP.nodes {w0:World} {g:Nat} {l:List Nat} {d n:Nat} {a w:World} (h:StP w0 g l d n a w) (n':Nat) {v:Value} (hv:v=.int .i64 (n':Int)):StP w0 g l d n' a (w.setCell ⟨g,2,none⟩ v):=by
  subst hv
  obtain ⟨ad,cap,h1,h2,h3⟩:=h.rd.cell
  refine ⟨h.oth.setCell _ _,⟨h.rd.low,h.rd.env.setCell h.rd.low _,h.rd.ok,h.rd.len,ad,cap,?_,h2,h3⟩⟩
  simp [World.setCell,Array.getElem?_modify,h1]
theorem StP.fresh {w0:World} {g:Nat} {l:List Nat} {d n:Nat} {w W:World} (h:StP w0 g l d n w W) {b:Nat} (hb:w.heap.size≤b) (hg:b ≠ g) (h0:w0.heap.size≤b) (i:Nat) (v:Value):StP w0 g l d n w (W.setCell ⟨b,i,none⟩ v):=by
  obtain ⟨ad,cap,h1,h2,h3⟩:=h.rd.cell
  refine ⟨⟨h.oth.os,h.oth.tape,h.oth.output,by simpa [World.setCell] using h.oth.size,fun k hk hk2=>(Below.heap_setCell _ _ _ _ (by simp;omega)).trans (h.oth.block k hk hk2)⟩,⟨h.rd.low,h.rd.env.setCell h0 _,h.rd.ok,h.rd.len,ad,cap,?_,h2,h3⟩⟩
  rw [Below.heap_setCell _ _ _ _ (by simpa using fun e=>hg e.symm)]
  exact h1
def ThrowP (w0:World) (x:Int) (g:Nat) (w:World) (e:Ending) (w':World):Prop:=e=.panicked [{ v:=.iface 32 (.int .i64 x),recovered:=false }]∧∃ l d n,StP w0 g l d n w w'
theorem ThrowP.on {w0:World} {x:Int} {g:Nat} {l:List Nat} {d n:Nat} {w w1 w':World} {e:Ending} (h:StP w0 g l d n w w1) (h2:ThrowP w0 x g w1 e w'):ThrowP w0 x g w e w':=by
  obtain ⟨he,l,d,n,hj⟩:=h2
  exact ⟨he,l,d,n,h.trans hj⟩
theorem ThrowP.mk {w0:World} {x:Int} {g:Nat} {l:List Nat} {d n:Nat} {w w':World} (h:StP w0 g l d n w w'):ThrowP w0 x g w (.panicked [{ v:=.iface 32 (.int .i64 x),recovered:=false }]) w':=⟨rfl,_,_,_,h⟩
def TakP {α:Type} (w0:World) (g d n:Nat) (val:α→Value) (r:(α × List Nat) ⊕ Int) (w:World) (e:Ending) (w':World):Prop:=match r with
  | .inl (x,l)=>e=.returned (val x)∧StP w0 g l d n w w'
  | .inr x=>ThrowP w0 x g w e w'
theorem TakP.yes {α:Type} {w0:World} {g d n:Nat} {val:α→Value} {r:(α × List Nat) ⊕ Int} {w:World} {e:Ending} {w':World} {x:α} {l:List Nat} (h:r=.inl (x,l)) (he:e=.returned (val x)) (hs:StP w0 g l d n w w'):TakP w0 g d n val r w e w':=by
  subst h;exact ⟨he,hs⟩
theorem TakP.no {α:Type} {w0:World} {g d n:Nat} {val:α→Value} {r:(α × List Nat) ⊕ Int} {w:World} {e:Ending} {w':World} {x:Int} (h:r=.inr x) (hs:ThrowP w0 x g w e w'):TakP w0 g d n val r w e w':=by
  subst h;exact hs
theorem TakP.on {α:Type} {w0:World} {g d n d0 n0:Nat} {l:List Nat} {val:α→Value} {r:(α × List Nat) ⊕ Int} {w w1:World} {e:Ending} {w':World} (h:StP w0 g l d0 n0 w w1) (h2:TakP w0 g d n val r w1 e w'):TakP w0 g d n val r w e w':=by
  unfold TakP at *
  cases r with
  | inr x=>exact ThrowP.on h h2
  | inl p=>exact ⟨h2.1,h.trans h2.2⟩
end Go.Proofs.YtnacbakcalcgaaaGreatDoor
