/- Texts of the claim. -/
import Derived.Test.YtnacbakcalcgaaaGreatDoorIy
set_option linter.unusedVariables false
set_option linter.unusedSimpArgs false
set_option maxHeartbeats 200000
set_option maxRecDepth 100000
namespace Go.Proofs.YtnacbakcalcgaaaGreatDoor
open Go.RowKit Go.Lib Go.Sort
def CohC (t:MT):Prop:=∀ s,t.sub s→s.m.length=s.c.mn∧Okl s.m∧s.k.length=s.c.kn∧s.v.length=s.c.vn
theorem CohC.of {w:World} {t:MT} (h:Rep w t):CohC t:=fun s hs=>⟨(h s hs).mn,(h s hs).mo,(h s hs).kn,(h s hs).vn⟩
theorem CohC.own {t:MT} (h:CohC t):t.m.length=t.c.mn∧Okl t.m∧t.k.length=t.c.kn∧t.v.length=t.c.vn:=h t t.sub_refl
theorem CohC.part {t u:MT} (h:CohC t) (hu:u∈t.v):CohC u:=fun s hs=>h s (MT.sub_v hu hs)
theorem blank_factsC {c:Cel} (h:blankB c=true):c.b=false∧c.neg=false∧c.mn=0∧c.e=0∧c.s=⟨#[]⟩∧c.kn=0∧c.vn=0:=by
  unfold blankB at h
  simp only [Bool.and_eq_true,Bool.not_eq_true',decide_eq_true_eq] at h
  obtain ⟨h1,h2,h3,h4,h5,h6,h7⟩:=h
  refine ⟨h1,h2,h3,h4,?_,h6,h7⟩
  apply ByteArray.ext
  exact Array.eq_empty_of_size_eq_zero h5
theorem bare_nullC {t:MT} (hc:CohC t) (k:t.c.k=1) (h:soundB t=true):t.bare=leafT 1 false ⟨#[]⟩:=by
  obtain ⟨h1,_,h2,h3⟩:=hc.own
  rw [MT.bare_eq]
  obtain ⟨⟨ck,b,neg,ma,mn,mc,e,s,ka,kn,kc,va,vn,vc⟩,m,ks,vs⟩:=t
  simp only [MT.c,MT.m,MT.k,MT.v] at *
  subst k
  obtain ⟨e1,e2,e3,e4,e5,e6,e7⟩:=blank_factsC (c:=⟨1,b,neg,ma,mn,mc,e,s,ka,kn,kc,va,vn,vc⟩) h
  simp only at e1 e2 e3 e4 e5 e6 e7
  subst e1 e2 e3 e4 e5 e6 e7
  rw [List.eq_nil_of_length_eq_zero h1,List.eq_nil_of_length_eq_zero h2,List.eq_nil_of_length_eq_zero h3]
  rfl
theorem bare_boolC {t:MT} (hc:CohC t) (k:t.c.k=2) (h:soundB t=true):t.bare=leafT 2 t.c.b ⟨#[]⟩:=by
  obtain ⟨h1,_,h2,h3⟩:=hc.own
  rw [MT.bare_eq]
  obtain ⟨⟨ck,b,neg,ma,mn,mc,e,s,ka,kn,kc,va,vn,vc⟩,m,ks,vs⟩:=t
  simp only [MT.c,MT.m,MT.k,MT.v] at *
  subst k
  obtain ⟨e1,e2,e3,e4,e5,e6,e7⟩:=blank_factsC (c:=⟨2,false,neg,ma,mn,mc,e,s,ka,kn,kc,va,vn,vc⟩) h
  simp only at e1 e2 e3 e4 e5 e6 e7
  subst e2 e3 e4 e5 e6 e7
  rw [List.eq_nil_of_length_eq_zero h1,List.eq_nil_of_length_eq_zero h2,List.eq_nil_of_length_eq_zero h3]
  rfl
theorem bare_numC {t:MT} (hc:CohC t) (k:t.c.k=3) (h:soundB t=true):chkB t.c.neg t.m t.c.e=true∧t.bare=numT t.c.neg none t.m.length 0 t.c.e t.m:=by
  obtain ⟨h1,_,h2,h3⟩:=hc.own
  rw [MT.bare_eq]
  obtain ⟨⟨ck,b,neg,ma,mn,mc,e,s,ka,kn,kc,va,vn,vc⟩,m,ks,vs⟩:=t
  simp only [MT.c,MT.m,MT.k,MT.v] at *
  subst k
  have h':(chkB neg m e && blankB ⟨3,b,false,none,0,0,0,s,ka,kn,kc,va,vn,vc⟩)=true:=h
  rw [Bool.and_eq_true] at h'
  obtain ⟨e1,e2,e3,e4,e5,e6,e7⟩:=blank_factsC h'.2
  simp only at e1 e2 e3 e4 e5 e6 e7
  subst e1 e5 e6 e7 h1
  rw [List.eq_nil_of_length_eq_zero h2,List.eq_nil_of_length_eq_zero h3]
  exact ⟨h'.1,rfl⟩
theorem bare_textC {t:MT} (hc:CohC t) (k:t.c.k=4) (h:soundB t=true):(validL t.c.s.data.toList=true∧t.c.s.size≤2000)∧t.bare=leafT 4 false t.c.s:=by
  obtain ⟨h1,_,h2,h3⟩:=hc.own
  rw [MT.bare_eq]
  obtain ⟨⟨ck,b,neg,ma,mn,mc,e,s,ka,kn,kc,va,vn,vc⟩,m,ks,vs⟩:=t
  simp only [MT.c,MT.m,MT.k,MT.v] at *
  subst k
  have h':(validL s.data.toList && (decide (s.size≤2000) && blankB ⟨4,b,neg,ma,mn,mc,e,⟨#[]⟩,ka,kn,kc,va,vn,vc⟩))=true:=h
  rw [Bool.and_eq_true,Bool.and_eq_true] at h'
  obtain ⟨e1,e2,e3,e4,e5,e6,e7⟩:=blank_factsC h'.2.2
  simp only at e1 e2 e3 e4 e5 e6 e7
  subst e1 e2 e3 e4 e6 e7
  rw [List.eq_nil_of_length_eq_zero h1,List.eq_nil_of_length_eq_zero h2,List.eq_nil_of_length_eq_zero h3]
  exact ⟨⟨h'.1,of_decide_eq_true h'.2.1⟩,rfl⟩
theorem bare_bytesC {t:MT} (hc:CohC t) (k:t.c.k=5) (h:soundB t=true):t.c.s.size≤2000∧t.bare=leafT 5 false t.c.s:=by
  obtain ⟨h1,_,h2,h3⟩:=hc.own
  rw [MT.bare_eq]
  obtain ⟨⟨ck,b,neg,ma,mn,mc,e,s,ka,kn,kc,va,vn,vc⟩,m,ks,vs⟩:=t
  simp only [MT.c,MT.m,MT.k,MT.v] at *
  subst k
  have h':(decide (s.size≤2000) && blankB ⟨5,b,neg,ma,mn,mc,e,⟨#[]⟩,ka,kn,kc,va,vn,vc⟩)=true:=h
  rw [Bool.and_eq_true] at h'
  obtain ⟨e1,e2,e3,e4,e5,e6,e7⟩:=blank_factsC h'.2
  simp only at e1 e2 e3 e4 e5 e6 e7
  subst e1 e2 e3 e4 e6 e7
  rw [List.eq_nil_of_length_eq_zero h1,List.eq_nil_of_length_eq_zero h2,List.eq_nil_of_length_eq_zero h3]
  exact ⟨of_decide_eq_true h'.1,rfl⟩
theorem bare_arrC {t:MT} (hc:CohC t) (k:t.c.k=6) (h:soundB t=true):t.v.length≤300∧t.bare=barrC (t.v.map MT.bare):=by
  obtain ⟨h1,_,h2,h3⟩:=hc.own
  rw [MT.bare_eq]
  obtain ⟨⟨ck,b,neg,ma,mn,mc,e,s,ka,kn,kc,va,vn,vc⟩,m,ks,vs⟩:=t
  simp only [MT.c,MT.m,MT.k,MT.v] at *
  subst k
  have h':(decide (vn≤300) && blankB ⟨6,b,neg,ma,mn,mc,e,s,ka,kn,kc,none,0,0⟩)=true:=h
  rw [Bool.and_eq_true] at h'
  obtain ⟨e1,e2,e3,e4,e5,e6,e7⟩:=blank_factsC h'.2
  simp only at e1 e2 e3 e4 e5 e6 e7
  subst e1 e2 e3 e4 e5 e6 h3
  rw [List.eq_nil_of_length_eq_zero h1,List.eq_nil_of_length_eq_zero h2]
  refine ⟨of_decide_eq_true h'.1,?_⟩
  unfold barrC arrT
  rw [List.length_map]
  rfl
theorem bare_objC {t:MT} (hc:CohC t) (k:t.c.k=7) (h:soundB t=true):t.v.length≤300∧t.k.length=t.v.length∧risesB t.k=true∧t.bare=bobjC t.k (t.v.map MT.bare):=by
  obtain ⟨h1,_,h2,h3⟩:=hc.own
  rw [MT.bare_eq]
  obtain ⟨⟨ck,b,neg,ma,mn,mc,e,s,ka,kn,kc,va,vn,vc⟩,m,ks,vs⟩:=t
  simp only [MT.c,MT.m,MT.k,MT.v] at *
  subst k
  have h':(decide (kn=vn) && (risesB ks && (decide (vn≤300) && blankB ⟨7,b,neg,ma,mn,mc,e,s,none,0,0,none,0,0⟩)))=true:=h
  rw [Bool.and_eq_true,Bool.and_eq_true,Bool.and_eq_true] at h'
  obtain ⟨e1,e2,e3,e4,e5,e6,e7⟩:=blank_factsC h'.2.2.2
  simp only at e1 e2 e3 e4 e5 e6 e7
  have hkv:=of_decide_eq_true h'.1
  subst e1 e2 e3 e4 e5 h3 h2
  rw [List.eq_nil_of_length_eq_zero h1]
  refine ⟨of_decide_eq_true h'.2.2.1,hkv,h'.2.1,?_⟩
  unfold bobjC objT
  rw [List.length_map]
  rfl
def SndC (t:MT) (d:Nat):Prop:=∀ x∈t.pre d,x.1≤64∧soundB x.2=true
theorem SndC.own {t:MT} {d:Nat} (h:SndC t d):d≤64∧soundB t=true:=h (d,t) (by rw [MT.pre_eq];simp)
theorem SndC.part {t u:MT} {d:Nat} (h:SndC t d) (hu:u∈t.v):SndC u (d+1):=fun x hx=>h x (by rw [MT.pre_eq];exact List.mem_cons_of_mem _ (MT.mem_preL.2 ⟨u,hu,hx⟩))
theorem SndC.of {t:MT} (h:checkB t=true):SndC t 1∧t.nodes≤2000:=by
  unfold checkB at h
  rw [Bool.and_eq_true,List.all_eq_true] at h
  refine ⟨fun x hx=>?_,of_decide_eq_true h.1⟩
  have:=h.2 x hx
  rw [Bool.and_eq_true] at this
  exact ⟨of_decide_eq_true this.1,this.2⟩
theorem okN_valid {s:ByteArray} (h:okN s=true):s.size≤2000∧validL s.data.toList=true:=by
  unfold okN at h
  rw [Bool.and_eq_true,decide_eq_true_eq] at h
  exact h
theorem head_lays {k x f S:Nat} (h:Lays k x f S) (hk:k ≠ 0∧k ≠ 11) (r:List Nat):pkHead (f::(be S x++r))=.inl ((k,x),r):=by
  have hg:=getM_in (f::(be S x++r)) 0 f (by simp) rfl
  rw [Int.natCast_zero] at hg
  have hm:moreB f=0:=by unfold moreB;rw [h.kd,if_neg hk.2]
  have h193:f ≠ 193:=fun e=>hk.1 (by rw [← h.kd];exact (kindB_0 f h.lt).2 e)
  rw [if_neg h193,hm,h.sz,if_neg (by simp only [List.length_cons,List.length_append,be_len];omega),h.kd] at hg
  have hd:(f::(be S x++r)).drop (0+1)=be S x++r:=rfl
  have hlen:=be_len S x
  rw [hd,List.take_append_of_le_length (by omega),List.take_of_length_le (by omega)] at hg
  have hv:(if S=0 then shortM f else numM k (be S x))=x:=by
    by_cases h0:S=0
    · rw [if_pos h0,h.sh h0]
    · rw [if_neg h0,h.nm h0]
  rw [hv] at hg
  unfold pkHead
  rw [hg]
  simp only [if_true]
  rw [show 0+1+S+0=S+1 by omega,List.drop_succ_cons,List.drop_append_of_le_length (by omega),List.drop_of_length_le (by omega),List.nil_append]
theorem mput_eq {k:Nat} (x:Nat) (hk:1≤k∧k≤12∧k ≠ 11):mput (k:Int) x=(mlay k x).1::be (mlay k x).2 x:=by
  unfold mput
  rw [if_neg (by omega)]
  rfl
theorem head_mput {k x:Nat} (hk:1≤k∧k≤12∧k ≠ 11) (h:okX k x) (r:List Nat):pkHead (mput (k:Int) x++r)=.inl ((k,x),r):=by
  rw [mput_eq x hk,List.cons_append]
  exact head_lays (mlay_lays k x hk h) (by omega) r
theorem valP_on {f n:Nat} {l r:List Nat} {h:HdM} (e:pkHead l=.inl (h,r)) (hn:n<2000) (hf:f ≠ 0):pkValue (f+1) l n=pkBehind (pkValue f) h r (n+1):=by
  rw [pkValue,e]
  simp only
  rw [if_neg (by omega)]
theorem valP_put {f n k x:Nat} (hk:1≤k∧k≤12∧k ≠ 11) (h:okX k x) (r:List Nat) (hn:n<2000) (hf:f ≠ 0):pkValue (f+1) (mput (k:Int) x++r) n=pkBehind (pkValue f) (k,x) r (n+1) :=
  valP_on (head_mput hk h r) hn hf
theorem bytesP_enc (s:ByteArray) (more:List Nat) (hz:s.size≤2000):pkBytes s.size (strN s++more)=.inl (strN s,more):=by
  have hl:=strN_len s
  unfold pkBytes
  rw [if_neg (by omega),if_neg (by rw [List.length_append];omega),List.take_append_of_le_length (by omega),List.take_of_length_le (by omega),List.drop_append_of_le_length (by omega),List.drop_of_length_le (by omega),List.nil_append]
theorem validB_strN {s:ByteArray} (h:validL s.data.toList=true):validB (strN s)=true:=by
  have e:(strN s).map (fun x=>UInt8.ofNat x)=s.data.toList:=by
    unfold strN;rw [List.map_map];simp [Function.comp_def]
  unfold validB
  rw [e,h]
theorem textP_enc (s:ByteArray) (more:List Nat) (hz:s.size≤2000) (hv:validL s.data.toList=true):pkText s.size (strN s++more)=.inl (strN s,more):=by
  unfold pkText
  rw [bytesP_enc s more hz]
  simp only
  rw [if_pos (validB_strN hv)]
theorem okX_small {k x:Nat} (h3:k ≠ 1∧k ≠ 2∧k ≠ 3∧k ≠ 5) (hx:x<4294967296):okX k x:=⟨fun h=>by omega,fun h=>by omega,fun _=>hx,by omega⟩
theorem nameP_enc (s:ByteArray) (r:List Nat) (hz:s.size≤2000) (hv:validL s.data.toList=true):pkName (strP 7 s++r)=.inl (strN s,r):=by
  unfold strP pkName
  rw [List.append_assoc,head_mput (by omega) (okX_small (by omega) (by omega))]
  simp only
  rw [if_neg (by simp)]
  exact textP_enc s r hz hv
theorem numP_back {ng : Bool} {xs : List Nat} {e : Int} {p : List Nat} (ho : Okl xs) (h : chkB ng xs e = true) (hp : numP ng (val xs) e = some p) (f n : Nat) (more : List Nat) (hn : n < 2000) (hf : f ≠ 0) :
    pkValue (f + 1) (p ++ more) n = .inl (bnumC (ng, val xs, e), more, n + 1) := by
  unfold numP at hp
  cases hw : wordP ng (val xs) e with
  | none => rw [hw] at hp; cases hp
  | some kx =>
    obtain ⟨k, x⟩ := kx
    rw [hw] at hp
    simp only [Option.some.injEq] at hp
    subst hp
    unfold wordP at hw
    cases h1 : wholeP ng (val xs) e with
    | some q =>
      rw [h1] at hw
      simp only [Option.some.injEq] at hw
      subst hw
      unfold wholeP intAt at h1
      split at h1
      · cases h1
      · rename_i M hM
        split at hM
        case isFalse => cases hM
        rename_i hi
        simp only [Option.some.injEq] at hM
        have hmk := mkN_canon ho h e.toNat
        rw [show e - (e.toNat : Int) = 0 by omega, hM] at hmk
        split at h1
        · rename_i hng
          split at h1
          case isFalse => cases h1
          rename_i hb
          have hM0 : M ≠ 0 := by rw [← hM]; exact Nat.mul_ne_zero (neg_ne ho h hng) (tenN_ne _)
          have hb2 := bits_lt hb
          simp only [Option.some.injEq, Prod.mk.injEq] at h1
          obtain ⟨rfl, rfl⟩ := h1
          have hx : (18446744073709551616 - M) % 18446744073709551616 = 18446744073709551616 - M := Nat.mod_eq_of_lt (by omega)
          rw [hx, valP_put (by omega) ⟨fun h => by omega, fun _ => by omega, fun h => by omega, by omega⟩ more hn hf]
          unfold pkBehind
          simp only
          rw [if_neg (by omega), if_neg (by omega), if_neg (by omega), if_neg (by omega), if_pos trivial]
          unfold pkSigned pkNum
          rw [if_pos (by omega), show 18446744073709551616 - (18446744073709551616 - M) = M by omega, ← hng, hmk]
        · rename_i hng
          split at h1
          case isFalse => cases h1
          rename_i hb
          have hb2 := bits_lt hb
          simp only [Option.some.injEq, Prod.mk.injEq] at h1
          obtain ⟨rfl, rfl⟩ := h1
          rw [valP_put (by omega) ⟨fun h => by omega, fun h => by omega, fun h => by omega, by omega⟩ more hn hf]
          unfold pkBehind
          simp only
          rw [if_neg (by omega), if_neg (by omega), if_neg (by omega), if_pos trivial]
          unfold pkNum
          have : ng = false := by simpa using hng
          rw [← this, hmk]
    | none =>
      rw [h1] at hw
      simp only at hw
      have h0 : xs ≠ [] := by
        rintro rfl
        obtain ⟨rfl, rfl⟩ := chkB_zero h
        have hb : bitsN 0 = 0 := bitsN_z
        unfold wholeP intAt at h1
        simp [val, hb] at h1
      have h10 := (chkB_some h0 h).2.2.2.2
      cases h2 : toF 32 ng (val xs) e with
      | some y =>
        rw [h2] at hw
        simp only [Option.some.injEq, Prod.mk.injEq] at hw
        obtain ⟨rfl, rfl⟩ := hw
        obtain ⟨k1, k2⟩ := exactN_of (e := 8) (f := 23) rfl h10 h2
        have k3 : y < 4294967296 := by have : 2 ^ (8 + 23 + 1) = 4294967296 := by decide
                                       omega
        rw [valP_put (by omega) ⟨fun h => by omega, fun h => by omega, fun h => k3, by omega⟩ more hn hf]
        unfold pkBehind pkFloat
        simp only
        rw [if_neg (by omega), if_neg (by omega), if_neg (by omega), if_neg (by omega), if_neg (by omega), if_pos trivial, k1]
      | none =>
        rw [h2] at hw
        simp only at hw
        cases h3 : toF 64 ng (val xs) e with
        | none => rw [h3] at hw; cases hw
        | some y =>
          rw [h3] at hw
          simp only [Option.some.injEq, Prod.mk.injEq] at hw
          obtain ⟨rfl, rfl⟩ := hw
          obtain ⟨k1, k2⟩ := exactN_of (e := 11) (f := 52) rfl h10 h3
          have k3 : y < 18446744073709551616 := by have : 2 ^ (11 + 52 + 1) = 18446744073709551616 := by decide
                                                   omega
          rw [valP_put (by omega) ⟨fun h => by omega, fun h => by omega, fun h => by omega, by omega⟩ more hn hf]
          unfold pkBehind pkFloat
          simp only
          rw [if_neg (by omega), if_neg (by omega), if_neg (by omega), if_neg (by omega), if_neg (by omega), if_neg (by omega), if_pos trivial, k1]
def RtP (V:List Nat→Nat→RC MT) (u:MT):Prop:=∀ n more p,encP u=some p→n+u.nodes≤2000→V (p++more) n=.inl (u.bare,more,n+u.nodes)
theorem catP_cons {o:Option (List Nat)} {r:List (Option (List Nat))} {q:List Nat} (h:catP (o::r)=some q):∃ p q2,o=some p∧catP r=some q2∧q=p++q2:=by
  cases o with
  | none=>cases h
  | some p =>
    unfold catP at h
    cases h2:catP r with
    | none=>rw [h2] at h;cases h
    | some q2 =>
      rw [h2] at h
      simp only [Option.some.injEq] at h
      exact ⟨p,q2,rfl,rfl,h.symm⟩
theorem itemsP_enc {V:List Nat→Nat→RC MT}:∀ (us acc:List MT) (n:Nat) (more q:List Nat),catP (us.map encP)=some q→(∀ u∈us,RtP V u)→n+MT.nodesL us≤2000 →
    pkItems V us.length acc (q++more) n=.inl (acc++us.map MT.bare,more,n+MT.nodesL us):=by
  intro us
  induction us with
  | nil =>
    intro acc n more q hq hV hn
    simp only [List.map_nil,catP,Option.some.injEq] at hq
    subst hq
    simp [pkItems,MT.nodesL_nil]
  | cons u us ih =>
    intro acc n more q hq hV hn
    rw [List.map_cons] at hq
    obtain ⟨p,q2,h1,h2,rfl⟩:=catP_cons hq
    rw [MT.nodesL_cons] at hn ⊢
    have hu:=hV u (by simp) n (q2++more) p h1 (by omega)
    rw [List.length_cons,pkItems,List.append_assoc,hu]
    simp only
    rw [ih _ _ more q2 h2 (fun v hv=>hV v (by simp [hv])) (by omega)]
    rw [List.map_cons,List.append_assoc,Nat.add_assoc]
    rfl
theorem membersP_enc {V:List Nat→Nat→RC MT}:∀ (us:List MT) (ks ks0:List ByteArray) (acc:List MT) (n:Nat) (more q:List Nat),ks.length=us.length→catP (List.zipWith mbrP ks (us.map encP))=some q→(∀ s∈ks,s.size≤2000∧validL s.data.toList=true)→(∀ u∈us,RtP V u)→n+MT.nodesL us≤2000 →
    pkMembers V us.length ks0 acc (q++more) n=.inl ((ks0++ks,acc++us.map MT.bare),more,n+MT.nodesL us):=by
  intro us
  induction us with
  | nil =>
    intro ks ks0 acc n more q hk hq hN hV hn
    have hk0:=List.eq_nil_of_length_eq_zero hk
    subst hk0
    simp only [List.map_nil,List.zipWith_nil_left,catP,Option.some.injEq] at hq
    subst hq
    simp [pkMembers,MT.nodesL_nil]
  | cons u us ih =>
    intro ks ks0 acc n more q hk hq hN hV hn
    cases ks with
    | nil=>simp at hk
    | cons s ks =>
      rw [List.map_cons,List.zipWith_cons_cons] at hq
      obtain ⟨p,q2,h1,h2,rfl⟩:=catP_cons hq
      unfold mbrP at h1
      split at h1
      · cases h1
      · rename_i p1 hp1
        simp only [Option.some.injEq] at h1
        subst h1
        rw [MT.nodesL_cons] at hn ⊢
        obtain ⟨hz,hv⟩:=hN s (by simp)
        have hnm:=nameP_enc s (p1++(q2++more)) hz hv
        have hu:=hV u (by simp) n (q2++more) p1 hp1 (by omega)
        rw [List.length_cons,pkMembers,List.append_assoc,List.append_assoc,hnm]
        simp only
        rw [hu]
        simp only
        rw [ih ks _ _ _ more q2 (by simpa using hk) h2 (fun t ht=>hN t (by simp [ht])) (fun v hv=>hV v (by simp [hv])) (by omega),strB_strN]
        rw [List.map_cons,List.append_assoc,List.append_assoc,Nat.add_assoc]
        rfl
theorem ris_nodupP {ks:List ByteArray} (h:Ris ks):ks.Nodup:=by
  rw [List.nodup_iff_pairwise_ne,List.pairwise_iff_getElem]
  intro i j hi hj hij e
  have:=risC_ne h hi hj (by simp [List.getD,hi,hj,e])
  omega
theorem valP_enc (t:MT):∀ (f dd:Nat),dd+f=65→SndC t dd→CohC t→RtP (pkValue (f+1)) t:=by
  refine MT.ind (P:=fun t=>∀ (f dd:Nat),dd+f=65→SndC t dd→CohC t→RtP (pkValue (f+1)) t) ?_ t
  intro t ih f dd hf hs hc n more p hp hn
  obtain ⟨hd0,hso⟩:=hs.own
  have hf0:f ≠ 0:=by omega
  obtain ⟨f,rfl⟩:∃ g,f=g+1:=⟨f - 1,by omega⟩
  have hR:∀ u∈t.v,RtP (pkValue (f+1)) u:=fun u hu=>ih u hu f (dd+1) (by omega) (hs.part hu) (hc.part hu)
  have hnp:=t.nodes_pos
  have hn2:n<2000:=by omega
  have one:∀ {x:MT},t.bare=x→x.v=[]→t.nodes=1:=fun e h=>by
    have h2:t.v.map MT.bare=[]:=by rw [← h,← e,MT.bare_eq];rfl
    rw [List.map_eq_nil_iff] at h2
    rw [MT.nodes_eq,h2,MT.nodesL_nil]
  have hcs:=hso
  rw [encP_eq] at hp
  by_cases c1:t.c.k=1
  · have hb:=bare_nullC hc c1 hso
    rw [if_pos c1] at hp
    simp only [Option.some.injEq] at hp
    subst hp
    rw [hb,one hb rfl]
    have:=valP_put (k:=1) (x:=0) (f:=f+1) (by omega) ⟨fun _=>rfl,fun h=>by omega,fun h=>by omega,by omega⟩ more hn2 hf0
    rw [show ((1:Nat):Int)=1 from rfl] at this
    rw [this]
    rfl
  by_cases c2:t.c.k=2
  · have hb:=bare_boolC hc c2 hso
    rw [if_neg c1,if_pos c2] at hp
    simp only [Option.some.injEq] at hp
    subst hp
    rw [hb,one hb rfl]
    unfold truthP
    cases t.c.b
    · have:=valP_put (k:=2) (x:=0) (f:=f+1) (by omega) ⟨fun _=>rfl,fun h=>by omega,fun h=>by omega,by omega⟩ more hn2 hf0
      rw [show ((2:Nat):Int)=2 from rfl] at this
      simp only [Bool.false_eq_true,if_false]
      rw [this]
      rfl
    · have:=valP_put (k:=3) (x:=0) (f:=f+1) (by omega) ⟨fun _=>rfl,fun h=>by omega,fun h=>by omega,by omega⟩ more hn2 hf0
      rw [show ((3:Nat):Int)=3 from rfl] at this
      simp only [if_true]
      rw [this]
      rfl
  by_cases c3:t.c.k=3
  · obtain ⟨h1,h2⟩:=bare_numC hc c3 hso
    rw [if_neg c1,if_neg c2,if_pos c3] at hp
    rw [one h2 rfl,h2,numP_back hc.own.2.1 h1 hp (f+1) n more hn2 hf0]
    unfold bnumC
    simp only
    rw [chkB_limbs hc.own.2.1 h1]
  by_cases c4:t.c.k=4
  · obtain ⟨h1,h2⟩:=bare_textC hc c4 hso
    rw [if_neg c1,if_neg c2,if_neg c3,if_pos c4] at hp
    simp only [Option.some.injEq] at hp
    subst hp
    rw [one h2 rfl,h2]
    unfold strP
    rw [List.append_assoc,valP_put (by omega) (okX_small (by omega) (by omega)) _ hn2 hf0]
    unfold pkBehind
    simp only
    rw [if_neg (by omega),if_neg (by omega),if_neg (by omega),if_neg (by omega),if_neg (by omega),if_neg (by omega),if_neg (by omega),if_pos trivial,textP_enc t.c.s more h1.2 h1.1]
    simp only
    rw [strB_strN]
  by_cases c5:t.c.k=5
  · obtain ⟨h1,h2⟩:=bare_bytesC hc c5 hso
    rw [if_neg c1,if_neg c2,if_neg c3,if_neg c4,if_pos c5] at hp
    simp only [Option.some.injEq] at hp
    subst hp
    rw [one h2 rfl,h2]
    unfold strP
    rw [List.append_assoc,valP_put (by omega) (okX_small (by omega) (by omega)) _ hn2 hf0]
    unfold pkBehind
    simp only
    rw [if_neg (by omega),if_neg (by omega),if_neg (by omega),if_neg (by omega),if_neg (by omega),if_neg (by omega),if_neg (by omega),if_neg (by omega),if_pos trivial,bytesP_enc t.c.s more h1]
    simp only
    rw [strB_strN]
  by_cases c6:t.c.k=6
  · obtain ⟨h1,h2⟩:=bare_arrC hc c6 hso
    rw [if_neg c1,if_neg c2,if_neg c3,if_neg c4,if_neg c5,if_pos c6] at hp
    rw [h2]
    rw [MT.nodes_eq] at hn ⊢
    unfold arrP at hp
    cases hq:catP (t.v.map encP) with
    | none=>rw [hq] at hp;cases hp
    | some q =>
      rw [hq] at hp
      simp only [Option.some.injEq] at hp
      subst hp
      have:=valP_put (k:=9) (x:=t.v.length) (f:=f+1) (by omega) (okX_small (by omega) (by omega)) (q++more) hn2 hf0
      rw [show ((9:Nat):Int)=9 from rfl] at this
      rw [List.append_assoc,this]
      have hl:=itemsP_enc (V:=pkValue (f+1)) t.v [] (n+1) more q hq hR (by omega)
      unfold pkBehind
      simp only
      rw [if_neg (by omega),if_neg (by omega),if_neg (by omega),if_neg (by omega),if_neg (by omega),if_neg (by omega),if_neg (by omega),if_neg (by omega),if_neg (by omega),if_pos trivial]
      unfold pkArr
      rw [if_neg (by omega),hl]
      simp only [List.nil_append]
      rw [show n+1+MT.nodesL t.v=n+(1+MT.nodesL t.v) by omega]
  by_cases c7:t.c.k=7
  · obtain ⟨h1,h3,h4,h2⟩:=bare_objC hc c7 hso
    rw [if_neg c1,if_neg c2,if_neg c3,if_neg c4,if_neg c5,if_neg c6,if_pos c7] at hp
    rw [h2]
    rw [MT.nodes_eq] at hn ⊢
    have hris:=ris_of h4
    unfold objP at hp
    cases hq:catP (List.zipWith mbrP t.k (t.v.map encP)) with
    | none=>rw [hq] at hp;cases hp
    | some q =>
      rw [hq] at hp
      simp only [Option.some.injEq] at hp
      subst hp
      have:=valP_put (k:=10) (x:=t.k.length) (f:=f+1) (by omega) (okX_small (by omega) (by omega)) (q++more) hn2 hf0
      rw [show ((10:Nat):Int)=10 from rfl] at this
      rw [List.append_assoc,this]
      have hl:=membersP_enc (V:=pkValue (f+1)) t.v t.k [] [] (n+1) more q h3 hq (fun s hs=>okN_valid (riseC_ok h4 s hs)) hR (by omega)
      unfold pkBehind
      simp only
      rw [if_neg (by omega),if_neg (by omega),if_neg (by omega),if_neg (by omega),if_neg (by omega),if_neg (by omega),if_neg (by omega),if_neg (by omega),if_neg (by omega),if_neg (by omega),if_pos trivial]
      unfold pkObj
      rw [if_neg (by omega),h3,hl]
      simp only [List.nil_append]
      rw [if_pos (ris_nodupP hris)]
      have hsr:sortC t.k=List.range' 0 t.k.length:=sort_risC hris
      have hv1:=range_getDC t.k ByteArray.empty
      have hv2:=range_getDC (t.v.map MT.bare) (leafT 0 false ⟨#[]⟩)
      rw [List.length_map,← h3] at hv2
      rw [hsr,hv1,hv2]
      rw [show n+1+MT.nodesL t.v=n+(1+MT.nodesL t.v) by omega]
  · unfold soundB at hcs
    rw [if_neg c1,if_neg c2,if_neg c3,if_neg c4,if_neg c5,if_neg c7,if_neg c6] at hcs
    cases hcs
theorem decode_encP {t:MT} {p:List Nat} (h:checkB t=true) (hc:CohC t) (hp:encP t=some p) (hl:p.length≤32768):pkDecode p=.inl t.bare:=by
  obtain ⟨hs,hn⟩:=SndC.of h
  have:=valP_enc t 64 1 rfl hs hc 0 [] p hp (by omega)
  rw [List.append_nil] at this
  unfold pkDecode
  rw [if_neg (by omega),this]
  rfl
theorem mkN_chk {neg:Bool} {N:Nat} {e:Int} {r:Bool × Nat × Int} (h:mkN neg N e=some r):chkB r.1 (limbs r.2.1) r.2.2=true:=by
  unfold mkN at h
  split at h
  · cases h;rfl
  · rename_i h0
    split at h
    · rename_i hb
      cases h
      exact chkB_mk (trim_spec h0).2 hb.1 hb.2.1 hb.2.2
    · cases h
def E3 (x:Int):Prop:=x=2∨x=3∨x=4
theorem E3.of {x:Int} (h:x=2∨x=4):E3 x:=h.elim .inl (fun h=>.inr (.inr h))

structure RdP (w0:World) (g:Nat) (l:List Nat) (d n:Nat) (w:World):Prop where
  low:w0.heap.size≤g
  env:Below w0.heap.size w0 w
  ok:Okb l
  len:l.length≤1000000
  cell:∃ ad cap,w.heap[g]? = some (.cells #[.slice ad l.length cap,.int .i64 (d:Int),.int .i64 (n:Int)] 89)∧l.length≤cap∧RdV w0 ad (bc l)∧Shp ad cap
theorem RdP.lt {w0:World} {g:Nat} {l:List Nat} {d n:Nat} {w:World} (h:RdP w0 g l d n w):g<w.heap.size:=by
  obtain ⟨ad,cap,h1,_⟩:=h.cell
  exact (Array.getElem?_eq_some_iff.1 h1).1
theorem RdP.c1 {w0:World} {g:Nat} {l:List Nat} {d n:Nat} {w:World} (h:RdP w0 g l d n w):w.cell? ⟨g,1,none⟩=some (.int .i64 (d:Int)):=by
  obtain ⟨ad,cap,h1,_⟩:=h.cell
  simp [World.cell?,h1]
theorem RdP.c2 {w0:World} {g:Nat} {l:List Nat} {d n:Nat} {w:World} (h:RdP w0 g l d n w):w.cell? ⟨g,2,none⟩=some (.int .i64 (n:Int)):=by
  obtain ⟨ad,cap,h1,_⟩:=h.cell
  simp [World.cell?,h1]
theorem RdP.fz {w0:World} {g:Nat} {l:List Nat} {d n:Nat} {w:World} (h:RdP w0 g l d n w) (i:Nat):w.frozen? ⟨g,i,none⟩=false:=by
  obtain ⟨ad,cap,h1,_⟩:=h.cell
  simp [World.frozen?,h1]
theorem RdP.on {w0:World} {g:Nat} {l:List Nat} {d n:Nat} {w w':World} (h:RdP w0 g l d n w) (hb:Below w.heap.size w w'):RdP w0 g l d n w':=by
  obtain ⟨ad,cap,h1,h2,h3⟩:=h.cell
  exact ⟨h.low,h.env.trans (hb.mono h.env.size),h.ok,h.len,ad,cap,(hb.block g h.lt).trans h1,h2,h3⟩
structure StP (w0:World) (g:Nat) (l:List Nat) (d n:Nat) (w w':World):Prop where
  oth:But g w w'
  rd:RdP w0 g l d n w'
theorem StP.trans {w0:World} {g:Nat} {l l':List Nat} {d n d' n':Nat} {w w1 w2:World} (h:StP w0 g l d n w w1) (k:StP w0 g l' d' n' w1 w2):StP w0 g l' d' n' w w2:=⟨h.oth.trans k.oth,k.rd⟩
theorem StP.of_below {w0:World} {g:Nat} {l:List Nat} {d n:Nat} {w w':World} (h:RdP w0 g l d n w) (hb:Below w.heap.size w w'):StP w0 g l d n w w':=⟨.of_below hb,h.on hb⟩
theorem StP.refl {w0:World} {g:Nat} {l:List Nat} {d n:Nat} {w:World} (h:RdP w0 g l d n w):StP w0 g l d n w w:=.of_below h (Below.refl _ _)
theorem StP.more {w0:World} {g:Nat} {l:List Nat} {d n:Nat} {w w1 w2:World} (h:StP w0 g l d n w w1) (hb:Below w1.heap.size w1 w2):StP w0 g l d n w w2:=h.trans (.of_below h.rd hb)
theorem StP.drew {w0:World} {g:Nat} {l:List Nat} {d n:Nat} {a w:World} (h:StP w0 g l d n a w):StP w0 g l d n a w.drew:=h.more (below_drew (Below.refl _ _))
theorem StP.drewN {w0:World} {g:Nat} {l:List Nat} {d n:Nat} {a w:World} (h:StP w0 g l d n a w) (k:Nat):StP w0 g l d n a (w.drewN k):=h.more (below_drewN (Below.refl _ _) k)
theorem StP.alloc {w0:World} {g:Nat} {l:List Nat} {d n:Nat} {a w:World} (h:StP w0 g l d n a w) (o:Obj):StP w0 g l d n a (w.alloc o):=h.more ((Below.refl _ _).alloc (Nat.le_refl _) _)
theorem StP.zero {w0:World} {g:Nat} {l:List Nat} {d n:Nat} {a w:World} (h:StP w0 g l d n a w) {l':List Nat} {ad:Option Addr} {k cap:Nat} (hok:Okb l') (hlen:l'.length≤1000000) (hk:l'.length=k) (hc:k≤cap) (hr:RdV w0 ad (bc l')) (hsh:Shp ad cap) :
    StP w0 g l' d n a (w.setCell ⟨g,0,none⟩ (.slice ad k cap)):=by
  subst hk
  refine ⟨h.oth.setCell _ _,⟨h.rd.low,h.rd.env.setCell h.rd.low _,hok,hlen,ad,cap,?_,hc,hr,hsh⟩⟩
  obtain ⟨ad',cap',h1,_⟩:=h.rd.cell
  simp [World.setCell,Array.getElem?_modify,h1]
theorem StP.depth {w0:World} {g:Nat} {l:List Nat} {d n:Nat} {a w:World} (h:StP w0 g l d n a w) (d':Nat) {v:Value} (hv:v=.int .i64 (d':Int)):StP w0 g l d' n a (w.setCell ⟨g,1,none⟩ v):=by
  subst hv
  obtain ⟨ad,cap,h1,h2,h3⟩:=h.rd.cell
  refine ⟨h.oth.setCell _ _,⟨h.rd.low,h.rd.env.setCell h.rd.low _,h.rd.ok,h.rd.len,ad,cap,?_,h2,h3⟩⟩
  simp [World.setCell,Array.getElem?_modify,h1]
theorem StP.nodes {w0:World} {g:Nat} {l:List Nat} {d n:Nat} {a w:World} (h:StP w0 g l d n a w) (n':Nat) {v:Value} (hv:v=.int .i64 (n':Int)):StP w0 g l d n' a (w.setCell ⟨g,2,none⟩ v):=by
  subst hv
  obtain ⟨ad,cap,h1,h2,h3⟩:=h.rd.cell
  refine ⟨h.oth.setCell _ _,⟨h.rd.low,h.rd.env.setCell h.rd.low _,h.rd.ok,h.rd.len,ad,cap,?_,h2,h3⟩⟩
  simp [World.setCell,Array.getElem?_modify,h1]
theorem StP.fresh {w0:World} {g:Nat} {l:List Nat} {d n:Nat} {w W:World} (h:StP w0 g l d n w W) {b:Nat} (hb:w.heap.size≤b) (hg:b ≠ g) (h0:w0.heap.size≤b) (i:Nat) (v:Value):StP w0 g l d n w (W.setCell ⟨b,i,none⟩ v):=by
  obtain ⟨ad,cap,h1,h2,h3⟩:=h.rd.cell
  refine ⟨⟨h.oth.os,h.oth.tape,h.oth.output,by simpa [World.setCell] using h.oth.size,fun k hk hk2=>(Below.heap_setCell _ _ _ _ (by simp;omega)).trans (h.oth.block k hk hk2)⟩,⟨h.rd.low,h.rd.env.setCell h0 _,h.rd.ok,h.rd.len,ad,cap,?_,h2,h3⟩⟩
  rw [Below.heap_setCell _ _ _ _ (by simpa using fun e=>hg e.symm)]
  exact h1
def ThrowP (w0:World) (x:Int) (g:Nat) (w:World) (e:Ending) (w':World):Prop:=e=.panicked [{ v:=.iface 32 (.int .i64 x),recovered:=false }]∧∃ l d n,StP w0 g l d n w w'
theorem ThrowP.on {w0:World} {x:Int} {g:Nat} {l:List Nat} {d n:Nat} {w w1 w':World} {e:Ending} (h:StP w0 g l d n w w1) (h2:ThrowP w0 x g w1 e w'):ThrowP w0 x g w e w':=by
  obtain ⟨he,l,d,n,hj⟩:=h2
  exact ⟨he,l,d,n,h.trans hj⟩
theorem ThrowP.mk {w0:World} {x:Int} {g:Nat} {l:List Nat} {d n:Nat} {w w':World} (h:StP w0 g l d n w w'):ThrowP w0 x g w (.panicked [{ v:=.iface 32 (.int .i64 x),recovered:=false }]) w':=⟨rfl,_,_,_,h⟩
def TakP {α:Type} (w0:World) (g d n:Nat) (val:α→Value) (r:(α × List Nat) ⊕ Int) (w:World) (e:Ending) (w':World):Prop:=match r with
  | .inl (x,l)=>e=.returned (val x)∧StP w0 g l d n w w'
  | .inr x=>ThrowP w0 x g w e w'
theorem TakP.yes {α:Type} {w0:World} {g d n:Nat} {val:α→Value} {r:(α × List Nat) ⊕ Int} {w:World} {e:Ending} {w':World} {x:α} {l:List Nat} (h:r=.inl (x,l)) (he:e=.returned (val x)) (hs:StP w0 g l d n w w'):TakP w0 g d n val r w e w':=by
  subst h;exact ⟨he,hs⟩
theorem TakP.no {α:Type} {w0:World} {g d n:Nat} {val:α→Value} {r:(α × List Nat) ⊕ Int} {w:World} {e:Ending} {w':World} {x:Int} (h:r=.inr x) (hs:ThrowP w0 x g w e w'):TakP w0 g d n val r w e w':=by
  subst h;exact hs
theorem TakP.on {α:Type} {w0:World} {g d n d0 n0:Nat} {l:List Nat} {val:α→Value} {r:(α × List Nat) ⊕ Int} {w w1:World} {e:Ending} {w':World} (h:StP w0 g l d0 n0 w w1) (h2:TakP w0 g d n val r w1 e w'):TakP w0 g d n val r w e w':=by
  unfold TakP at *
  cases r with
  | inr x=>exact ThrowP.on h h2
  | inl p=>exact ⟨h2.1,h.trans h2.2⟩
end Go.Proofs.YtnacbakcalcgaaaGreatDoor
