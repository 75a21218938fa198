/- Texts of the claim. -/
import Derived.Test.YtnacbakcalcgaaaGreatDoorTu
set_option linter.unusedVariables false
set_option linter.unusedSimpArgs false
set_option maxHeartbeats 4000000
set_option maxRecDepth 100000
namespace Go.Proofs.YtnacbakcalcgaaaGreatDoor
open Go.RowKit Go.Lib Go.Sort
theorem head_hd (m n:Nat) (r:List Nat) (hm:m<8) (hn:n<18446744073709551616):cbHead (hd m n++r)=.inl ((m,infoN n,n),r):=by
  by_cases h0:n<24
  · rw [hd_0 m n h0]
    have e:infoN n=n:=by unfold infoN;rw [if_pos h0]
    show cbHead ((m*32+n)::r)=_
    rw [head_plain _ _ (by omega),e,show (m*32+n) / 32=m by omega,show (m*32+n) % 32=n by omega]
  · by_cases h1:n<256
    · rw [hd_1 m n (by omega) h1]
      have e:infoN n=24:=by unfold infoN;rw [if_neg h0,if_pos h1]
      show cbHead ((m*32+24)::n::r)=_
      rw [head_of _ 1 _ (by rw [show (m*32+24) % 32=24 by omega];rfl) (by simp),e,show (m*32+24) / 32=m by omega,show (m*32+24) % 32=24 by omega,if_neg (by omega)]
      have:natB ((n::r).take 1)=n:=by simp [natB]
      rw [this];rfl
    · by_cases h2:n<65536
      · rw [hd_2 m n (by omega) h2]
        have e:infoN n=25:=by unfold infoN;rw [if_neg h0,if_neg h1,if_pos h2]
        show cbHead ((m*32+25)::n / 256::n % 256::r)=_
        rw [head_of _ 2 _ (by rw [show (m*32+25) % 32=25 by omega];rfl) (by simp),e,show (m*32+25) / 32=m by omega,show (m*32+25) % 32=25 by omega,if_neg (by omega)]
        have:natB ((n / 256::n % 256::r).take 2)=n:=by simp [natB];omega
        rw [this];rfl
      · by_cases h3:n<4294967296
        · rw [hd_4 m n (by omega) h3]
          have e:infoN n=26:=by unfold infoN;rw [if_neg h0,if_neg h1,if_neg h2,if_pos h3]
          show cbHead ((m*32+26)::n / 16777216::n / 65536 % 256::n / 256 % 256::n % 256::r)=_
          rw [head_of _ 4 _ (by rw [show (m*32+26) % 32=26 by omega];rfl) (by simp),e,show (m*32+26) / 32=m by omega,show (m*32+26) % 32=26 by omega,if_neg (by omega)]
          have:natB ((n / 16777216::n / 65536 % 256::n / 256 % 256::n % 256::r).take 4)=n:=by simp [natB];omega
          rw [this];rfl
        · rw [hd_8 m n (by omega)]
          have e:infoN n=27:=by unfold infoN;rw [if_neg h0,if_neg h1,if_neg h2,if_neg h3]
          show cbHead ((m*32+27)::n / 72057594037927936::n / 281474976710656 % 256::n / 1099511627776 % 256::n / 4294967296 % 256::n / 16777216 % 256::n / 65536 % 256::n / 256 % 256::n % 256::r)=_
          rw [head_of _ 8 _ (by rw [show (m*32+27) % 32=27 by omega];rfl) (by simp),e,show (m*32+27) / 32=m by omega,show (m*32+27) % 32=27 by omega,if_neg (by omega)]
          have:natB ((n / 72057594037927936::n / 281474976710656 % 256::n / 1099511627776 % 256::n / 4294967296 % 256::n / 16777216 % 256::n / 65536 % 256::n / 256 % 256::n % 256::r).take 8)=n:=by simp [natB];omega
          rw [this];rfl
theorem hd_first (m n:Nat) (hm:m<8):∃ c r,hd m n=c::r∧c=m*32+infoN n∧c<252:=by
  have:=infoN_le n
  exact ⟨m*32+infoN n,tailN n,rfl,rfl,by omega⟩
theorem val_hd (f n m k:Nat) (r:List Nat) (hm:m<8) (hk:k<18446744073709551616) (hn:n<2000) (hf:f ≠ 0):cbValue (f+1) (hd m k++r) n=cbBehind (cbValue f) (m,infoN k,k) r (n+1):=by
  have h:=head_hd m k r hm hk
  obtain ⟨c,q,h1,_,h3⟩:=hd_first m k hm
  rw [h1,List.cons_append] at h ⊢
  exact cbV_on (by omega) (by omega) h
theorem infoN_31 (n:Nat):infoN n ≠ 31:=by have:=infoN_le n;omega
theorem strN_okb (s:ByteArray):Okb (strN s):=by
  intro x hx
  unfold strN at hx
  obtain ⟨b,_,rfl⟩:=List.mem_map.1 hx
  exact b.toNat_lt
theorem strB_strN (s:ByteArray):strB (strN s)=s:=by
  unfold strB strN
  rw [List.map_map]
  apply ByteArray.ext
  simp only [Function.comp_def]
  simp
theorem piece_enc (m:Nat) (s:ByteArray) (more:List Nat) (hv:m=3→validL s.data.toList=true):cbPiece m s.size (strN s++more)=.inl (strN s,more):=by
  have hl:=strN_len s
  unfold cbPiece
  rw [if_neg (by rw [List.length_append];omega),List.take_append_of_le_length (by omega),List.take_of_length_le (by omega),List.drop_append_of_le_length (by omega),List.drop_of_length_le (by omega),List.nil_append]
  rw [if_neg]
  rintro ⟨h3,h4⟩
  have h5:=hv h3
  have e:(strN s).map (fun x=>UInt8.ofNat x)=s.data.toList:=by
    unfold strN;rw [List.map_map];simp [Function.comp_def]
  unfold validB at h4
  rw [e,h5] at h4
  cases h4
theorem text_enc (m:Nat) (s:ByteArray) (more:List Nat) (hz:s.size≤2000) (hv:m=3→validL s.data.toList=true):cbText (m,infoN s.size,s.size) (strN s++more)=.inl (strN s,more):=by
  unfold cbText
  rw [if_neg (infoN_31 _),if_neg (by simp only;omega)]
  exact piece_enc m s more hv
theorem val_str (f n m:Nat) (s:ByteArray) (more:List Nat) (hm:m=2∨m=3) (hn:n<2000) (hf:f ≠ 0) (hz:s.size≤2000) (hv:m=3→validL s.data.toList=true) :
    cbValue (f+1) (strC m s++more) n=.inl (leafT (if m=2 then 5 else 4) false s,more,n+1):=by
  unfold strC
  rw [List.append_assoc,val_hd f n m s.size _ (by omega) (by omega) hn hf]
  unfold cbBehind
  rcases hm with rfl | rfl
  · rw [if_pos rfl,text_enc 2 s more hz (by omega)]
    simp only
    rw [strB_strN]
    rfl
  · rw [if_neg (by simp),if_pos rfl,text_enc 3 s more hz hv]
    simp only
    rw [strB_strN]
    rfl
theorem mkN_canon {ng:Bool} {xs:List Nat} {E:Int} (ho:Okl xs) (h:chkB ng xs E=true) (k:Nat):mkN ng (val xs*tenN k) (E - (k:Int))=some (ng,val xs,E):=by
  have hx:=chkB_limbs ho h
  by_cases h0:xs=[]
  · subst h0
    obtain ⟨rfl,rfl⟩:=chkB_zero h
    unfold mkN
    rw [if_pos (by simp [val])]
    rfl
  · obtain ⟨h1,_,h2,h3,h4⟩:=chkB_some h0 h
    have hne:val xs ≠ 0:=by intro e;rw [e] at h4;exact h4 rfl
    have hn0:val xs*tenN k ≠ 0:=Nat.mul_ne_zero hne (tenN_ne _)
    obtain ⟨e1,e2⟩:=trim_unique (N:=val xs*tenN k) rfl h4
    unfold mkN
    rw [if_neg hn0,e1,e2,hx,if_pos ⟨h1,by omega,by omega⟩]
    congr 3
    omega
theorem size_told {b:Bool} {M:Nat} (h:b=true→M ≠ 0):cbSize (b,toldN b M)=M:=by
  unfold cbSize toldN
  cases b with
  | false=>rfl
  | true=>have:=h rfl;simp only [if_true];omega
theorem neg_ne {ng:Bool} {xs:List Nat} {E:Int} (ho:Okl xs) (h:chkB ng xs E=true) (hn:ng=true):val xs ≠ 0:=by
  intro h0
  have hx:=chkB_limbs ho h
  rw [h0,limbs_zero] at hx
  rw [← hx] at h
  have:=(chkB_zero h).1
  rw [hn] at this
  cases this
theorem part_hd (a b m k:Nat) (r:List Nat) (hm:m=a∨m=b) (hm8:m<8) (hk:k<18446744073709551616):cbPart a b (hd m k++r)=.inl ((m,infoN k,k),r):=by
  have h:=head_hd m k r hm8 hk
  obtain ⟨c,q,h1,h2,h3⟩:=hd_first m k hm8
  have hi:=infoN_le k
  rw [h1,List.cons_append] at h ⊢
  unfold cbPart
  simp only
  rw [if_neg (by omega),h]
theorem long_enc (tag T:Nat) (more:List Nat) (hl:(bytesN T).length≤2000):cbLong tag (hd 2 (bytesN T).length++(bytesN T++more))=.inl ((decide (tag=3),T),more):=by
  unfold cbLong
  rw [part_hd 2 2 2 _ _ (.inl rfl) (by decide) (by omega)]
  simp only
  unfold cbText
  rw [if_neg (infoN_31 _),if_neg (by simp only;omega)]
  simp only
  unfold cbPiece
  rw [if_neg (by rw [List.length_append];omega),if_neg (fun h=>absurd h.1 (by decide)),List.take_append_of_le_length (Nat.le_refl _),List.take_of_length_le (Nat.le_refl _),List.drop_append_of_le_length (Nat.le_refl _),List.drop_of_length_le (Nat.le_refl _),List.nil_append]
  simp only
  rw [natB_bytesN]
theorem short_lt {T:Nat} (h:shortN T=true):T<18446744073709551616:=bits_le_of (of_decide_eq_true h)
theorem digits_enc (b:Bool) (T:Nat) (more:List Nat) (hl:(bytesN T).length≤2000):cbDigits (intB b T++more)=.inl ((b,T),more):=by
  unfold intB
  split
  next hs =>
    have hT:=short_lt hs
    obtain ⟨c,q,h1,h2,h3⟩:=hd_first (if b then 1 else 0) T (by split <;> decide)
    have hi:=infoN_le T
    have hp:=part_hd 0 1 (if b then 1 else 0) T more (by split <;> simp) (by split <;> decide) hT
    rw [h1,List.cons_append] at hp ⊢
    unfold cbDigits
    simp only
    have hc:¬ (c=194∨c=195):=by split at h2 <;> omega
    rw [if_neg hc,hp]
    simp only
    unfold cbWhole
    cases b <;> rfl
  next hs =>
    rw [List.append_assoc,List.append_assoc]
    cases b with
    | false =>
      show cbDigits (194::(hd 2 (bytesN T).length++(bytesN T++more)))=_
      unfold cbDigits
      simp only
      rw [if_pos (by decide),head_plain 194 _ (by decide)]
      simp only
      rw [show (194 % 32:Nat)=2 from rfl,long_enc 2 T more hl]
      rfl
    | true =>
      show cbDigits (195::(hd 2 (bytesN T).length++(bytesN T++more)))=_
      unfold cbDigits
      simp only
      rw [if_pos (by decide),head_plain 195 _ (by decide)]
      simp only
      rw [show (195 % 32:Nat)=3 from rfl,long_enc 3 T more hl]
      rfl
theorem val_int {ng:Bool} {xs:List Nat} {e:Int} (ho:Okl xs) (h:chkB ng xs e=true) (he:0≤e) (f n:Nat) (more:List Nat) (hn:n<2000) (hf:f ≠ 0) (hs:shortN (toldN ng (val xs*tenN e.toNat))=true) :
    cbValue (f+1) (intB ng (toldN ng (val xs*tenN e.toNat))++more) n=.inl (bnumC (ng,val xs,e),more,n+1):=by
  have hT:=short_lt hs
  have hsz:cbSize (ng,toldN ng (val xs*tenN e.toNat))=val xs*tenN e.toNat:=size_told (fun hb=>Nat.mul_ne_zero (neg_ne ho h hb) (tenN_ne _))
  have hmk:=mkN_canon ho h e.toNat
  rw [show e - (e.toNat:Int)=0 by omega] at hmk
  unfold intB
  rw [if_pos hs]
  generalize toldN ng (val xs*tenN e.toNat)=T at *
  rw [val_hd f n _ T more (by split <;> decide) hT hn hf]
  unfold cbBehind
  have hi:=infoN_31 T
  cases ng with
  | false =>
    rw [if_neg (by simp),if_neg (by simp),if_neg (by simp),if_neg (by simp),if_neg (by simp),if_neg (by simpa using hi),if_neg (by simp)]
    unfold cbWhole cbNum
    simp only [Bool.false_eq_true,if_false]
    rw [show decide ((0:Nat)=1)=false from rfl,hsz,hmk]
  | true =>
    rw [if_neg (by simp),if_neg (by simp),if_neg (by simp),if_neg (by simp),if_neg (by simp),if_neg (by simpa using hi),if_neg (by simp)]
    unfold cbWhole cbNum
    simp only [if_true]
    rw [show decide True=true from by simp,hsz,hmk]
theorem val_dec {ng:Bool} {xs:List Nat} {e:Int} (ho:Okl xs) (h:chkB ng xs e=true) (f n:Nat) (more:List Nat) (hn:n<2000) (hf:f ≠ 0) :
    cbValue (f+1) (decB ng (val xs) e++more) n=.inl (bnumC (ng,val xs,e),more,n+1):=by
  have hb:=chkB_bounds h
  have hsz:cbSize (ng,toldN ng (val xs))=val xs:=size_told (fun hb=>neg_ne ho h hb)
  have hmk:=mkN_canon ho h 0
  rw [show tenN 0=1 from rfl,Nat.mul_one,show e - ((0:Nat):Int)=e by omega] at hmk
  have hlen:(bytesN (toldN ng (val xs))).length≤2000:=by
    rw [bytesN_len]
    have h1:=bits_mono (told_le ng (val xs))
    have h2:=bits_words ho
    omega
  obtain ⟨q,hq⟩:∃ q,toldN (decide (e<0)) e.natAbs=q:=⟨_,rfl⟩
  have hqb:q≤1200:=by rw [← hq];have:=told_le (decide (e<0)) e.natAbs;omega
  have hqs:shortN q=true:=by
    unfold shortN
    have:=bits_small (q:=q) (by omega)
    exact decide_eq_true (by omega)
  have hd1:decB ng (val xs) e++more=hd 6 4++(hd 4 2++(hd (if decide (e<0) then 1 else 0) q++(intB ng (toldN ng (val xs))++more))):=by
    unfold decB
    rw [hq]
    have:intB (decide (e<0)) q=hd (if decide (e<0) then 1 else 0) q:=by unfold intB;rw [if_pos hqs]
    rw [this]
    simp only [List.append_assoc]
  rw [hd1,val_hd f n 6 4 _ (by decide) (by decide) hn hf]
  unfold cbBehind
  rw [if_neg (by decide),if_neg (by decide),if_neg (by decide),if_neg (by decide),if_neg (by decide),if_neg (by decide),if_pos rfl]
  unfold cbTag
  rw [if_neg (by decide),if_pos rfl]
  unfold cbDec
  rw [part_hd 4 4 4 2 _ (.inl rfl) (by decide) (by decide)]
  simp only
  rw [if_neg (by decide),part_hd 0 1 _ q _ (by split <;> simp) (by split <;> decide) (by omega)]
  simp only
  rw [digits_enc ng _ more hlen]
  simp only
  have ht:cbTens (if decide (e<0) then 1 else 0,infoN q,q)=e:=by
    by_cases he:e<0
    · rw [decide_eq_true he]
      rw [decide_eq_true he] at hq
      unfold toldN at hq
      rw [if_pos rfl] at hq
      rw [if_pos rfl,tens_one _ _ _ rfl]
      omega
    · rw [decide_eq_false he]
      rw [decide_eq_false he] at hq
      unfold toldN at hq
      rw [if_neg (by decide)] at hq
      rw [if_neg (by decide),tens_not _ _ _ (by decide)]
      omega
  rw [ht]
  unfold cbNum
  rw [hsz,hmk]
  rfl
theorem parts_modC (e f x:Nat):fEx e f x=x % 2 ^ (e+f) / 2 ^ f∧fFr f x=x % 2 ^ (e+f) % 2 ^ f:=by
  unfold fEx fFr
  rw [Nat.add_comm e f,Nat.pow_add]
  exact ⟨(Nat.mod_mul_right_div_self ..).symm,(Nat.mod_mul_right_mod ..).symm⟩
theorem likeC {e f x y:Nat} (h:x % 2 ^ (e+f)=y % 2 ^ (e+f)):fEx e f x=fEx e f y∧fFr f x=fFr f y :=
  ⟨by rw [(parts_modC e f x).1,(parts_modC e f y).1,h],by rw [(parts_modC e f x).2,(parts_modC e f y).2,h]⟩
theorem to_backC {width:Int} {e f M d:Nat} {E:Int} {ng:Bool} (hl:layOf width=some (e,f)) (hM:M % 10 ≠ 0) (h:toF width ng M E=some d):d<2 ^ (e+f+1)∧kindF e f d=1∧fNeg e f d=ng∧exM e f d=M∧exE e f d=E:=by
  have hL:=layOf_lay hl
  unfold toF at h
  rw [hl] at h
  simp only at h
  rw [if_neg (by omega)] at h
  cases ht:toN e f M E with
  | none=>rw [ht] at h;cases h
  | some y =>
    rw [ht] at h
    simp only [Option.some.injEq] at h
    obtain ⟨h1,h2,h3,h4⟩:=ex_to hL hM ht
    have hp:0<2 ^ (e+f):=Nat.pow_pos (by decide)
    obtain ⟨a1,a2⟩:=likeC (e:=e) (f:=f) (x:=d) (y:=y) (by
      rw [← h]
      cases ng
      · simp
      · simp)
    have k1:kindF e f d=kindF e f y:=by unfold kindF;rw [a1,a2]
    have k2:sizeF e f d=sizeF e f y:=by unfold sizeF;rw [a1,a2]
    have k3:twosF e f d=twosF e f y:=by unfold twosF;rw [a1]
    have k4:exM e f d=exM e f y:=by unfold exM exN;rw [k2,k3]
    have k5:exE e f d=exE e f y:=by unfold exE exN;rw [k2,k3]
    refine ⟨?_,by rw [k1];exact h2,?_,by rw [k4];exact h3,by rw [k5];exact h4⟩
    · rw [← h,Nat.pow_succ];cases ng <;> simp <;> omega
    · unfold fNeg
      rw [← h]
      cases ng
      · simp [Nat.div_eq_of_lt h1]
      · simp [Nat.add_div_right _ hp,Nat.div_eq_of_lt h1]
theorem exactN_of {width:Int} {e f M d:Nat} {E:Int} {ng:Bool} (hl:layOf width=some (e,f)) (hM:M % 10 ≠ 0) (h:toF width ng M E=some d):exactN width d=some (ng,M,E)∧d<2 ^ (e+f+1):=by
  obtain ⟨h1,h2,h3,h4,h5⟩:=to_backC hl hM h
  have k:kindW width d=1:=by unfold kindW;rw [hl];simp only;rw [h2];rfl
  have a:exNegW width d=ng:=by unfold exNegW;rw [hl];simp only;rw [h2,h3];simp
  have b:exMW width d=M:=by unfold exMW;rw [hl];simp only;rw [h2,if_pos rfl,h4]
  have c:exEW width d=E:=by unfold exEW;rw [hl];simp only;rw [h2,if_pos rfl,h5]
  unfold exactN
  rw [if_pos (.inl k),a,b,c]
  exact ⟨rfl,h1⟩
theorem flt_exact {ng : Bool} {M : Nat} {E : Int} {d y : Nat} (hM : M % 10 ≠ 0) (h : fltOf ng M E = some (d, y)) : d ≤ 2 ∧ exactN ((16 * 2 ^ d : Nat) : Int) y = some (ng, M, E) ∧ y < 256 ^ (2 ^ (d + 1)) := by
  unfold fltOf at h
  cases h1 : toF 16 ng M E with
  | some a =>
    rw [h1] at h; simp only [Option.some.injEq, Prod.mk.injEq] at h; obtain ⟨rfl, rfl⟩ := h
    obtain ⟨k1, k2⟩ := exactN_of (e := 5) (f := 10) rfl hM h1
    exact ⟨by decide, k1, by have : (256 : Nat) ^ (2 ^ (0 + 1)) = 2 ^ (5 + 10 + 1) := by decide
                             omega⟩
  | none =>
    rw [h1] at h
    simp only at h
    cases h2 : toF 32 ng M E with
    | some a =>
      rw [h2] at h; simp only [Option.some.injEq, Prod.mk.injEq] at h; obtain ⟨rfl, rfl⟩ := h
      obtain ⟨k1, k2⟩ := exactN_of (e := 8) (f := 23) rfl hM h2
      exact ⟨by decide, k1, by have : (256 : Nat) ^ (2 ^ (1 + 1)) = 2 ^ (8 + 23 + 1) := by decide
                               omega⟩
    | none =>
      rw [h2] at h
      simp only at h
      cases h3 : toF 64 ng M E with
      | some a =>
        rw [h3] at h; simp only [Option.some.injEq, Prod.mk.injEq] at h; obtain ⟨rfl, rfl⟩ := h
        obtain ⟨k1, k2⟩ := exactN_of (e := 11) (f := 52) rfl hM h3
        exact ⟨by decide, k1, by have : (256 : Nat) ^ (2 ^ (2 + 1)) = 2 ^ (11 + 52 + 1) := by decide
                                 omega⟩
      | none => rw [h3] at h; cases h
theorem val_flt {d y:Nat} {r:Bool × Nat × Int} (hd:d≤2) (he:exactN ((16*2 ^ d:Nat):Int) y=some r) (hy:y<256 ^ (2 ^ (d+1))) (f n:Nat) (more:List Nat) (hn:n<2000) (hf:f ≠ 0) :
    cbValue (f+1) (fltB d y++more) n=.inl (bnumC r,more,n+1):=by
  have hs:sizeH ((249+d) % 32)=some (2 ^ (d+1)):=by
    have:d=0∨d=1∨d=2:=by omega
    rcases this with rfl | rfl | rfl <;> rfl
  have hl:(bytesL y (2 ^ (d+1))).length=2 ^ (d+1):=bytesL_len _ _
  have hh:cbHead ((249+d)::(bytesL y (2 ^ (d+1))++more))=.inl ((7,25+d,y),more):=by
    rw [head_of (249+d) _ _ hs (by rw [List.length_append,hl];omega),if_neg (by omega),show (249+d) / 32=7 by omega,show (249+d) % 32=25+d by omega,List.take_append_of_le_length (by rw [hl];exact Nat.le_refl _),List.take_of_length_le (by rw [hl];exact Nat.le_refl _),List.drop_append_of_le_length (by rw [hl];exact Nat.le_refl _),List.drop_of_length_le (by rw [hl];exact Nat.le_refl _),List.nil_append,natB_bytesL,Nat.mod_eq_of_lt hy]
  unfold fltB
  rw [List.cons_append,cbV_on (by omega) (by omega) hh]
  unfold cbBehind
  rw [if_neg (by simp),if_neg (by simp),if_neg (by simp),if_neg (by simp),if_pos rfl]
  unfold cbSimple
  rw [if_neg (by simp only;omega),if_neg (by simp only;omega),if_neg (by simp only;omega),if_neg (by simp only;omega),if_neg (by simp only;omega)]
  simp only
  rw [show 25+d - 25=d by omega,he]
theorem val_num {ng:Bool} {xs:List Nat} {e:Int} (ho:Okl xs) (h:chkB ng xs e=true) (f n:Nat) (more:List Nat) (hn:n<2000) (hf:f ≠ 0) :
    cbValue (f+1) (numB ng (val xs) e++more) n=.inl (bnumC (ng,val xs,e),more,n+1):=by
  have hrest:xs ≠ []→cbValue (f+1) (restB ng (val xs) e++more) n=.inl (bnumC (ng,val xs,e),more,n+1):=by
    intro h0
    have h10:=(chkB_some h0 h).2.2.2.2
    unfold restB
    cases hfl:fltOf ng (val xs) e with
    | some p =>
      obtain ⟨d,y⟩:=p
      obtain ⟨h1,h2,h3⟩:=flt_exact h10 hfl
      exact val_flt h1 h2 h3 f n more hn hf
    | none=>exact val_dec ho h f n more hn hf
  have hz:xs=[]→intAt (val xs) e=some 0∧shortN (toldN ng 0)=true∧0≤e:=by
    rintro rfl
    obtain ⟨rfl,rfl⟩:=chkB_zero h
    have hb:bitsN 0=0:=bitsN_z
    refine ⟨?_,?_,Int.le_refl _⟩
    · unfold intAt
      simp [val,hb]
    · unfold shortN toldN
      simp [hb]
  unfold numB
  by_cases h0:xs=[]
  · obtain ⟨h1,h2,h3⟩:=hz h0
    rw [h1]
    simp only
    rw [if_pos h2]
    have hv:=val_int ho h h3 f n more hn hf (by rw [h0];simpa [val] using h2)
    rw [show val xs*tenN e.toNat=0 by rw [h0];simp [val]] at hv
    exact hv
  · unfold intAt
    split
    next M hM =>
      split at hM
      next hc =>
        cases hM
        split
        next hs=>exact val_int ho h hc.1 f n more hn hf hs
        next=>exact hrest h0
      next=>cases hM
    next=>exact hrest h0
theorem risC_ne {l:List ByteArray} (h:Ris l) {i j:Nat} (hi:i<l.length) (hj:j<l.length) (e:(l.getD i ByteArray.empty).toList=(l.getD j ByteArray.empty).toList):i=j:=by
  have key:∀ a b,a<b→b<l.length→(l.getD a ByteArray.empty).toList ≠ (l.getD b ByteArray.empty).toList:=by
    intro a b hab hb e
    have h1:=h a b hab hb
    unfold ltS at h1
    rw [e,bytesLess_irr] at h1
    cases h1
  rcases Nat.lt_trichotomy i j with h1 | h1 | h1
  · exact absurd e (key i j h1 hj)
  · exact h1
  · exact absurd e.symm (key j i h1 hi)
theorem sort_risC {ks:List ByteArray} (h:Ris ks):srt Op.bytesLess (fun i=>(ks.getD i ByteArray.empty).toList) 0 ks.length=List.range' 0 ks.length:=by
  refine (srt_unique sto_bytes _ _ _ _ (List.Perm.refl _) ?_).symm
  rw [List.pairwise_iff_getElem]
  intro i j hi hj hij
  rw [List.length_range'] at hi hj
  rw [List.getElem_range',List.getElem_range',leI_iff]
  left
  have:=h i j hij hj
  unfold ltS at this
  simpa using this
theorem range_getDC {α:Type} (l:List α) (d:α):(List.range' 0 l.length).map (fun i=>l.getD i d)=l:=by
  apply List.ext_getElem
  · simp
  · intro i h1 h2
    simp [List.getD,h2]
def namesO (ks:List ByteArray):List ByteArray:=(ordC ks).map fun i=>ks.getD i ByteArray.empty
theorem namesO_len (ks:List ByteArray):(namesO ks).length=ks.length:=by unfold namesO;rw [List.length_map,ordC_len]
theorem ordC_perm (ks:List ByteArray):(ordC ks).Perm (List.range' 0 ks.length):=srt_perm _ _ _ _
theorem namesO_get (ks:List ByteArray) (i:Nat) (hi:i<ks.length):(namesO ks).getD i ByteArray.empty=ks.getD ((ordC ks).getD i 0) ByteArray.empty:=by
  have:i<(ordC ks).length:=by rw [ordC_len];exact hi
  unfold namesO
  simp [List.getD,this]
theorem sort_back {ks:List ByteArray} (h:Ris ks):(sortC (namesO ks)).map (fun i=>(ordC ks).getD i 0)=List.range' 0 ks.length:=by
  rw [← sort_risC h]
  have hq:(sortC (namesO ks)).Perm (List.range' 0 ks.length):=by
    have:=srt_perm Op.bytesLess (fun i=>((namesO ks).getD i ByteArray.empty).toList) 0 (namesO ks).length
    unfold sortC
    rw [namesO_len] at this ⊢
    exact this
  have hlt:∀ i∈sortC (namesO ks),i<ks.length:=fun i hi=>by
    have:=List.mem_range'_1.1 (hq.mem_iff.1 hi)
    omega
  refine srt_unique sto_bytes _ _ _ _ ?_ ?_
  · have h1:=hq.map (fun i=>(ordC ks).getD i 0)
    have h2:=range_getDC (ordC ks) 0
    rw [ordC_len] at h2
    rw [h2] at h1
    exact h1.trans (ordC_perm ks)
  · rw [List.pairwise_map]
    have hs:=srt_sorted sto_bytes (fun i=>((namesO ks).getD i ByteArray.empty).toList) 0 (namesO ks).length
    refine List.Pairwise.imp_of_mem ?_ hs
    intro a b ha hb hab
    have la:=hlt a ha
    have lb:=hlt b hb
    rw [leI_iff] at hab ⊢
    simp only [namesO_get ks a la,namesO_get ks b lb] at hab
    rcases hab with h1 | ⟨h1,h2⟩
    · exact .inl h1
    · refine .inr ⟨h1,?_⟩
      have:=risC_ne h (ordC_lt ks a la) (ordC_lt ks b lb) h1
      omega
theorem names_back {ks:List ByteArray} (h:Ris ks):(sortC (namesO ks)).map (fun i=>(namesO ks).getD i ByteArray.empty)=ks:=by
  have h1:=congrArg (List.map fun i=>ks.getD i ByteArray.empty) (sort_back h)
  rw [range_getDC,List.map_map] at h1
  rw [← h1]
  have hq:(sortC (namesO ks)).Perm (List.range' 0 ks.length):=by
    have:=srt_perm Op.bytesLess (fun i=>((namesO ks).getD i ByteArray.empty).toList) 0 (namesO ks).length
    unfold sortC
    rw [namesO_len] at this ⊢
    exact this
  rw [h1]
  conv=>rhs;rw [← h1]
  refine List.map_congr_left fun i hi=>?_
  have:=List.mem_range'_1.1 (hq.mem_iff.1 hi)
  exact namesO_get ks i (by omega)
theorem vals_back {ks:List ByteArray} (h:Ris ks) (us:List MT) (d:MT) (hl:us.length=ks.length):(sortC (namesO ks)).map (fun i=>((ordC ks).map fun i=>us.getD i d).getD i d)=us:=by
  have h1:=congrArg (List.map fun i=>us.getD i d) (sort_back h)
  rw [← hl,range_getDC,List.map_map] at h1
  have hq:(sortC (namesO ks)).Perm (List.range' 0 ks.length):=by
    have:=srt_perm Op.bytesLess (fun i=>((namesO ks).getD i ByteArray.empty).toList) 0 (namesO ks).length
    unfold sortC
    rw [namesO_len] at this ⊢
    exact this
  conv=>rhs;rw [← h1]
  refine List.map_congr_left fun i hi=>?_
  have:=List.mem_range'_1.1 (hq.mem_iff.1 hi)
  have hi2:i<(ordC ks).length:=by rw [ordC_len];omega
  simp [List.getD,hi2]
theorem namesO_nodup {ks:List ByteArray} (h:Ris ks):(namesO ks).Nodup:=by
  unfold namesO
  have hp:(ordC ks).Nodup:=(ordC_perm ks).nodup_iff.2 (List.nodup_range' (step:=1))
  rw [List.nodup_iff_pairwise_ne,List.pairwise_map]
  refine List.Pairwise.imp_of_mem ?_ hp
  intro a b ha hb hab e
  have la:=List.mem_range'_1.1 ((ordC_perm ks).mem_iff.1 ha)
  have lb:=List.mem_range'_1.1 ((ordC_perm ks).mem_iff.1 hb)
  exact hab (risC_ne h (by omega) (by omega) (by rw [e]))
def CohC (t:MT):Prop:=∀ s,t.sub s→s.m.length=s.c.mn∧Okl s.m∧s.k.length=s.c.kn∧s.v.length=s.c.vn
theorem CohC.of {w:World} {t:MT} (h:Rep w t):CohC t:=fun s hs=>⟨(h s hs).mn,(h s hs).mo,(h s hs).kn,(h s hs).vn⟩
theorem CohC.own {t:MT} (h:CohC t):t.m.length=t.c.mn∧Okl t.m∧t.k.length=t.c.kn∧t.v.length=t.c.vn:=h t t.sub_refl
theorem CohC.part {t u:MT} (h:CohC t) (hu:u∈t.v):CohC u:=fun s hs=>h s (MT.sub_v hu hs)
theorem blank_factsC {c:Cel} (h:blankB c=true):c.b=false∧c.neg=false∧c.mn=0∧c.e=0∧c.s=⟨#[]⟩∧c.kn=0∧c.vn=0:=by
  unfold blankB at h
  simp only [Bool.and_eq_true,Bool.not_eq_true',decide_eq_true_eq] at h
  obtain ⟨h1,h2,h3,h4,h5,h6,h7⟩:=h
  refine ⟨h1,h2,h3,h4,?_,h6,h7⟩
  apply ByteArray.ext
  exact Array.eq_empty_of_size_eq_zero h5
theorem bare_nullC {t:MT} (hc:CohC t) (k:t.c.k=1) (h:soundB t=true):t.bare=leafT 1 false ⟨#[]⟩:=by
  obtain ⟨h1,_,h2,h3⟩:=hc.own
  rw [MT.bare_eq]
  obtain ⟨⟨ck,b,neg,ma,mn,mc,e,s,ka,kn,kc,va,vn,vc⟩,m,ks,vs⟩:=t
  simp only [MT.c,MT.m,MT.k,MT.v] at *
  subst k
  obtain ⟨e1,e2,e3,e4,e5,e6,e7⟩:=blank_factsC (c:=⟨1,b,neg,ma,mn,mc,e,s,ka,kn,kc,va,vn,vc⟩) h
  simp only at e1 e2 e3 e4 e5 e6 e7
  subst e1 e2 e3 e4 e5 e6 e7
  rw [List.eq_nil_of_length_eq_zero h1,List.eq_nil_of_length_eq_zero h2,List.eq_nil_of_length_eq_zero h3]
  rfl
theorem bare_boolC {t:MT} (hc:CohC t) (k:t.c.k=2) (h:soundB t=true):t.bare=leafT 2 t.c.b ⟨#[]⟩:=by
  obtain ⟨h1,_,h2,h3⟩:=hc.own
  rw [MT.bare_eq]
  obtain ⟨⟨ck,b,neg,ma,mn,mc,e,s,ka,kn,kc,va,vn,vc⟩,m,ks,vs⟩:=t
  simp only [MT.c,MT.m,MT.k,MT.v] at *
  subst k
  obtain ⟨e1,e2,e3,e4,e5,e6,e7⟩:=blank_factsC (c:=⟨2,false,neg,ma,mn,mc,e,s,ka,kn,kc,va,vn,vc⟩) h
  simp only at e1 e2 e3 e4 e5 e6 e7
  subst e2 e3 e4 e5 e6 e7
  rw [List.eq_nil_of_length_eq_zero h1,List.eq_nil_of_length_eq_zero h2,List.eq_nil_of_length_eq_zero h3]
  rfl
theorem bare_numC {t:MT} (hc:CohC t) (k:t.c.k=3) (h:soundB t=true):chkB t.c.neg t.m t.c.e=true∧t.bare=numT t.c.neg none t.m.length 0 t.c.e t.m:=by
  obtain ⟨h1,_,h2,h3⟩:=hc.own
  rw [MT.bare_eq]
  obtain ⟨⟨ck,b,neg,ma,mn,mc,e,s,ka,kn,kc,va,vn,vc⟩,m,ks,vs⟩:=t
  simp only [MT.c,MT.m,MT.k,MT.v] at *
  subst k
  have h':(chkB neg m e && blankB ⟨3,b,false,none,0,0,0,s,ka,kn,kc,va,vn,vc⟩)=true:=h
  rw [Bool.and_eq_true] at h'
  obtain ⟨e1,e2,e3,e4,e5,e6,e7⟩:=blank_factsC h'.2
  simp only at e1 e2 e3 e4 e5 e6 e7
  subst e1 e5 e6 e7 h1
  rw [List.eq_nil_of_length_eq_zero h2,List.eq_nil_of_length_eq_zero h3]
  exact ⟨h'.1,rfl⟩
theorem bare_textC {t:MT} (hc:CohC t) (k:t.c.k=4) (h:soundB t=true):(validL t.c.s.data.toList=true∧t.c.s.size≤2000)∧t.bare=leafT 4 false t.c.s:=by
  obtain ⟨h1,_,h2,h3⟩:=hc.own
  rw [MT.bare_eq]
  obtain ⟨⟨ck,b,neg,ma,mn,mc,e,s,ka,kn,kc,va,vn,vc⟩,m,ks,vs⟩:=t
  simp only [MT.c,MT.m,MT.k,MT.v] at *
  subst k
  have h':(validL s.data.toList && (decide (s.size≤2000) && blankB ⟨4,b,neg,ma,mn,mc,e,⟨#[]⟩,ka,kn,kc,va,vn,vc⟩))=true:=h
  rw [Bool.and_eq_true,Bool.and_eq_true] at h'
  obtain ⟨e1,e2,e3,e4,e5,e6,e7⟩:=blank_factsC h'.2.2
  simp only at e1 e2 e3 e4 e5 e6 e7
  subst e1 e2 e3 e4 e6 e7
  rw [List.eq_nil_of_length_eq_zero h1,List.eq_nil_of_length_eq_zero h2,List.eq_nil_of_length_eq_zero h3]
  exact ⟨⟨h'.1,of_decide_eq_true h'.2.1⟩,rfl⟩
theorem bare_bytesC {t:MT} (hc:CohC t) (k:t.c.k=5) (h:soundB t=true):t.c.s.size≤2000∧t.bare=leafT 5 false t.c.s:=by
  obtain ⟨h1,_,h2,h3⟩:=hc.own
  rw [MT.bare_eq]
  obtain ⟨⟨ck,b,neg,ma,mn,mc,e,s,ka,kn,kc,va,vn,vc⟩,m,ks,vs⟩:=t
  simp only [MT.c,MT.m,MT.k,MT.v] at *
  subst k
  have h':(decide (s.size≤2000) && blankB ⟨5,b,neg,ma,mn,mc,e,⟨#[]⟩,ka,kn,kc,va,vn,vc⟩)=true:=h
  rw [Bool.and_eq_true] at h'
  obtain ⟨e1,e2,e3,e4,e5,e6,e7⟩:=blank_factsC h'.2
  simp only at e1 e2 e3 e4 e5 e6 e7
  subst e1 e2 e3 e4 e6 e7
  rw [List.eq_nil_of_length_eq_zero h1,List.eq_nil_of_length_eq_zero h2,List.eq_nil_of_length_eq_zero h3]
  exact ⟨of_decide_eq_true h'.1,rfl⟩
theorem bare_arrC {t:MT} (hc:CohC t) (k:t.c.k=6) (h:soundB t=true):t.v.length≤300∧t.bare=barrC (t.v.map MT.bare):=by
  obtain ⟨h1,_,h2,h3⟩:=hc.own
  rw [MT.bare_eq]
  obtain ⟨⟨ck,b,neg,ma,mn,mc,e,s,ka,kn,kc,va,vn,vc⟩,m,ks,vs⟩:=t
  simp only [MT.c,MT.m,MT.k,MT.v] at *
  subst k
  have h':(decide (vn≤300) && blankB ⟨6,b,neg,ma,mn,mc,e,s,ka,kn,kc,none,0,0⟩)=true:=h
  rw [Bool.and_eq_true] at h'
  obtain ⟨e1,e2,e3,e4,e5,e6,e7⟩:=blank_factsC h'.2
  simp only at e1 e2 e3 e4 e5 e6 e7
  subst e1 e2 e3 e4 e5 e6 h3
  rw [List.eq_nil_of_length_eq_zero h1,List.eq_nil_of_length_eq_zero h2]
  refine ⟨of_decide_eq_true h'.1,?_⟩
  unfold barrC arrT
  rw [List.length_map]
  rfl
theorem bare_objC {t:MT} (hc:CohC t) (k:t.c.k=7) (h:soundB t=true):t.v.length≤300∧t.k.length=t.v.length∧risesB t.k=true∧t.bare=bobjC t.k (t.v.map MT.bare):=by
  obtain ⟨h1,_,h2,h3⟩:=hc.own
  rw [MT.bare_eq]
  obtain ⟨⟨ck,b,neg,ma,mn,mc,e,s,ka,kn,kc,va,vn,vc⟩,m,ks,vs⟩:=t
  simp only [MT.c,MT.m,MT.k,MT.v] at *
  subst k
  have h':(decide (kn=vn) && (risesB ks && (decide (vn≤300) && blankB ⟨7,b,neg,ma,mn,mc,e,s,none,0,0,none,0,0⟩)))=true:=h
  rw [Bool.and_eq_true,Bool.and_eq_true,Bool.and_eq_true] at h'
  obtain ⟨e1,e2,e3,e4,e5,e6,e7⟩:=blank_factsC h'.2.2.2
  simp only at e1 e2 e3 e4 e5 e6 e7
  have hkv:=of_decide_eq_true h'.1
  subst e1 e2 e3 e4 e5 h3 h2
  rw [List.eq_nil_of_length_eq_zero h1]
  refine ⟨of_decide_eq_true h'.2.2.1,hkv,h'.2.1,?_⟩
  unfold bobjC objT
  rw [List.length_map]
  rfl
def SndC (t:MT) (d:Nat):Prop:=∀ x∈t.pre d,x.1≤64∧soundB x.2=true
theorem SndC.own {t:MT} {d:Nat} (h:SndC t d):d≤64∧soundB t=true:=h (d,t) (by rw [MT.pre_eq];simp)
theorem SndC.part {t u:MT} {d:Nat} (h:SndC t d) (hu:u∈t.v):SndC u (d+1):=fun x hx=>h x (by rw [MT.pre_eq];exact List.mem_cons_of_mem _ (MT.mem_preL.2 ⟨u,hu,hx⟩))
theorem SndC.of {t:MT} (h:checkB t=true):SndC t 1∧t.nodes≤2000:=by
  unfold checkB at h
  rw [Bool.and_eq_true,List.all_eq_true] at h
  refine ⟨fun x hx=>?_,of_decide_eq_true h.1⟩
  have:=h.2 x hx
  rw [Bool.and_eq_true] at this
  exact ⟨of_decide_eq_true this.1,this.2⟩
def RtC (V:List Nat→Nat→RC MT) (u:MT):Prop:=∀ n more,n+u.nodes≤2000→V (encX u++more) n=.inl (u.bare,more,n+u.nodes)
theorem items_enc {V:List Nat→Nat→RC MT} {k:Nat}:∀ (us acc:List MT) (fuel n:Nat) (more:List Nat),acc.length+us.length=k→us.length<fuel→(∀ u∈us,RtC V u)→n+MT.nodesL us≤2000 →
    cbItems V false k fuel acc ((us.map encX).flatten++more) n=.inl (acc++us.map MT.bare,more,n+MT.nodesL us):=by
  intro us
  induction us with
  | nil =>
    intro acc fuel n more hk hf hV hn
    obtain ⟨fuel,rfl⟩:∃ q,fuel=q+1:=⟨fuel - 1,by omega⟩
    simp only [List.length_nil] at hk
    rw [cbItems_end (r:=more) (by unfold cbMore;rw [if_neg (by decide),decide_eq_false (by omega)];rfl),MT.nodesL_nil]
    simp
  | cons u us ih =>
    intro acc fuel n more hk hf hV hn
    obtain ⟨fuel,rfl⟩:∃ q,fuel=q+1:=⟨fuel - 1,by omega⟩
    rw [List.length_cons] at hk hf
    rw [MT.nodesL_cons] at hn ⊢
    have hu:=hV u (by simp) n ((us.map encX).flatten++more) (by omega)
    rw [List.map_cons,List.flatten_cons,List.append_assoc]
    rw [cbItems_on (r:=encX u++((us.map encX).flatten++more)) (by unfold cbMore;rw [if_neg (by decide),decide_eq_true (by omega)]) hu]
    rw [ih _ fuel _ more (by rw [List.length_append];simp;omega) (by omega) (fun v hv=>hV v (by simp [hv])) (by omega)]
    rw [List.map_cons,List.append_assoc,Nat.add_assoc]
    rfl
theorem name_enc (s:ByteArray) (r:List Nat) (hz:s.size≤2000) (hv:validL s.data.toList=true):cbName (strC 3 s++r)=.inl (strN s,r):=by
  unfold strC
  rw [List.append_assoc]
  have h:=head_hd 3 s.size (strN s++r) (by decide) (by omega)
  obtain ⟨c,q,h1,h2,h3⟩:=hd_first 3 s.size (by decide)
  have hi:=infoN_le s.size
  rw [h1,List.cons_append] at h ⊢
  unfold cbName
  simp only
  rw [if_neg (by omega),h]
  exact text_enc 3 s r hz (fun _=>hv)
theorem members_enc {V:List Nat→Nat→RC MT} {k:Nat}:∀ (zs:List (ByteArray × MT)) (ks:List ByteArray) (acc:List MT) (fuel n:Nat) (more:List Nat),acc.length+zs.length=k→zs.length<fuel→(∀ z∈zs,(z.1.size≤2000∧validL z.1.data.toList=true)∧RtC V z.2)→n+MT.nodesL (zs.map Prod.snd)≤2000 →
    cbMembers V false k fuel ks acc ((zs.map fun z=>strC 3 z.1++encX z.2).flatten++more) n=.inl ((ks++zs.map Prod.fst,acc++zs.map fun z=>z.2.bare),more,n+MT.nodesL (zs.map Prod.snd)):=by
  intro zs
  induction zs with
  | nil =>
    intro ks acc fuel n more hk hf hV hn
    obtain ⟨fuel,rfl⟩:∃ q,fuel=q+1:=⟨fuel - 1,by omega⟩
    simp only [List.length_nil] at hk
    rw [cbMem_end (r:=more) (by unfold cbMore;rw [if_neg (by decide),decide_eq_false (by omega)];rfl)]
    simp [MT.nodesL_nil]
  | cons z zs ih =>
    intro ks acc fuel n more hk hf hV hn
    obtain ⟨fuel,rfl⟩:∃ q,fuel=q+1:=⟨fuel - 1,by omega⟩
    rw [List.length_cons] at hk hf
    simp only [List.map_cons,MT.nodesL_cons,List.flatten_cons] at hn ⊢
    obtain ⟨⟨hz1,hz2⟩,hV1⟩:=hV z (by simp)
    have hu:=hV1 n ((zs.map fun z=>strC 3 z.1++encX z.2).flatten++more) (by omega)
    have hnm:=name_enc z.1 (encX z.2++((zs.map fun z=>strC 3 z.1++encX z.2).flatten++more)) hz1 hz2
    rw [List.append_assoc,List.append_assoc]
    rw [cbMem_on (r:=strC 3 z.1++(encX z.2++((zs.map fun z=>strC 3 z.1++encX z.2).flatten++more))) (by unfold cbMore;rw [if_neg (by decide),decide_eq_true (by omega)]) hnm hu]
    rw [ih _ _ fuel _ more (by rw [List.length_append];simp;omega) (by omega) (fun v hv=>hV v (by simp [hv])) (by omega),strB_strN]
    rw [Nat.add_assoc]
    simp
theorem nodesL_perm {a b:List MT} (h:a.Perm b):MT.nodesL a=MT.nodesL b:=by
  induction h with
  | nil=>rfl
  | cons x _ ih=>rw [MT.nodesL_cons,MT.nodesL_cons,ih]
  | swap x y l=>rw [MT.nodesL_cons,MT.nodesL_cons,MT.nodesL_cons,MT.nodesL_cons];omega
  | trans _ _ ih1 ih2=>exact ih1.trans ih2
theorem okN_valid {s:ByteArray} (h:okN s=true):s.size≤2000∧validL s.data.toList=true:=by
  unfold okN at h
  rw [Bool.and_eq_true,decide_eq_true_eq] at h
  exact h
theorem val_enc (t:MT):∀ (f dd:Nat),dd+f=65→SndC t dd→CohC t→RtC (cbValue (f+1)) t:=by
  refine MT.ind (P:=fun t=>∀ (f dd:Nat),dd+f=65→SndC t dd→CohC t→RtC (cbValue (f+1)) t) ?_ t
  intro t ih f dd hf hs hc n more hn
  obtain ⟨hd0,hso⟩:=hs.own
  have hf0:f ≠ 0:=by omega
  obtain ⟨f,rfl⟩:∃ g,f=g+1:=⟨f - 1,by omega⟩
  have hR:∀ u∈t.v,RtC (cbValue (f+1)) u:=fun u hu=>ih u hu f (dd+1) (by omega) (hs.part hu) (hc.part hu)
  have hnp:=t.nodes_pos
  have hn2:n<2000:=by omega
  have one:∀ {x:MT},t.bare=x→x.v=[]→t.nodes=1:=fun e h=>by
    have h2:t.v.map MT.bare=[]:=by rw [← h,← e,MT.bare_eq];rfl
    rw [List.map_eq_nil_iff] at h2
    rw [MT.nodes_eq,h2,MT.nodesL_nil]
  have hcs:=hso
  rw [encX_eq]
  by_cases c1:t.c.k=1
  · have hb:=bare_nullC hc c1 hso
    rw [if_pos c1,hb,one hb rfl,val_hd (f+1) n 7 22 more (by decide) (by decide) hn2 hf0]
    unfold cbBehind cbSimple
    rfl
  by_cases c2:t.c.k=2
  · have hb:=bare_boolC hc c2 hso
    rw [if_neg c1,if_pos c2,hb,one hb rfl]
    unfold truthC
    cases t.c.b
    iterate 2
      · rw [val_hd (f+1) n 7 _ more (by decide) (by decide) hn2 hf0]
        unfold cbBehind cbSimple
        rfl
  by_cases c3:t.c.k=3
  · obtain ⟨h1,h2⟩:=bare_numC hc c3 hso
    rw [if_neg c1,if_neg c2,if_pos c3,one h2 rfl,h2,val_num hc.own.2.1 h1 (f+1) n more hn2 hf0]
    unfold bnumC
    simp only
    rw [chkB_limbs hc.own.2.1 h1]
  by_cases c4:t.c.k=4
  · obtain ⟨h1,h2⟩:=bare_textC hc c4 hso
    rw [if_neg c1,if_neg c2,if_neg c3,if_pos c4,one h2 rfl,h2,val_str (f+1) n 3 t.c.s more (.inr rfl) hn2 hf0 h1.2 (fun _=>h1.1)]
    rfl
  by_cases c5:t.c.k=5
  · obtain ⟨h1,h2⟩:=bare_bytesC hc c5 hso
    rw [if_neg c1,if_neg c2,if_neg c3,if_neg c4,if_pos c5,one h2 rfl,h2,val_str (f+1) n 2 t.c.s more (.inl rfl) hn2 hf0 h1 (by omega)]
    rfl
  by_cases c6:t.c.k=6
  · obtain ⟨h1,h2⟩:=bare_arrC hc c6 hso
    rw [if_neg c1,if_neg c2,if_neg c3,if_neg c4,if_neg c5,if_pos c6,h2]
    rw [MT.nodes_eq] at hn ⊢
    unfold arrE
    rw [List.append_assoc,val_hd (f+1) n 4 _ _ (by decide) (by omega) hn2 hf0]
    have hl:=items_enc (V:=cbValue (f+1)) (k:=t.v.length) t.v [] 302 (n+1) more (by simp) (by omega) hR (by omega)
    unfold cbBehind
    rw [if_neg (by simp),if_neg (by simp),if_pos rfl]
    unfold cbArr
    simp only
    rw [if_neg (by omega),decide_eq_false (infoN_31 _),hl]
    simp only [List.nil_append]
    rw [show n+1+MT.nodesL t.v=n+(1+MT.nodesL t.v) by omega]
  by_cases c7:t.c.k=7
  · obtain ⟨h1,h3,h4,h2⟩:=bare_objC hc c7 hso
    rw [if_neg c1,if_neg c2,if_neg c3,if_neg c4,if_neg c5,if_neg c6,if_pos c7,h2]
    rw [MT.nodes_eq] at hn ⊢
    have hris:=ris_of h4
    unfold objE
    rw [List.append_assoc,val_hd (f+1) n 5 _ _ (by decide) (by omega) hn2 hf0]
    obtain ⟨d,hd⟩:∃ d,leafT 0 false ⟨#[]⟩=d:=⟨_,rfl⟩
    have hlt:∀ i∈ordC t.k,i<t.k.length:=fun i hi=>by
      have:=List.mem_range'_1.1 ((ordC_perm t.k).mem_iff.1 hi)
      omega
    have e1:(ordC t.k).map (mbrE t.k (t.v.map encX))=((ordC t.k).map fun i=>(t.k.getD i ByteArray.empty,t.v.getD i d)).map fun z=>strC 3 z.1++encX z.2:=by
      rw [List.map_map]
      refine List.map_congr_left fun i hi=>?_
      have h5:=hlt i hi
      unfold mbrE
      simp only [Function.comp]
      congr 1
      simp [List.getD,show i<t.v.length by omega]
    have hsnd:(((ordC t.k).map fun i=>(t.k.getD i ByteArray.empty,t.v.getD i d)).map Prod.snd).Perm t.v:=by
      rw [List.map_map]
      have h6:=(ordC_perm t.k).map (fun i=>t.v.getD i d)
      rw [h3,range_getDC] at h6
      exact h6
    have hnod:=nodesL_perm hsnd
    have hl:=members_enc (V:=cbValue (f+1)) (k:=t.k.length) ((ordC t.k).map fun i=>(t.k.getD i ByteArray.empty,t.v.getD i d)) [] [] 302 (n+1) more (by simp [ordC_len]) (by rw [List.length_map,ordC_len];omega) (fun z hz=>by
      obtain ⟨i,hi,rfl⟩:=List.mem_map.1 hz
      have h5:=hlt i hi
      refine ⟨okN_valid (riseC_ok h4 _ (by simp [List.getD,h5])),hR _ (by simp [List.getD,show i<t.v.length by omega])⟩) (by rw [hnod];omega)
    rw [hnod] at hl
    have e2:((ordC t.k).map fun i=>(t.k.getD i ByteArray.empty,t.v.getD i d)).map Prod.fst=namesO t.k:=by rw [List.map_map];rfl
    have e3:(((ordC t.k).map fun i=>(t.k.getD i ByteArray.empty,t.v.getD i d)).map fun z=>z.2.bare)=(ordC t.k).map fun i=>(t.v.map MT.bare).getD i d:=by
      rw [List.map_map]
      refine List.map_congr_left fun i hi=>?_
      have h5:=hlt i hi
      simp [List.getD,show i<t.v.length by omega]
    rw [List.nil_append,List.nil_append,e2,e3] at hl
    rw [e1]
    unfold cbBehind
    rw [if_neg (by simp),if_neg (by simp),if_neg (by simp),if_pos rfl]
    unfold cbObj
    simp only
    rw [if_neg (by omega),decide_eq_false (infoN_31 _),hl]
    simp only
    rw [if_pos (namesO_nodup hris),names_back hris,hd,vals_back hris (t.v.map MT.bare) d (by rw [List.length_map,h3])]
    rw [show n+1+MT.nodesL t.v=n+(1+MT.nodesL t.v) by omega]
  · unfold soundB at hcs
    rw [if_neg c1,if_neg c2,if_neg c3,if_neg c4,if_neg c5,if_neg c7,if_neg c6] at hcs
    cases hcs
theorem val_bad {f n:Nat} {c:Nat} {r r2:List Nat} {h:HdC} {y:Int} (hc:c ≠ 255) (hn:n<2000) (hf:f ≠ 0) (h1:cbHead (c::r)=.inl (h,r2)) (h2:∀ V:List Nat→Nat→RC MT,∀ m,cbBehind V h r2 m=.inr y):cbValue (f+1) (c::r) n=.inr y:=by
  rw [cbV_on hc (by omega) h1]
  exact h2 _ _
theorem pair_bad {t:MT} {x:List Nat} {y:Int} (hs:SndC t 2) (hc:CohC t) (hn:t.nodes≤1000) (hl:(encX t++x).length≤32000) (hx:cbValue 64 x (1+t.nodes)=.inr y):cbDecode (130::(encX t++x))=.inr y:=by
  unfold cbDecode
  rw [if_neg (by simp only [List.length_cons];omega)]
  rw [cbV_on (h0:=(4,2,2)) (r2:=encX t++x) (by decide) (by decide) (by rw [head_plain _ _ (by decide)])]
  unfold cbBehind
  rw [if_neg (by decide),if_neg (by decide),if_pos rfl]
  unfold cbArr
  simp only
  rw [if_neg (by decide)]
  have h1:=val_enc t 63 2 rfl hs hc 1 x (by omega)
  rw [show (decide ((2:Nat)=31))=false from rfl]
  rw [cbItems_on (r:=encX t++x) (by rfl) h1]
  rw [cbItems_bad (r:=x) (by rfl) hx]
theorem one_item {t:MT} (hs:SndC t 2) (hc:CohC t) (hn:t.nodes≤1000) (hl:(encX t).length≤32000):cbDecode (129::encX t)=.inl (barrC [t.bare]):=by
  unfold cbDecode
  rw [if_neg (by simp only [List.length_cons];omega)]
  rw [cbV_on (h0:=(4,1,1)) (r2:=encX t) (by decide) (by decide) (by rw [head_plain _ _ (by decide)])]
  unfold cbBehind
  rw [if_neg (by decide),if_neg (by decide),if_pos rfl]
  unfold cbArr
  simp only
  rw [if_neg (by decide)]
  have hR:∀ u∈[t],RtC (cbValue 64) u:=fun u hu=>by
    rw [List.mem_singleton.1 hu]
    exact val_enc t 63 2 rfl hs hc
  have hl2:=items_enc (V:=cbValue 64) (k:=1) [t] [] 302 1 [] rfl (by simp) hR (by rw [MT.nodesL_cons,MT.nodesL_nil];omega)
  simp only [List.map_cons,List.map_nil,List.flatten_cons,List.flatten_nil,List.append_nil,List.nil_append] at hl2
  rw [show (decide ((1:Nat)=31))=false from rfl,hl2]
  rfl
theorem refused_of (n:Nat) (hn:n<2000):∀ x∈[[247],[249,124,0],[251,127,248,0,0,0,0,0,0],[193,1],[161,1,2],[224],[248,32],[194,97,97],[196,131,0,0,0]],cbValue 64 x n=.inr 3:=by
  intro x hx
  simp only [List.mem_cons,List.not_mem_nil,or_false] at hx
  rcases hx with rfl | rfl | rfl | rfl | rfl | rfl | rfl | rfl | rfl
  · exact val_bad (h:=(7,23,23)) (r2:=[]) (by decide) hn (by decide) (by rfl) (fun V m=>by rfl)
  · exact val_bad (h:=(7,25,31744)) (r2:=[]) (by decide) hn (by decide) (by rfl) (fun V m=>by rfl)
  · exact val_bad (h:=(7,27,9221120237041090560)) (r2:=[]) (by decide) hn (by decide) (by rfl) (fun V m=>by kernel_rfl)
  · exact val_bad (h:=(6,1,1)) (r2:=[1]) (by decide) hn (by decide) (by rfl) (fun V m=>by rfl)
  · exact val_bad (h:=(5,1,1)) (r2:=[1,2]) (by decide) hn (by decide) (by rfl) (fun V m=>by rfl)
  · exact val_bad (h:=(7,0,0)) (r2:=[]) (by decide) hn (by decide) (by rfl) (fun V m=>by rfl)
  · exact val_bad (h:=(7,24,32)) (r2:=[]) (by decide) hn (by decide) (by rfl) (fun V m=>by rfl)
  · exact val_bad (h:=(6,2,2)) (r2:=[97,97]) (by decide) hn (by decide) (by rfl) (fun V m=>by rfl)
  · exact val_bad (h:=(6,4,4)) (r2:=[131,0,0,0]) (by decide) hn (by decide) (by rfl) (fun V m=>by rfl)
theorem broken_of (n:Nat) (hn:n<1990):∀ x∈[[],[255],[28],[97,255],[95,97,97,255],[31],[248,16],[162,97,97,1,97,97,2]],cbValue 64 x n=.inr 2:=by
  intro x hx
  simp only [List.mem_cons,List.not_mem_nil,or_false] at hx
  rcases hx with rfl | rfl | rfl | rfl | rfl | rfl | rfl | rfl
  · exact cbV_nil 63 n
  · exact cbV_break 63 n []
  · exact cbV_head (by decide) (by omega) (by rfl)
  · exact val_bad (h:=(3,1,1)) (r2:=[255]) (by decide) (by omega) (by decide) (by rfl) (fun V m=>by rfl)
  · exact val_bad (h:=(2,31,0)) (r2:=[97,97,255]) (by decide) (by omega) (by decide) (by rfl) (fun V m=>by rfl)
  · exact val_bad (h:=(0,31,0)) (r2:=[]) (by decide) (by omega) (by decide) (by rfl) (fun V m=>by rfl)
  · exact val_bad (h:=(7,24,16)) (r2:=[]) (by decide) (by omega) (by decide) (by rfl) (fun V m=>by rfl)
  · rw [cbV_on (h0:=(5,2,2)) (r2:=[97,97,1,97,97,2]) (by decide) (by omega) (by rfl)]
    have v1:∀ m r,m<2000→cbValue 63 (1::r) m=.inl (bnumC (false,1,0),r,m+1):=fun m r hm=>by
      rw [cbV_on (h0:=(0,1,1)) (r2:=r) (by decide) (by omega) (by rw [head_plain _ _ (by decide)])]
      rfl
    have v2:∀ m r,m<2000→cbValue 63 (2::r) m=.inl (bnumC (false,2,0),r,m+1):=fun m r hm=>by
      rw [cbV_on (h0:=(0,2,2)) (r2:=r) (by decide) (by omega) (by rw [head_plain _ _ (by decide)])]
      rfl
    have hm:cbMembers (cbValue 63) false 2 302 [] [] [97,97,1,97,97,2] (n+1)=.inl (([⟨#[97]⟩,⟨#[97]⟩],[bnumC (false,1,0),bnumC (false,2,0)]),[],n+3):=by
      rw [cbMem_on (r:=[97,97,1,97,97,2]) (s:=[97]) (r2:=[1,97,97,2]) (by rfl) (by rfl) (v1 (n+1) _ (by omega))]
      rw [cbMem_on (r:=[97,97,2]) (s:=[97]) (r2:=[2]) (by rfl) (by rfl) (v2 (n+1+1) _ (by omega))]
      rw [cbMem_end (r:=[]) (by rfl)]
      rfl
    unfold cbBehind
    rw [if_neg (by simp),if_neg (by simp),if_neg (by simp),if_pos rfl]
    unfold cbObj
    simp only
    rw [if_neg (by decide),show (decide ((2:Nat)=31))=false from rfl,hm]
    simp only
    rw [if_neg (by decide)]
theorem twice_bad {t:MT} (h:checkB t=true) (hc:CohC t) (hl:(encX t++encX t).length≤32768):cbDecode (encX t++encX t)=.inr 2:=by
  obtain ⟨hs,hn⟩:=SndC.of h
  have:=val_enc t 64 1 rfl hs hc 0 (encX t) (by omega)
  unfold cbDecode
  rw [if_neg (by omega),this]
  simp only
  rw [if_neg]
  intro e
  rw [e] at this
  have h2:=val_enc t 64 1 rfl hs hc 0 [] (by omega)
  rw [e,List.append_nil] at h2
  have h3:=cbV_nil 64 0
  rw [h3] at h2
  cases h2
theorem sameStrings0 (w:World):Calls Tryz.prog 43 #[.slice none 0 0,.slice none 0 0] w (BoolBelow true w):=by
  have HB:=Lib.hid (Below.refl w.heap.size w)
  go_enter Tryz.func43,Tryz.ntmps43
  go_wp2_with fail
  go_loopg [5] 1 (fun g i wr=>i=.int .i64 0∧wr=w)
  case atStart=>exact ⟨rfl,rfl⟩
  case round =>
    obtain ⟨rfl,rfl⟩:=hrel
    go_wp2_with fail
    go_ret
    exact BoolBelow.mk rfl HB.out
theorem sameTree0 (w:World):Calls Tryz.prog 18 #[.agg #[.int .i64 0,.bool false,.bool false,.slice none 0 0,.int .i64 0,.string ⟨#[]⟩,.slice none 0 0,.slice none 0 0],.agg #[.int .i64 0,.bool false,.bool false,.slice none 0 0,.int .i64 0,.string ⟨#[]⟩,.slice none 0 0,.slice none 0 0]] w (BoolBelow true w):=by
  have KN:=Lib.hid (fun W=>sameNum_any false none 0 0 [] 0 none 0 W rfl (by omega) (by omega) (by omega) (Rd.nil _ _) (Rd.nil _ _))
  have KS:=Lib.hid sameStrings0
  have hb0:Below w.heap.size w ((w.alloc (.cells #[.int .i64 0,.bool false,.bool false,.slice none 0 0,.int .i64 0,.string ⟨#[]⟩,.slice none 0 0,.slice none 0 0] 29)).alloc (.cells #[.int .i64 0,.bool false,.bool false,.slice none 0 0,.int .i64 0,.string ⟨#[]⟩,.slice none 0 0,.slice none 0 0] 29)):=((Below.refl _ _).alloc (Nat.le_refl _) _).alloc (by simp) _
  have Q0:Hid (((w.alloc (.cells #[.int .i64 0,.bool false,.bool false,.slice none 0 0,.int .i64 0,.string ⟨#[]⟩,.slice none 0 0,.slice none 0 0] 29)).alloc (.cells #[.int .i64 0,.bool false,.bool false,.slice none 0 0,.int .i64 0,.string ⟨#[]⟩,.slice none 0 0,.slice none 0 0] 29)).heap[w.heap.size]? = some (.cells #[.int .i64 0,.bool false,.bool false,.slice none 0 0,.int .i64 0,.string ⟨#[]⟩,.slice none 0 0,.slice none 0 0] 29)):=Lib.hid ((Below.heap_alloc _ _ _ (by simp)).trans (heap_alloc_new w _))
  have Q1:Hid (((w.alloc (.cells #[.int .i64 0,.bool false,.bool false,.slice none 0 0,.int .i64 0,.string ⟨#[]⟩,.slice none 0 0,.slice none 0 0] 29)).alloc (.cells #[.int .i64 0,.bool false,.bool false,.slice none 0 0,.int .i64 0,.string ⟨#[]⟩,.slice none 0 0,.slice none 0 0] 29)).heap[w.heap.size+1]? = some (.cells #[.int .i64 0,.bool false,.bool false,.slice none 0 0,.int .i64 0,.string ⟨#[]⟩,.slice none 0 0,.slice none 0 0] 29)):=Lib.hid (by have:=heap_alloc_new (w.alloc (.cells #[.int .i64 0,.bool false,.bool false,.slice none 0 0,.int .i64 0,.string ⟨#[]⟩,.slice none 0 0,.slice none 0 0] 29)) (.cells #[.int .i64 0,.bool false,.bool false,.slice none 0 0,.int .i64 0,.string ⟨#[]⟩,.slice none 0 0,.slice none 0 0] 29);simpa using this)
  have HB0:=Lib.hid hb0
  clear hb0
  go_enter Tryz.func18,Tryz.ntmps18
  go_wp2_with fail
  refine (KN.out _).mono ?_
  rintro r w1 ⟨rfl,hb1⟩
  have p0:=(hb1.block w.heap.size (by simp;omega)).trans Q0.out
  have p1:=(hb1.block (w.heap.size+1) (by simp)).trans Q1.out
  have y0:=(boxC p0 0 _ rfl).1;have z0:=(boxC p1 0 _ rfl).1
  have y1:=(boxC p0 1 _ rfl).1;have z1:=(boxC p1 1 _ rfl).1
  have y2:=(boxC p0 2 _ rfl).1;have z2:=(boxC p1 2 _ rfl).1
  have y3:=(boxC p0 3 _ rfl).1;have z3:=(boxC p1 3 _ rfl).1
  have y4:=(boxC p0 4 _ rfl).1;have z4:=(boxC p1 4 _ rfl).1
  have y5:=(boxC p0 5 _ rfl).1;have z5:=(boxC p1 5 _ rfl).1
  have y6:=(boxC p0 6 _ rfl).1;have z6:=(boxC p1 6 _ rfl).1
  have y7:=(boxC p0 7 _ rfl).1;have z7:=(boxC p1 7 _ rfl).1
  have hs1:w.heap.size+1<w1.heap.size:=(Array.getElem?_eq_some_iff.1 p1).1
  have P0:=Lib.hid p0;have P1:=Lib.hid p1
  have HB1:=Lib.hid (HB0.out.trans (hb1.mono HB0.out.size))
  clear hb1 p0 p1
  go_wp2_with fail
  refine (KS.out _).mono ?_
  rintro r w2 ⟨rfl,hb2⟩
  clear y0 z0 y1 z1 y2 z2 y3 z3 y4 z4 y5 z5 y6 z6 y7 z7
  have p0:=(hb2.block w.heap.size (by omega)).trans P0.out
  have p1:=(hb2.block (w.heap.size+1) (by omega)).trans P1.out
  have y0:=(boxC p0 0 _ rfl).1;have z0:=(boxC p1 0 _ rfl).1
  have y1:=(boxC p0 1 _ rfl).1;have z1:=(boxC p1 1 _ rfl).1
  have y2:=(boxC p0 2 _ rfl).1;have z2:=(boxC p1 2 _ rfl).1
  have y3:=(boxC p0 3 _ rfl).1;have z3:=(boxC p1 3 _ rfl).1
  have y4:=(boxC p0 4 _ rfl).1;have z4:=(boxC p1 4 _ rfl).1
  have y5:=(boxC p0 5 _ rfl).1;have z5:=(boxC p1 5 _ rfl).1
  have y6:=(boxC p0 6 _ rfl).1;have z6:=(boxC p1 6 _ rfl).1
  have y7:=(boxC p0 7 _ rfl).1;have z7:=(boxC p1 7 _ rfl).1
  have HB2:=Lib.hid (below_on HB1.out hb2)
  clear hb2 p0 p1
  go_wp2_with fail
  go_loopg [5] 1 (fun g i wr=>i=.int .i64 0∧wr=w2)
  case atStart=>exact ⟨rfl,rfl⟩
  case round =>
    obtain ⟨rfl,hwr⟩:=hrel
    replace hwr:=hwr.symm
    subst hwr
    go_wp2_with fail
    go_ret
    exact BoolBelow.mk rfl HB2.out
theorem okb_append {a b:List Nat} (h:Okb a) (k:Okb b):Okb (a++b):=fun x hx=>by exact (List.mem_append.1 hx).elim (h x) (k x)
theorem okb_flatten {l:List (List Nat)} (h:∀ p∈l,Okb p):Okb l.flatten:=fun x hx=>by
  obtain ⟨p,hp,hx⟩:=List.mem_flatten.1 hx
  exact h p hp x hx
theorem hd_okb (m n:Nat) (hm:m<8) (hn:n<18446744073709551616):Okb (hd m n):=by
  intro x hx
  have hi:=infoN_le n
  unfold hd at hx
  rcases List.mem_cons.1 hx with rfl | hx
  · omega
  · unfold tailN at hx
    split at hx
    · cases hx
    · split at hx
      · simp only [List.mem_cons,List.not_mem_nil,or_false] at hx;omega
      · split at hx
        · simp only [List.mem_cons,List.not_mem_nil,or_false] at hx;omega
        · split at hx
          iterate 2
            · simp only [List.mem_cons,List.not_mem_nil,or_false] at hx;omega
theorem strC_okb (m:Nat) (s:ByteArray) (hm:m<8) (hz:s.size≤2000):Okb (strC m s):=okb_append (hd_okb m _ hm (by omega)) (strN_okb s)
theorem intB_okb (b:Bool) (T:Nat) (h:bitsN T≤100000):Okb (intB b T):=by
  unfold intB
  split
  next hs=>exact hd_okb _ _ (by split <;> decide) (short_lt hs)
  next=>exact okb_append (okb_append (hd_okb _ _ (by decide) (by split <;> decide)) (hd_okb _ _ (by decide) (by have:=bytesN_len T;omega))) (bytesN_ok T)
theorem numB_okb {ng:Bool} {xs:List Nat} {e:Int} (ho:Okl xs) (h:chkB ng xs e=true):Okb (numB ng (val xs) e):=by
  have hb:=chkB_bounds h
  have h90:bitsN (val xs)≤2880:=Nat.le_trans (bits_words ho) (by omega)
  have hr:Okb (restB ng (val xs) e):=by
    unfold restB
    cases hf:fltOf ng (val xs) e with
    | some p =>
      obtain ⟨d,y⟩:=p
      have hd:=(shA_yes hf).2
      simp only
      intro x hx
      unfold fltB at hx
      rcases List.mem_cons.1 hx with rfl | hx
      · omega
      · exact bytesL_ok _ _ x hx
    | none =>
      simp only
      unfold decB
      refine okb_append (okb_append (okb_append (hd_okb _ _ (by decide) (by decide)) (hd_okb _ _ (by decide) (by decide))) (intB_okb _ _ ?_)) (intB_okb _ _ ?_)
      · exact Nat.le_trans (bits_mono (told_le _ _)) (Nat.le_trans (bits_small (by omega)) (by decide))
      · exact Nat.le_trans (bits_mono (told_le _ _)) (by omega)
  unfold numB intAt
  split
  next M hM =>
    split at hM
    next hc =>
      cases hM
      split
      · exact intB_okb _ _ (Nat.le_trans (bits_mono (told_le _ _)) (by have:=hc.2;omega))
      · exact hr
    next=>cases hM
  next=>exact hr
theorem encX_okb (t:MT):∀ d,SndC t d→CohC t→Okb (encX t):=by
  refine MT.ind (P:=fun t=>∀ d,SndC t d→CohC t→Okb (encX t)) ?_ t
  intro t ih d hs hc
  obtain ⟨_,hso⟩:=hs.own
  have hV:∀ p∈t.v.map encX,Okb p:=fun p hp=>by
    obtain ⟨u,hu,rfl⟩:=List.mem_map.1 hp
    exact ih u hu (d+1) (hs.part hu) (hc.part hu)
  rw [encX_eq]
  split
  · exact hd_okb _ _ (by decide) (by decide)
  split
  · unfold truthC;exact hd_okb _ _ (by decide) (by split <;> decide)
  split
  next c3=>exact numB_okb hc.own.2.1 (bare_numC hc c3 hso).1
  split
  next c4=>exact strC_okb _ _ (by decide) (bare_textC hc c4 hso).1.2
  split
  next c5=>exact strC_okb _ _ (by decide) (bare_bytesC hc c5 hso).1
  split
  next c6 =>
    have:=(bare_arrC hc c6 hso).1
    exact okb_append (hd_okb _ _ (by decide) (by omega)) (okb_flatten hV)
  split
  next c7 =>
    obtain ⟨h1,h3,h4,_⟩:=bare_objC hc c7 hso
    refine okb_append (hd_okb _ _ (by decide) (by omega)) (okb_flatten fun p hp=>?_)
    obtain ⟨i,hi,rfl⟩:=List.mem_map.1 hp
    have hlt:i<t.k.length:=by
      have:=List.mem_range'_1.1 ((ordC_perm t.k).mem_iff.1 hi)
      omega
    unfold mbrE
    refine okb_append (strC_okb _ _ (by decide) (okN_valid (riseC_ok h4 _ (by simp [List.getD,hlt]))).1) (hV _ (by simp [List.getD,show i<t.v.length by omega];exact ⟨_,List.getElem_mem _,rfl⟩))
  · intro x hx;cases hx
theorem strN_strB {l:List Nat} (h:Okb l):strN (strB l)=l:=by
  unfold strN strB
  simp only [List.map_map,Function.comp_def]
  conv=>rhs;rw [← List.map_id l]
  refine List.map_congr_left fun x hx=>?_
  have:=h x hx
  simp
  omega
theorem strN_append (a b:ByteArray):strN (a++b)=strN a++strN b:=by
  unfold strN
  rw [← List.map_append]
  congr 1
end Go.Proofs.YtnacbakcalcgaaaGreatDoor
namespace Go.Proofs.YtnacbakcalcgaaaGreatDoor
open Go.RowKit
theorem refNorm_any (ad:Option Addr) (n cap:Nat) (xs:List Nat) (w:World) (hn:xs.length=n) (hcap:n≤cap) (hm:n≤100000000) (ho:Okl xs) (hr:Rd w ad xs) :
    Calls Tryz.prog 60 #[.slice ad n cap] w (Gives (val xs) w):=by
  have hcl:=cutLen_le xs n
  have hcv:=cut_limbs ho
  rw [hn] at hcv
  have hr':=hr.take (cutLen xs n)
  have hlc:(xs.take (cutLen xs n)).length=cutLen xs n:=by rw [List.length_take];omega
  have hot:=ho.take (cutLen xs n)
  have HN:=Lib.hid hn;clear hn
  have HF:Hid (∀ v w1,Own w.heap.size w1 v ([]++xs.take (cutLen xs n))→Below w.heap.size w w1→Gives (val xs) w (.returned v) w1):=fun v w1 h1 h2=>⟨v,rfl,by rw [← hcv];simpa using h1,h2⟩
  clear hcv
  have HC:=Lib.hid (rfl:cutLen xs n=cutLen xs n)
  generalize hc0:cutLen xs n=c at *
  have HC0:=Lib.hid hc0;clear hc0 HC
  generalize hY:xs.take c=Y at *
  clear hY
  have HLC:=Lib.hid hlc;clear hlc
  go_enter Tryz.func60,Tryz.ntmps60
  go_wp2
  go_loop [3] (fun i=>∃ k:Nat,k≤n∧i=.int .i64 k∧cutLen xs k=c) (fun i=>(intOf i).toNat)
  case atStart=>exact ⟨n,Nat.le_refl _,rfl,HC0.out⟩
  case round =>
    obtain ⟨k,hk,rfl,he⟩:=hrel
    have HE:=Lib.hid he;clear he
    rcases k with _ | k
    · have h0:c=0:=by rw [← HE.out];rfl
      subst h0
      go_wp2_with (at_builtin;refine wpl_append_rd rfl _ _ rfl w.heap.size _ [] rfl (Own.nil _ _) _ _ _ Y rfl hot HLC.out hr' (by simp) (Nat.le_refl _) ?_;intro v' w' hv hb)
      go_ret
      exact HF.out _ _ hv hb
    · obtain ⟨b,o,hadd,_,hc⟩:=hr k (by rw [HN.out];omega)
      subst hadd
      generalize hx:xs.getD k 0=x at *
      have HX:=Lib.hid hx;clear hx
      by_cases hz:x=0
      · go_wp2
        go_round
        case rel=>exact ⟨k,by omega,rfl,by rw [← HE.out];simp only [cutLen];rw [if_pos (by rw [HX.out];exact hz)]⟩
        case measure=>simp [intOf]
      · have h0:c=k+1:=by rw [← HE.out];simp only [cutLen];rw [if_neg (by rw [HX.out];exact hz)]
        subst h0
        go_wp2_with (at_builtin;refine wpl_append_rd rfl _ _ rfl w.heap.size _ [] rfl (Own.nil _ _) _ _ _ Y rfl hot HLC.out hr' (by simp;omega) (Nat.le_refl _) ?_;intro v' w' hv hb)
        go_ret
        exact HF.out _ _ hv hb
def SMRel (g n:Nat) (xs:List Nat) (d:Nat) (w1:World) (c i:Value) (wr:World):Prop :=
  ∃ (k q:Nat) (zs:List Nat),k≤n∧i=.int .i64 ((k:Int) - 1)∧c=.int .u64 (q:Int)∧q<d∧zs.length=n∧Okl zs∧val (zs.drop k)*d+q=val (xs.drop k)∧wr=put g zs [] w1
def SmallPost (N d:Nat) (w:World) (e:Ending) (w':World):Prop :=
  ∃ v,e=.returned (.tuple #[v,.int .u32 ((N % d:Nat):Int)])∧Own w.heap.size w' v (limbs (N / d))∧Below w.heap.size w w'
theorem sm_step {g n d j q x:Nat} {xs zs:List Nat} {w1:World} (hl:zs.length=n) (hn:xs.length=n) (hj:j+1≤n) (hd:d<B32) (hd0:0<d) (hq:q<d) (hoz:Okl zs) (hx:xs.getD j 0=x) (hxb:x<B32)
    (he:val (zs.drop (j+1))*d+q=val (xs.drop (j+1))) (hb:Blk w1 g (List.replicate n 0) []) :
    SMRel g n xs d w1 (.int .u64 ((wd q x % d:Nat):Int)) (.int .i64 ((j:Int) - 1)) ((put g zs [] w1).setCell ⟨g,j,none⟩ (.int .u32 ((wd q x / d:Nat):Int))):=by
  have hql:wd q x / d<B32:=by
    rw [Nat.div_lt_iff_lt_mul hd0];unfold wd
    have:(q+1)*B32≤d*B32:=Nat.mul_le_mul_right _ hq
    rw [Nat.add_mul,Nat.one_mul] at this
    rw [Nat.mul_comm B32 d];omega
  have hml:wd q x % d<d:=Nat.mod_lt _ hd0
  rw [set_blk (put_blk _ _ hb.lt) _ _ (by omega),put_put]
  refine ⟨j,_,zs.set j (wd q x / d),by omega,rfl,rfl,hml,by rw [List.length_set];exact hl,hoz.set _ _ hql,?_,rfl⟩
  rw [val_drop_succ _ j (by rw [List.length_set];omega),val_drop_succ xs j (by omega),hx,List.drop_set_of_lt (by omega)]
  have e3:(zs.set j (wd q x / d)).getD j 0=wd q x / d:=by simp [List.getD,show j<zs.length by omega]
  rw [e3]
  exact sh_num he (Nat.div_add_mod _ _)
theorem refSmall_any (ad:Option Addr) (n cap:Nat) (xs:List Nat) (d:Nat) (w:World) (hn:xs.length=n) (hcap:n≤cap) (hm:n≤100000000) (ho:Okl xs) (hr:Rd w ad xs) (hd:d<B32) (hd0:0<d) :
    Calls Tryz.prog 99 #[.slice ad n cap,.int .u32 (d:Int)] w (SmallPost (val xs) d w):=by
  have HN:=Lib.hid hn;clear hn
  have hd':=hd
  rw [B32_eq] at hd'
  have hd0':¬ ((d:Int)=0):=by omega
  go_enter Tryz.func99,Tryz.ntmps99
  go_wp2_with (at_make;refine wpl_make _ rfl _ _ rfl _ _ _ _ n rfl rfl rfl rfl (by omega) ?_;intro w1 hB1 hb1)
  have hg1:=hr.apart (Nat.le_refl w.heap.size)
  have hr1:=hr.below hb1
  go_loopw [7,8] (fun c i wr=>SMRel w.heap.size n xs d w1 c i wr) (fun _ i _=>(intOf i+1).toNat)
  case atStart=>exact ⟨n,0,List.replicate n 0,Nat.le_refl _,by go_num,rfl,hd0,by simp,Okl.replicate n,by rw [List.drop_of_length_le (by simp),List.drop_of_length_le (by rw [HN.out];exact Nat.le_refl _)];simp [val],(put_same hB1).symm⟩
  case round =>
    obtain ⟨k,q,zs,hk,rfl,rfl,hq,hl,hoz,he,rfl⟩:=hrel
    have HL:=Lib.hid hl;clear hl
    have HE:=Lib.hid he;clear he
    have hbz:Blk (put w.heap.size zs [] w1) w.heap.size zs []:=put_blk _ _ hB1.lt
    rcases k with _ | j
    · have hv:=HE.out
      simp only [List.drop_zero] at hv
      have hdv:val xs / d=val zs:=by rw [← hv,Nat.mul_comm,Nat.mul_add_div hd0,Nat.div_eq_of_lt hq,Nat.add_zero]
      have hmd:val xs % d=q:=by rw [← hv,Nat.mul_comm,Nat.mul_add_mod,Nat.mod_eq_of_lt hq]
      have HD:=Lib.hid hdv;clear hdv
      have HM:=Lib.hid hmd;clear hmd hv
      have hbl:Below w.heap.size w (put w.heap.size zs [] w1):=put_below hb1 (Nat.le_refl _) _ _
      have KN:=Lib.hid (refNorm_any (some ⟨w.heap.size,0,none⟩) n n zs _ HL.out (Nat.le_refl _) hm hoz hbz.rd_all)
      have hq':q<4294967296:=by omega
      rw [show (((0:Nat):Int) - 1) = -1 from rfl]
      have HBL:=Lib.hid hbl;clear hbl
      generalize put w.heap.size zs [] w1=W at *
      go_wp2_with fail
      refine KN.out.mono ?_
      rintro e w' ⟨v,rfl,hv,hb'⟩
      go_wp2
      go_ret2
      exact ⟨v,by rw [HM.out];rfl,by rw [HD.out];exact hv.mono HBL.out.size,below_on HBL.out hb'⟩
    · rw [show (((j+1:Nat):Int) - 1)=(j:Int) by omega]
      obtain ⟨b,o,rfl,hblt,hc⟩:=(hr1.put (g:=w.heap.size) hg1 zs []) j (by rw [HN.out];omega)
      have hcz:=hbz.cell j (by rw [HL.out];omega)
      have hfz:=hbz.free j
      have hxb:=ho.getD j
      generalize hx:xs.getD j 0=x at *
      have R:=Lib.hid (sm_step (g:=w.heap.size) (w1:=w1) HL.out HN.out hk hd hd0 hq hoz hx hxb HE.out hB1)
      clear hx
      have hq':q<4294967296:=by omega
      have hwl:=wd_lt (Nat.lt_trans hq hd) hxb
      have hwd:(q:Int)*4294967296+(x:Int)=((wd q x:Nat):Int):=by unfold wd;rw [B32_eq];omega
      have hqb:wd q x / d<4294967296:=by
        have:wd q x / d<B32:=by
          rw [Nat.div_lt_iff_lt_mul hd0];unfold wd
          have:(q+1)*B32≤d*B32:=Nat.mul_le_mul_right _ hq
          rw [Nat.add_mul,Nat.one_mul] at this
          rw [Nat.mul_comm B32 d];omega
        rwa [B32_eq] at this
      rw [B32_eq] at hxb
      generalize wd q x=D at *
      have hml:D % d<4294967296:=by have:=Nat.mod_lt D hd0;omega
      go_wp2
      go_roundw
      case rel =>
        have e1:IntKind.u64.wrap ((D:Int) / (d:Int)) % 4294967296=((D / d:Nat):Int):=by
          rw [← Int.natCast_ediv]
          generalize D / d=Q at *
          rw [IntWalk.u64_in _ (by omega)];omega
        rw [e1];exact R.out
      case measure=>simp [intOf]
def RTPost (a:Nat) (w:World) (e:Ending) (w':World):Prop :=
  ∃ v m k,e=.returned (.tuple #[v,.int .i64 ((k:Nat):Int)])∧Own w.heap.size w' v (limbs m)∧Below w.heap.size w w'∧a=m*tenN k∧(a=0→k=0)∧(a ≠ 0→m % 10 ≠ 0)∧k≤400000000
def RTRel (G N:Nat) (w:World) (M:Nat) (lv n:Value) (wr:World):Prop :=
  ∃ k:Nat,n=.int .i64 (k:Int)∧Own G wr lv (limbs M)∧N=M*tenN k∧(N=0→k=0)∧M≤N∧k≤400000000∧Below G w wr
theorem rt_step {N M k n:Nat} (h:N=M*tenN k) (h0:M ≠ 0) (hm:M % 10=0) (hN:N<B32 ^ n) (hn:n≤10000000):N=M / 10*tenN (k+1)∧(N=0→k+1=0)∧k+1≤400000000:=by
  have e:=Nat.div_add_mod M 10
  rw [hm,Nat.add_zero] at e
  have hN0:N ≠ 0:=by rw [h];exact Nat.mul_ne_zero h0 (tenN_ne _)
  have e1:N=M / 10*tenN (k+1):=by
    rw [h];conv=>lhs;rw [← e]
    rw [tenN_succ]
    generalize tenN k=T;generalize M / 10=q;grind
  have h1:M / 10 ≠ 0:=by omega
  have h2:tenN (k+1)≤N:=by rw [e1];exact Nat.le_mul_of_pos_left _ (by omega)
  have:=ten_bound h2 hN
  exact ⟨e1,fun h0=>absurd h0 hN0,by omega⟩
theorem refTrim_any (ad:Option Addr) (n cap:Nat) (xs:List Nat) (w:World) (hn:xs.length=n) (hcap:n≤cap) (hm:n≤10000000) (ho:Okl xs) (hr:Rd w ad xs) :
    Calls Tryz.prog 58 #[.slice ad n cap] w (RTPost (val xs) w):=by
  have KN:=Lib.hid (refNorm_any ad n cap xs w hn hcap (by omega) ho hr)
  have hlen:=limbs_len_le ho
  rw [hn] at hlen
  have hlt:=val_lt ho
  rw [hn] at hlt
  generalize val xs=N at *
  clear ho hr hn
  generalize hG:w.heap.size=G at *
  have HLT:=Lib.hid hlt;clear hlt
  go_enter Tryz.func58,Tryz.ntmps58
  go_wp2_with fail
  refine KN.out.mono ?_
  rintro e w' ⟨v,rfl,hv,hbl⟩
  rw [hG] at hv hbl
  have HV:=Lib.hid hv;have HB:=Lib.hid hbl;clear hv hbl
  go_wp2_with fail
  go_loopg [4,5] N (fun M lv nv wr=>RTRel G N w M lv nv wr)
  case atStart=>exact ⟨0,rfl,HV.out,by rw [tenN_zero,Nat.mul_one],fun _=>rfl,Nat.le_refl _,by omega,HB.out⟩
  case round =>
    clear HV HB
    obtain ⟨k,rfl,hown,hT,hk0,hle,hk4,hbl⟩:=hrel
    obtain ⟨ad2,cap2,hve,hc2,hrd,hadd⟩:=hown.view
    have hll:(limbs gk).length≤n:=Nat.le_trans (limbs_len_mono hle) hlen
    by_cases hM:gk=0
    · subst hM
      rw [limbs_zero] at hve
      subst hve
      have F:=Lib.hid (show RTPost N w (.returned (.tuple #[.slice ad2 0 cap2,.int .i64 ((k:Nat):Int)])) wr from ⟨_,0,k,rfl,by rw [hG];exact hown,by rw [hG];exact hbl,hT,hk0,fun h=>absurd (by rw [hT,Nat.zero_mul]) h,hk4⟩)
      clear hown hrd hadd hT hbl hc2 hll hk0
      go_wp2
      go_ret2
      exact F.out
    · have hpos:(0:Int)<((limbs gk).length:Int):=by
        have:(limbs gk).length ≠ 0:=fun h=>hM ((limbs_nil_iff gk).1 (List.eq_nil_of_length_eq_zero h))
        omega
      have K:=refSmall_any ad2 (limbs gk).length cap2 (limbs gk) 10 wr rfl hc2 (by omega) (limbs_ok gk) hrd (by decide) (by decide)
      rw [val_limbs] at K
      have KS:=Lib.hid K;clear K
      have hGs:G≤wr.heap.size:=Nat.le_trans (by rw [← hG];exact Nat.le_refl _) hbl.size
      have HT:=Lib.hid hT;have HB:=Lib.hid hbl;have HO:=Lib.hid hown;have HK0:=Lib.hid hk0;have HVE:=Lib.hid hve
      subst hve
      clear hown hrd hadd hT hbl hc2 hk0
      go_wp2_with fail
      refine KS.out.mono ?_
      rintro r w1 ⟨v1,rfl,hv1,hb1⟩
      have hv2:=hv1.mono hGs
      have hbl2:=HB.out.trans (hb1.mono hGs)
      have ho2:=HO.out.below hb1
      have h10:gk % 10<10:=Nat.mod_lt _ (by decide)
      have HV2:=Lib.hid hv2;have HB2:=Lib.hid hbl2;have HO2:=Lib.hid ho2
      clear hv1 hb1 hv2 hbl2 KS ho2
      by_cases h0:gk % 10=0
      · have HS:=Lib.hid (rt_step HT.out hM h0 HLT.out hm)
        have hqm:gk / 10<gk:=by omega
        have HQN:=Lib.hid (show gk / 10≤N by omega)
        have hb:((((gk % 10:Nat):Int)) != 0)=false:=by rw [h0];rfl
        have hi:((gk % 10:Nat):Int)=0:=by omega
        generalize gk % 10=r at *
        subst h0
        generalize gk / 10=q at *
        go_wp2
        go_roundg q
        case measure=>exact hqm
        case rel=>exact ⟨k+1,by go_num,HV2.out,HS.out.1,HS.out.2.1,HQN.out,HS.out.2.2,HB2.out⟩
      · have F:=Lib.hid (show RTPost N w (.returned (.tuple #[.slice ad2 (limbs gk).length cap2,.int .i64 ((k:Nat):Int)])) w1 from ⟨_,gk,k,rfl,by rw [hG];exact HO2.out,by rw [hG];exact HB2.out,HT.out,HK0.out,fun _=>h0,hk4⟩)
        have hi:¬ ((gk % 10:Nat):Int)=0:=by omega
        generalize gk % 10=r at *
        go_wp2
        go_ret2
        exact F.out
end Go.Proofs.YtnacbakcalcgaaaGreatDoor
