/- Texts of the claim. -/
import Derived.Test.YtnacbakcalcgaaaGreatDoorIC
set_option linter.unusedVariables false
set_option linter.unusedSimpArgs false
set_option maxHeartbeats 4000000
set_option maxRecDepth 100000
namespace Go.Proofs.YtnacbakcalcgaaaGreatDoor
open Go.RowKit
theorem getD_set_same (l:List Nat) (i v:Nat) (h:i<l.length):(l.set i v).getD i 0=v:=by simp [List.getD,h]
theorem getD_set_other (l:List Nat) (i j v:Nat) (h:j ≠ i):(l.set i v).getD j 0=l.getD j 0:=by simp [List.getD,List.getElem?_set_ne (Ne.symm h)]
structure RMOut (xs ys zs:List Nat) (i:Nat):Prop where
  len:zs.length=xs.length+ys.length+1
  ok:Okl zs
  zero:∀ j,i+ys.length≤j→zs.getD j 0=0
  eq:val (zs.take (i+ys.length))=val (xs.take i)*val ys
structure RMIn (xs ys Z zs:List Nat) (i k c:Nat):Prop where
  len:zs.length=xs.length+ys.length+1
  ok:Okl zs
  same:∀ j,i+k≤j→zs.getD j 0=Z.getD j 0
  cb:c<B32
  eq:val (zs.take (i+k))+B32 ^ (i+k)*c=val (Z.take (i+k))+B32 ^ i*(xs.getD i 0*val (ys.take k))
theorem RMOut.start (xs ys:List Nat):RMOut xs ys (List.replicate (xs.length+ys.length+1) 0) 0 :=
  ⟨by simp,Okl.replicate _,fun j _=>by simp [List.getD,List.getElem?_replicate];split <;> rfl,by rw [List.take_replicate,val_replicate];simp [val]⟩
theorem RMIn.start {xs ys Z:List Nat} {i:Nat} (h:RMOut xs ys Z i):RMIn xs ys Z Z i 0 0 :=
  ⟨h.len,h.ok,fun _ _=>rfl,B32_pos,by simp [val]⟩
theorem RMIn.next {xs ys Z zs:List Nat} {i k c:Nat} (h:RMIn xs ys Z zs i k c) (hx:Okl xs) (hy:Okl ys) (hi:i<xs.length) (hk:k≤ys.length) :
    RMIn xs ys Z (zs.set (i+k) ((c+zs.getD (i+k) 0+xs.getD i 0*ys.getD k 0) % B32)) i (k+1) ((c+zs.getD (i+k) 0+xs.getD i 0*ys.getD k 0) / B32):=by
  have hz:=h.same (i+k) (Nat.le_refl _)
  have b1:=hx.getD i
  have b2:=hy.getD k
  have b3:=h.ok.getD (i+k)
  have b4:=h.cb
  have heq:=h.eq
  have hlen:=h.len
  have hdm:=Nat.mod_add_div (c+zs.getD (i+k) 0+xs.getD i 0*ys.getD k 0) B32
  have hq:(c+zs.getD (i+k) 0+xs.getD i 0*ys.getD k 0) / B32<B32:=by
    rw [Nat.div_lt_iff_lt_mul B32_pos]
    have h1:xs.getD i 0*ys.getD k 0≤(B32 - 1)*(B32 - 1):=Nat.mul_le_mul (by omega) (by omega)
    rw [B32_eq] at *
    omega
  refine ⟨by rw [List.length_set];exact hlen,h.ok.set _ _ (Nat.mod_lt _ B32_pos),fun j hj=>by rw [getD_set_other _ _ _ _ (by omega)];exact h.same j (by omega),hq,?_⟩
  rw [show i+(k+1)=i+k+1 by omega,val_set_take _ _ _ (by omega),val_take_getD Z,← hz,val_take_getD ys,Nat.pow_succ]
  generalize zs.getD (i+k) 0=z at *
  generalize xs.getD i 0=x at *
  generalize ys.getD k 0=y at *
  generalize (c+z+x*y) % B32=s at *
  generalize (c+z+x*y) / B32=q at *
  have hp:B32 ^ (i+k)=B32 ^ i*B32 ^ k:=Nat.pow_add _ _ _
  generalize val (zs.take (i+k))=V at *
  generalize val (Z.take (i+k))=W at *
  generalize val (ys.take k)=Y at *
  generalize B32 ^ i=I at *
  generalize B32 ^ k=K at *
  generalize B32=B at *
  rw [hp] at heq ⊢
  have h3:I*K*(s+B*q)=I*K*(c+z+x*y):=by rw [hdm]
  grind
theorem RMIn.done {xs ys Z zs:List Nat} {i c:Nat} (h:RMIn xs ys Z zs i (ys.length+1) c) (h0:RMOut xs ys Z i) (hx:Okl xs) (hy:Okl ys) (hi:i<xs.length):RMOut xs ys zs (i+1):=by
  have heq:=h.eq
  have e1:val (Z.take (i+(ys.length+1)))=val (Z.take (i+ys.length)):=by
    rw [show i+(ys.length+1)=i+ys.length+1 by omega,val_take_getD,h0.zero _ (Nat.le_refl _)];simp
  rw [e1,h0.eq,List.take_of_length_le (show ys.length≤ys.length+1 by omega)] at heq
  have e2:val (xs.take i)*val ys+B32 ^ i*(xs.getD i 0*val ys)=val (xs.take (i+1))*val ys:=by
    rw [val_take_getD xs i];grind
  rw [e2] at heq
  have h1:=val_lt (hx.take (i+1))
  rw [List.length_take,Nat.min_eq_left (by omega)] at h1
  have h2:=val_lt hy
  have h3:val (xs.take (i+1))*val ys<B32 ^ (i+(ys.length+1)):=by
    rw [show i+(ys.length+1)=(i+1)+ys.length by omega,Nat.pow_add]
    exact Nat.mul_lt_mul'' h1 h2
  have hc:c=0:=by
    rcases Nat.eq_zero_or_pos c with h4 | h4
    · exact h4
    · have:=Nat.le_mul_of_pos_right (B32 ^ (i+(ys.length+1))) h4
      omega
  rw [hc,Nat.mul_zero,Nat.add_zero] at heq
  refine ⟨h.len,h.ok,fun j hj=>?_,by rw [show i+1+ys.length=i+(ys.length+1) by omega];exact heq⟩
  rw [h.same j (by omega)];exact h0.zero j (by omega)
theorem RMOut.done {xs ys zs:List Nat} (h:RMOut xs ys zs xs.length):val zs=val xs*val ys:=by
  have h1:=h.eq
  rw [List.take_of_length_le (Nat.le_refl xs.length)] at h1
  have h2:=val_take_getD zs (xs.length+ys.length)
  rw [h.zero _ (Nat.le_refl _),List.take_of_length_le (by rw [h.len];exact Nat.le_refl _),h1] at h2
  simpa using h2
def RSInv (xs ys zs:List Nat) (k c:Nat):Prop:=zs.length=k∧Okl zs∧c≤1∧val (xs.take k)+B32 ^ k*c=val zs+val (ys.take k)
theorem RSInv.start (xs ys:List Nat):RSInv xs ys [] 0 0:=⟨rfl,Okl.nil,by omega,by simp [val]⟩
theorem RSInv.next {xs ys zs:List Nat} {k c d b:Nat} (h:RSInv xs ys zs k c) (hd:d<B32) (hb:b≤1) (he:xs.getD k 0+B32*b=d+ys.getD k 0+c):RSInv xs ys (zs++[d]) (k+1) b:=by
  obtain ⟨h1,h2,h3,h4⟩:=h
  refine ⟨by simp [h1],h2.append (Okl.cons hd Okl.nil),hb,?_⟩
  rw [val_take_getD xs,val_take_getD ys,val_append,h1,Nat.pow_succ]
  have e:val [d]=d:=by simp [val]
  rw [e]
  generalize xs.getD k 0=x at *
  generalize ys.getD k 0=y at *
  generalize B32 ^ k=P at *
  generalize B32=B at *
  have h5:P*(x+B*b)=P*(d+y+c):=by rw [he]
  grind
theorem RSInv.done {xs ys zs:List Nat} {c:Nat} (h:RSInv xs ys zs xs.length c) (hx:Okl xs) (hy:Okl ys) (hle:val ys≤val xs):val zs=val xs - val ys:=by
  obtain ⟨h1,h2,h3,h4⟩:=h
  rw [List.take_of_length_le (Nat.le_refl _)] at h4
  have b1:=val_lt hx
  have b2:=val_lt h2
  rw [h1] at b2
  have e:val (ys.take xs.length)=val ys:=by
    by_cases hl:xs.length≤ys.length
    · have:=val_take_drop ys xs.length hl
      have h6:val (ys.drop xs.length)=0:=by
        rcases Nat.eq_zero_or_pos (val (ys.drop xs.length)) with h7 | h7
        · exact h7
        · have:=Nat.le_mul_of_pos_right (B32 ^ xs.length) h7
          omega
      rw [h6,Nat.mul_zero,Nat.add_zero] at this
      exact this.symm
    · rw [List.take_of_length_le (by omega)]
  rw [e] at h4
  rcases Nat.eq_zero_or_pos c with h0 | h0
  · subst h0;rw [Nat.mul_zero,Nat.add_zero] at h4;omega
  · obtain rfl:c=1:=by omega
    rw [Nat.mul_one] at h4
    omega
theorem bit_limb {xs:List Nat} (ho:Okl xs) (j:Nat):xs.getD (j / 32) 0 / 2 ^ (j % 32) % 2=val xs / 2 ^ j % 2:=by
  have hj:j=32*(j / 32)+j % 32:=by omega
  have hr:j % 32<32:=by omega
  generalize j / 32=q at *
  generalize j % 32=r at *
  subst hj
  have hB:B32 ^ q=2 ^ (32*q):=by rw [Nat.pow_mul];rfl
  have e:val xs / 2 ^ (32*q)=val (xs.drop q):=by
    by_cases h:q≤xs.length
    · rw [← hB,val_take_drop xs q h,Nat.add_mul_div_left _ _ (Nat.pow_pos B32_pos),Nat.div_eq_of_lt,Nat.zero_add]
      have:=val_lt (ho.take q)
      rwa [List.length_take,Nat.min_eq_left h] at this
    · rw [List.drop_of_length_le (by omega),← hB]
      show _=0
      exact Nat.div_eq_of_lt (Nat.lt_of_lt_of_le (val_lt ho) (Nat.pow_le_pow_right B32_pos (by omega)))
  rw [Nat.pow_add,← Nat.div_div_eq_div_mul,e]
  by_cases h:q<xs.length
  · have:xs.drop q=xs.getD q 0::xs.drop (q+1):=by
      rw [List.drop_eq_getElem_cons h];simp [List.getD,h]
    rw [this]
    simp only [val]
    generalize val (xs.drop (q+1))=V
    generalize xs.getD q 0=x
    have e2:B32=2 ^ r*(2*2 ^ (31 - r)):=by
      have:r+(1+(31 - r))=32:=by omega
      rw [show (2:Nat)*2 ^ (31 - r)=2 ^ (1+(31 - r)) by rw [Nat.pow_add],← Nat.pow_add,this];rfl
    rw [e2,Nat.mul_assoc,Nat.add_mul_div_left _ _ (Nat.pow_pos (by decide)),Nat.mul_assoc,Nat.add_mul_mod_self_left]
  · rw [getD_out (by omega),List.drop_of_length_le (by omega)]
    simp [val]
structure RHInv (xs zs:List Nat) (n i:Nat):Prop where
  len:zs.length=xs.length+n / 32+1
  ok:Okl zs
  zero:∀ j,n / 32+i<j→zs.getD j 0=0
  lt:zs.getD (n / 32+i) 0<2 ^ (n % 32)
  eq:val (zs.take (n / 32+i))+B32 ^ (n / 32+i)*zs.getD (n / 32+i) 0=val (xs.take i)*2 ^ n
theorem RHInv.start (xs:List Nat) (n:Nat):RHInv xs (List.replicate (xs.length+n / 32+1) 0) n 0:=by
  have h:∀ j,(List.replicate (xs.length+n / 32+1) 0).getD j 0=0:=fun j=>by simp [List.getD,List.getElem?_replicate];split <;> rfl
  refine ⟨by simp,Okl.replicate _,fun j _=>h j,by rw [h];exact Nat.pow_pos (by decide),?_⟩
  rw [h,List.take_replicate,val_replicate];simp [val]
theorem two_split (n:Nat):B32 ^ (n / 32)*2 ^ (n % 32)=2 ^ n:=by
  have e:B32 ^ (n / 32)=2 ^ (32*(n / 32)):=by rw [Nat.pow_mul];rfl
  rw [e,← Nat.pow_add,Nat.div_add_mod]
theorem RHInv.next {xs zs:List Nat} {n i x z S:Nat} (h:RHInv xs zs n i) (hx:Okl xs) (hi:i<xs.length) (hxx:xs.getD i 0=x) (hz:zs.getD (n / 32+i) 0=z) (hS:S=x*2 ^ (n % 32)) (hb:z+S % B32<B32) :
    RHInv xs ((zs.set (n / 32+i) (z+S % B32)).set (n / 32+i+1) (S / B32)) n (i+1):=by
  have hlen:=h.len
  have heq:=h.eq
  have hxb:=hx.getD i
  rw [hxx] at hxb
  rw [hz] at heq
  have hq:S / B32<2 ^ (n % 32):=by
    rw [Nat.div_lt_iff_lt_mul B32_pos,hS,Nat.mul_comm]
    exact Nat.mul_lt_mul_of_pos_left hxb (Nat.pow_pos (by decide))
  have hr:2 ^ (n % 32)≤B32:=by
    have:2 ^ (n % 32)≤2 ^ 32:=Nat.pow_le_pow_right (by decide) (by omega)
    exact this
  have hl1:(zs.set (n / 32+i) (z+S % B32)).length=zs.length:=List.length_set
  refine ⟨by rw [List.length_set,hl1];exact hlen,(h.ok.set _ _ hb).set _ _ (by omega),fun j hj=>?_,?_,?_⟩
  · rw [getD_set_other _ _ _ _ (by omega),getD_set_other _ _ _ _ (by omega)];exact h.zero j (by omega)
  · rw [show n / 32+(i+1)=n / 32+i+1 by omega,getD_set_same _ _ _ (by omega)];exact hq
  · rw [show n / 32+(i+1)=n / 32+i+1 by omega,getD_set_same _ _ _ (by omega),List.take_set_of_le (Nat.le_refl _),val_set_take _ _ _ (by omega),val_take_getD xs i,hxx,Nat.pow_succ]
    have hdm:=Nat.mod_add_div S B32
    have h2:=two_split n
    have hp:B32 ^ (n / 32+i)=B32 ^ (n / 32)*B32 ^ i:=Nat.pow_add _ _ _
    rw [hp] at heq ⊢
    generalize val (zs.take (n / 32+i))=V at *
    generalize val (xs.take i)=X at *
    generalize B32 ^ (n / 32)=Q at *
    generalize B32 ^ i=I at *
    generalize 2 ^ (n % 32)=R at *
    generalize 2 ^ n=T at *
    generalize S % B32=s at *
    generalize S / B32=q at *
    generalize B32=B at *
    subst h2
    have h3:Q*I*(s+B*q)=Q*I*(x*R):=by rw [hdm,hS]
    grind
theorem RHInv.done {xs zs:List Nat} {n:Nat} (h:RHInv xs zs n xs.length):val zs=val xs*2 ^ n:=by
  have h1:=h.eq
  rw [List.take_of_length_le (Nat.le_refl xs.length),← val_take_getD,List.take_of_length_le (by rw [h.len];omega)] at h1
  exact h1
theorem refNorm_own {B:Nat} {v:Value} {zs:List Nat} {w0 w:World} (h:Own B w v zs) (hb:Below B w0 w) (hB:B=w0.heap.size) (hl:zs.length≤100000000) :
    Calls Tryz.prog 60 #[v] w (Gives (val zs) w0):=by
  obtain ⟨ad,cap,rfl,hc,hr,_⟩:=h.view
  refine (refNorm_any ad zs.length cap zs w rfl hc hl h.1 hr).mono ?_
  rintro e w' ⟨v',rfl,ho,hb2⟩
  subst hB
  exact ⟨v',rfl,ho.mono hb.size,hb.trans (hb2.mono hb.size)⟩
theorem limb_keep (ad:Option Addr) (n cap:Nat) (xs:List Nat) (i:Nat) (w:World) (hn:xs.length=n) (hcap:n≤cap) (hm:n≤1000000000) (hi:i≤1000000000) (ho:Okl xs) (hr:Rd w ad xs) :
    Calls Tryz.prog 59 #[.slice ad n cap,.int .i64 (i:Int)] w fun e w'=>e=.returned (.int .u64 ((xs.getD i 0:Nat):Int))∧w=w' :=
  (limb_any ad n cap xs i w hn hcap hm hi ho hr).mono fun _ _ ⟨h1,h2⟩=>⟨h1,h2.symm⟩
def AddRel (G m:Nat) (xs ys:List Nat) (w:World) (g:Nat) (l c i:Value) (wr:World):Prop :=
  ∃ (k cy:Nat) (zs:List Nat),m+1 - k≤g∧k≤m+1∧i=.int .i64 (k:Int)∧c=.int .u64 (cy:Int)∧RAInv xs ys zs k cy∧Own G wr l zs∧Below G w wr
theorem refAdd_any (ad:Option Addr) (n cap:Nat) (xs:List Nat) (ad':Option Addr) (n' cap':Nat) (ys:List Nat) (w:World) (hn:xs.length=n) (hcap:n≤cap) (hm:n≤1000000) (ho:Okl xs) (hr:Rd w ad xs)
    (hn':ys.length=n') (hcap':n'≤cap') (hm':n'≤1000000) (ho':Okl ys) (hr':Rd w ad' ys) :
    Calls Tryz.prog 29 #[.slice ad n cap,.slice ad' n' cap'] w (Gives (val xs+val ys) w):=by
  have KA:=Lib.hid (fun (i:Nat) W (hi:i≤1000000000) (h:Below w.heap.size w W)=>limb_keep ad n cap xs i W hn hcap (by omega) hi ho (hr.below h))
  have KB:=Lib.hid (fun (i:Nat) W (hi:i≤1000000000) (h:Below w.heap.size w W)=>limb_keep ad' n' cap' ys i W hn' hcap' (by omega) hi ho' (hr'.below h))
  obtain ⟨m,hmm⟩:∃ m,max n n'=m:=⟨_,rfl⟩
  have hmz:max (n:Int) (n':Int)=(m:Int):=by omega
  have hl1:=Lib.hid (show xs.length≤m by omega)
  have hl2:=Lib.hid (show ys.length≤m by omega)
  have hmb:m≤1000000:=by omega
  have HO:=Lib.hid ho;have HO':=Lib.hid ho'
  clear hn hn' hmm ho ho' hr hr'
  have HST:=Lib.hid (show AddRel w.heap.size m xs ys w (m+1) (.slice none 0 0) (.int .u64 0) (.int .i64 0) w from ⟨0,0,[],by omega,by omega,rfl,rfl,RAInv.start xs ys,Own.nil _ _,Below.refl _ _⟩)
  have HUN:=Lib.hid (fun W (h:Below w.heap.size w W)=>h.size)
  generalize hB:w.heap.size=B at *
  have HB:=Lib.hid hB;clear hB
  go_enter Tryz.func29,Tryz.ntmps29
  go_wp2
  go_loopg [5,6,7] (m+1) (fun g l c i wr=>AddRel B m xs ys w g l c i wr)
  case atStart=>exact HST.out
  case round =>
    obtain ⟨k,cy,zs,hk,hkm,rfl,rfl,hinv,hown,hb⟩:=hrel
    have hcy:cy≤1:=hinv.2.2.1
    have hzl:=Lib.hid hinv.1
    have HI:=Lib.hid hinv;have HOW:=Lib.hid hown;have HBL:=Lib.hid hb
    clear hinv hown hb
    by_cases hp:k≤m
    · obtain ⟨g,rfl⟩:∃ g,gk=g+1:=⟨gk - 1,by omega⟩
      have hx:xs.getD k 0<4294967296:=HO.out.getD k
      have hy:ys.getD k 0<4294967296:=HO'.out.getD k
      have K1:=Lib.hid (KA.out k wr (by omega) HBL.out)
      have K2:=Lib.hid (KB.out k wr (by omega) HBL.out)
      have HN:=Lib.hid (HI.out.next HO.out HO'.out)
      generalize xs.getD k 0=x at *
      generalize ys.getD k 0=y at *
      have hpz:(k:Int)≤(m:Int):=by omega
      go_wp2_with fail
      refine K1.out.mono ?_
      rintro e w' ⟨rfl,rfl⟩
      go_wp2_with fail
      refine K2.out.mono ?_
      rintro e w' ⟨rfl,rfl⟩
      have hsum:(cy+x+y) % 4294967296<B32:=by rw [B32_eq];omega
      go_wp2_with (at_builtin;refine wpl_append rfl _ _ rfl B _ zs rfl (HOW.out.below ((Below.refl _ _).alloc (Nat.le_refl _) _)) ⟨wr.heap.size,0,none⟩ 1 ((cy+x+y) % 4294967296) rfl hsum ?hcell ?hlen ?hbase ?_)
      case hcell=>simp
      case hlen=>rw [hzl.out];omega
      case hbase=>have:=HUN.out _ HBL.out;simp;omega
      intro v' w4 ho4 hb4 _
      have hb5:=HBL.out.trans (((Below.refl B wr).alloc (HUN.out _ HBL.out) (.cells #[.int .u32 (((cy+x+y) % 4294967296:Nat):Int)] 51)).trans hb4)
      have HO4:=Lib.hid ho4;have HB5:=Lib.hid hb5
      clear ho4 hb4 hb5
      go_wp2
      go_roundg g
      case rel=>exact ⟨k+1,(cy+x+y) / 4294967296,zs++[(cy+x+y) % 4294967296],by omega,by omega,by go_num,by first | rfl | (congr 1;omega) | (simp;omega),HN.out,HO4.out,HB5.out⟩
      case measure=>omega
    · have hpz:¬ (k:Int)≤(m:Int):=by omega
      obtain rfl:k=m+1:=by omega
      have hval:=HI.out.done HO.out HO'.out hl1.out hl2.out
      have KN:=Lib.hid (refNorm_own HOW.out HBL.out (by exact HB.out.symm) (by rw [hzl.out];omega))
      rw [hval] at KN
      clear hval
      go_wp2_with fail
      refine KN.out.mono ?_
      rintro e w' hg
      obtain ⟨v,rfl,h1,h2⟩:=hg
      have H1:=Lib.hid h1;have H2:=Lib.hid h2
      clear h1 h2
      go_wp2
      go_ret
      exact ⟨v,rfl,H1.out,H2.out⟩
def SubRel (G m:Nat) (xs ys:List Nat) (w:World) (g:Nat) (l c i:Value) (wr:World):Prop :=
  ∃ (k cy:Nat) (zs:List Nat),m - k≤g∧k≤m∧i=.int .i64 (k:Int)∧c=.int .u64 (cy:Int)∧RSInv xs ys zs k cy∧Own G wr l zs∧Below G w wr
theorem sub_wrap {x y c:Nat} (hx:x<4294967296) (hy:y<4294967296) (hc:c≤1) :
    ∃ D d b:Nat,d<4294967296∧b≤1∧x+4294967296*b=d+y+c∧IntKind.u64.wrap (IntKind.u64.wrap ((x:Int) - (y:Int)) - (c:Int))=(D:Int)∧(D:Int) % 4294967296=(d:Int)∧(D:Int) / 9223372036854775808=(b:Int)∧D<18446744073709551616:=by
  have e:∀ z:Int,IntKind.u64.wrap z=z % 18446744073709551616:=fun z=>by simp [IntKind.wrap,IntKind.bits,IntKind.signed]
  rw [e,e]
  by_cases h:y+c≤x
  · exact ⟨x - (y+c),x - (y+c),0,by omega,by omega,by omega,by omega,by omega,by omega,by omega⟩
  · exact ⟨x+18446744073709551616 - (y+c),x+4294967296 - (y+c),1,by omega,by omega,by omega,by omega,by omega,by omega,by omega⟩
theorem refSub_any (ad:Option Addr) (n cap:Nat) (xs:List Nat) (ad':Option Addr) (n' cap':Nat) (ys:List Nat) (w:World) (hn:xs.length=n) (hcap:n≤cap) (hm:n≤1000000) (ho:Okl xs) (hr:Rd w ad xs)
    (hn':ys.length=n') (hcap':n'≤cap') (hm':n'≤1000000) (ho':Okl ys) (hr':Rd w ad' ys) :
    Calls Tryz.prog 30 #[.slice ad n cap,.slice ad' n' cap'] w (Gives (val xs - val ys) w):=by
  have KC:=Lib.hid (refCmp_any ad n cap xs ad' n' cap' ys w hn hcap (by omega) ho hr hn' hcap' (by omega) ho' hr')
  have KA:=Lib.hid (fun (i:Nat) W (hi:i≤1000000000) (h:Below w.heap.size w W)=>limb_keep ad n cap xs i W hn hcap (by omega) hi ho (hr.below h))
  have KB:=Lib.hid (fun (i:Nat) W (hi:i≤1000000000) (h:Below w.heap.size w W)=>limb_keep ad' n' cap' ys i W hn' hcap' (by omega) hi ho' (hr'.below h))
  have HO:=Lib.hid ho;have HO':=Lib.hid ho'
  have HN:=Lib.hid hn
  unfold CmpPost at KC
  clear hn hn' ho ho' hr hr'
  by_cases hlt:val xs<val ys
  · rw [cmpN_lt hlt] at KC
    have h0:val xs - val ys=0:=by omega
    rw [h0]
    clear hlt h0
    go_enter Tryz.func30,Tryz.ntmps30
    go_wp2_with fail
    refine KC.out.mono ?_
    rintro e w' ⟨rfl,q,rfl⟩
    go_wp2
    go_ret
    exact ⟨_,rfl,by rw [limbs_zero];exact Own.nil _ _,below_drewN' (Below.refl _ _) q⟩
  · have hc0:decide (cmpN (val xs) (val ys)<0)=false:=by
      rcases Nat.lt_or_ge (val ys) (val xs) with h | h
      · rw [cmpN_gt h];decide
      · rw [show val xs=val ys by omega,cmpN_eq];decide
    have HLE:=Lib.hid (show val ys≤val xs by omega)
    generalize cmpN (val xs) (val ys)=cv at *
    clear hlt
    go_enter Tryz.func30,Tryz.ntmps30
    go_wp2_with fail
    refine KC.out.mono ?_
    rintro e w' ⟨rfl,q,rfl⟩
    have HST:=Lib.hid (show SubRel w.heap.size n xs ys w n (.slice none 0 0) (.int .u64 0) (.int .i64 0) (w.drewN q) from ⟨0,0,[],by omega,by omega,rfl,rfl,RSInv.start xs ys,Own.nil _ _,below_drewN' (Below.refl _ _) q⟩)
    have HUN:=Lib.hid (fun W (h:Below w.heap.size w W)=>h.size)
    generalize hB:w.heap.size=B at *
    have HB:=Lib.hid hB;clear hB
    go_wp2
    go_loopg [5,6,7] n (fun g l c i wr=>SubRel B n xs ys w g l c i wr)
    case atStart=>exact HST.out
    case round =>
      obtain ⟨k,cy,zs,hk,hkm,rfl,rfl,hinv,hown,hb⟩:=hrel
      have hcy:cy≤1:=hinv.2.2.1
      have hzl:=Lib.hid hinv.1
      have HI:=Lib.hid hinv;have HOW:=Lib.hid hown;have HBL:=Lib.hid hb
      clear hinv hown hb
      by_cases hp:k<n
      · obtain ⟨g,rfl⟩:∃ g,gk=g+1:=⟨gk - 1,by omega⟩
        have hx:xs.getD k 0<4294967296:=HO.out.getD k
        have hy:ys.getD k 0<4294967296:=HO'.out.getD k
        have K1:=Lib.hid (KA.out k wr (by omega) HBL.out)
        have K2:=Lib.hid (KB.out k wr (by omega) HBL.out)
        obtain ⟨D,d,b,hd,hbb,he,hw,hDm,hDq,hDl⟩:=sub_wrap hx hy hcy
        have HNX:=Lib.hid (HI.out.next (d:=d) (b:=b) (by rw [B32_eq];exact hd) hbb (by rw [B32_eq];exact he))
        generalize xs.getD k 0=x at *
        generalize ys.getD k 0=y at *
        have hpz:(k:Int)<(n:Int):=by omega
        clear he
        go_wp2_with fail
        refine K1.out.mono ?_
        rintro e w' ⟨rfl,rfl⟩
        go_wp2_with fail
        refine K2.out.mono ?_
        rintro e w' ⟨rfl,rfl⟩
        go_wp2_with (at_builtin;refine wpl_append rfl _ _ rfl B _ zs rfl (HOW.out.below ((Below.refl _ _).alloc (Nat.le_refl _) _)) ⟨wr.heap.size,0,none⟩ 1 d rfl (by rw [B32_eq];exact hd) ?hcell ?hlen ?hbase ?_)
        case hcell=>simp
        case hlen=>rw [hzl.out];omega
        case hbase=>have:=HUN.out _ HBL.out;simp;omega
        intro v' w4 ho4 hb4 _
        have hb5:=HBL.out.trans (((Below.refl B wr).alloc (HUN.out _ HBL.out) (.cells #[.int .u32 (d:Int)] 51)).trans hb4)
        have HO4:=Lib.hid ho4;have HB5:=Lib.hid hb5
        clear ho4 hb4 hb5
        go_wp2
        go_roundg g
        case rel=>exact ⟨k+1,b,zs++[d],by omega,by omega,by go_num,rfl,HNX.out,HO4.out,HB5.out⟩
        case measure=>omega
      · have hpz:¬ (k:Int)<(n:Int):=by omega
        obtain rfl:k=n:=by omega
        have hval:=RSInv.done (HN.out ▸ HI.out:RSInv xs ys zs xs.length cy) HO.out HO'.out HLE.out
        have KN:=Lib.hid (refNorm_own HOW.out HBL.out (by exact HB.out.symm) (by rw [hzl.out];omega))
        rw [hval] at KN
        clear hval
        go_wp2_with fail
        refine KN.out.mono ?_
        rintro e w' hg
        obtain ⟨v,rfl,h1,h2⟩:=hg
        have H1:=Lib.hid h1;have H2:=Lib.hid h2
        clear h1 h2
        go_wp2
        go_ret
        exact ⟨v,rfl,H1.out,H2.out⟩

theorem bits_is {N j:Nat} (h1:2 ^ j≤N) (h2:N<2 ^ (j+1)):bitsN N=j+1:=by
  have h0:N ≠ 0:=by have:=Nat.pow_pos (show 0<2 by decide) (n:=j);omega
  obtain ⟨t,e,b1,b2⟩:=bitsN_bounds h0
  rw [e]
  have:t=j:=by
    rcases Nat.lt_trichotomy t j with h | h | h
    · have:=Nat.pow_le_pow_right (show 0<2 by decide) (show t+1≤j by omega);omega
    · exact h
    · have:=Nat.pow_le_pow_right (show 0<2 by decide) (show j+1≤t by omega);omega
  omega
theorem bit_low {N j:Nat} (h:N<2 ^ (j+1)) (hb:N / 2 ^ j % 2=0):N<2 ^ j:=by
  have h1:N / 2 ^ j<2:=by
    rw [Nat.div_lt_iff_lt_mul (Nat.pow_pos (by decide))];rw [Nat.pow_succ,Nat.mul_comm] at h;exact h
  have h2:N / 2 ^ j=0:=by
    generalize N / 2 ^ j=q at *
    omega
  rcases Nat.div_eq_zero_iff.1 h2 with h3 | h3
  · have:=Nat.pow_pos (show 0<2 by decide) (n:=j);omega
  · exact h3
theorem bit_high {N j:Nat} (hb:N / 2 ^ j % 2=1):2 ^ j≤N:=by
  rcases Nat.lt_or_ge N (2 ^ j) with h | h
  · rw [Nat.div_eq_of_lt h] at hb;simp at hb
  · exact h
theorem bits_none {N:Nat} (h:N<2 ^ 0):bitsN N=0:=by
  have:N=0:=by simpa using h
  subst this;exact bitsN_z
theorem and_oneb (x R:Nat) (hx:x<4294967296):bits .and .u32 ((x:Int) / 2 ^ R) 1=((x / 2 ^ R % 2:Nat):Int):=by
  have e:((x:Int) / 2 ^ R)=((x / 2 ^ R:Nat):Int):=by simp
  have h:=u32_and_nat (x / 2 ^ R) 1 (Nat.lt_of_le_of_lt (Nat.div_le_self _ _) hx) (by omega)
  rw [e]
  rw [Nat.and_one_is_mod] at h
  exact h
def BtRel (N c:Nat) (w:World) (g:Nat) (n:Value) (wr:World):Prop:=∃ j,j≤g∧j≤32*c∧n=.int .i64 ((j:Nat):Int)∧N<2 ^ j∧wr=w
theorem refBits_any (ad:Option Addr) (n cap:Nat) (xs:List Nat) (w:World) (hn:xs.length=n) (hcap:n≤cap) (hm:n≤1000000) (ho:Okl xs) (hr:Rd w ad xs) :
    Calls Tryz.prog 31 #[.slice ad n cap] w fun e w'=>e=.returned (.int .i64 ((bitsN (val xs):Nat):Int))∧Below w.heap.size w w':=by
  have KN:=Lib.hid (refNorm_any ad n cap xs w hn hcap (by omega) ho hr)
  have hll:=limbs_len_le ho
  have hpw:=limbs_lt_pow (val xs)
  rw [hn] at hll
  generalize val xs=N at *
  clear hn ho hr
  go_enter Tryz.func31,Tryz.ntmps31
  go_wp2_with fail
  refine KN.out.mono ?_
  rintro e w1 hg
  obtain ⟨v,rfl,hown,hb⟩:=hg
  obtain ⟨ad1,cap1,rfl,hc1,hr1,_⟩:=hown.view
  have HR1:=Lib.hid hr1;have HB:=Lib.hid hb
  have hbit:=Lib.hid (fun j=>by have:=bit_limb (limbs_ok N) j;rwa [val_limbs] at this:∀ j,(limbs N).getD (j / 32) 0 / 2 ^ (j % 32) % 2=N / 2 ^ j % 2)
  have hlx:=Lib.hid (limbs_ok N)
  have hpw2:N<2 ^ (32*(limbs N).length):=by
    have e:B32 ^ (limbs N).length=2 ^ (32*(limbs N).length):=by rw [Nat.pow_mul];rfl
    rw [← e];exact hpw
  have HP:=Lib.hid hpw2
  clear hown hb hr1 hpw hpw2
  generalize hL:limbs N=L at *
  have HL:=Lib.hid hL;clear hL
  generalize hc:L.length=c at *
  have HC:=Lib.hid hc;clear hc
  go_wp2
  go_loopg [4] (32*c) (fun g n wr=>BtRel N c w1 g n wr)
  case atStart=>exact ⟨32*c,by omega,by omega,by go_num,HP.out,rfl⟩
  case round =>
    obtain ⟨j,hk,hj,rfl,hlt,rfl⟩:=hrel
    have HLT:=Lib.hid hlt;clear hlt
    rcases j with _ | j
    · have h0:¬ (0:Int)<((0:Nat):Int):=by omega
      have HZ:=Lib.hid (bits_none HLT.out)
      go_wp2
      go_ret
      exact ⟨by rw [HZ.out];rfl,HB.out⟩
    · obtain ⟨g,rfl⟩:∃ g,gk=g+1:=⟨gk - 1,by omega⟩
      obtain ⟨b1,o1,hd1,_,cc⟩:=HR1.out (j / 32) (by rw [HC.out];omega)
      subst hd1
      have hx:L.getD (j / 32) 0<4294967296:=hlx.out.getD _
      have hbj:=hbit.out j
      have hq0:(j:Int) / 32=((j / 32:Nat):Int):=by omega
      have hr0:(j:Int) % 32=((j % 32:Nat):Int):=by omega
      have hqb:j / 32<c:=by omega
      have hrb:j % 32<32:=by omega
      rw [show ((j+1:Nat):Int)=(j:Int)+1 by omega]
      generalize L.getD (j / 32) 0=x at *
      generalize j / 32=Q at *
      generalize j % 32=R at *
      have hand:=and_oneb x R hx
      generalize hbt:x / 2 ^ R % 2=bt at *
      have hb2:bt=0∨bt=1:=by rw [← hbt];omega
      have HBJ:=Lib.hid hbj
      clear hbj hbt
      rcases hb2 with rfl | rfl
      · have HLO:=Lib.hid (bit_low HLT.out HBJ.out.symm)
        go_wp2
        go_roundg g
        case rel=>exact ⟨j,by omega,by omega,rfl,HLO.out,rfl⟩
        case measure=>omega
      · have HHI:=Lib.hid (bits_is (bit_high HBJ.out.symm) HLT.out)
        go_wp2
        go_ret
        exact ⟨by rw [HHI.out];rfl,HB.out⟩
end Go.Proofs.YtnacbakcalcgaaaGreatDoor
namespace Go.Proofs.YtnacbakcalcgaaaGreatDoor
open Go.RowKit Go.Lib Go.Sort
def edgeP (k:Nat):List Nat:=(List.replicate 4 0).set (k / 32) (2 ^ (k % 32))
theorem edgeP_val (k:Nat) (h:k<70):val (edgeP k)=2 ^ k:=by
  obtain ⟨q,r,hq,hr,hk⟩:∃ q r,q<3∧r<32∧k=32*q+r:=⟨k / 32,k % 32,by omega,by omega,by omega⟩
  have e1:k / 32=q:=by omega
  have e2:k % 32=r:=by omega
  unfold edgeP
  rw [e1,e2,hk,Nat.pow_add]
  have:q=0∨q=1∨q=2:=by omega
  rcases this with rfl | rfl | rfl <;> simp [val,B32_eq,List.replicate] <;> omega
theorem edgeP_ok (k:Nat):Okl (edgeP k):=by
  intro x hx
  unfold edgeP at hx
  rcases List.mem_or_eq_of_mem_set hx with h | rfl
  · rw [List.eq_of_mem_replicate h];exact B32_pos
  · rw [B32_eq,show (4294967296:Nat)=2 ^ 32 by decide]
    exact Nat.pow_lt_pow_right (by decide) (Nat.mod_lt _ (by decide))
theorem edgeP_len (k:Nat):(edgeP k).length=4:=by unfold edgeP;rw [List.length_set,List.length_replicate]
theorem trimK_lt {N b:Nat} (h0:N ≠ 0) (h:N<2 ^ b):trimK N<b:=by
  have hs:=(trim_spec h0).1
  have hm:trimM N ≠ 0:=by intro e;rw [e,Nat.zero_mul] at hs;exact h0 hs
  refine Nat.lt_of_not_le fun hb=>?_
  have h1:2 ^ b≤2 ^ trimK N:=Nat.pow_le_pow_right (by decide) hb
  have h2:2 ^ trimK N≤tenN (trimK N):=Nat.pow_le_pow_left (by decide) _
  have h3:tenN (trimK N)≤trimM N*tenN (trimK N):=Nat.le_mul_of_pos_left _ (Nat.pos_of_ne_zero hm)
  omega
theorem mkN_80 (ng:Bool) {N:Nat} (h:N<2 ^ 80):∃ r,mkN ng N 0=some r:=by
  unfold mkN
  by_cases h0:N=0
  · rw [if_pos h0];exact ⟨_,rfl⟩
  · have h1:=trimK_lt h0 h
    have h2:trimM N≤N:=by unfold trimM;exact Nat.div_le_self _ _
    have h3:(limbs (trimM N)).length≤3:=limbs_length_le (Nat.lt_of_le_of_lt h2 (Nat.lt_trans h (by rw [B32_eq];decide)))
    rw [if_neg h0,if_pos ⟨by omega,by omega,by omega⟩]
    exact ⟨_,rfl⟩
theorem refMake_80 {w0 w:World} {l:List Ent} {v:Value} {L N:Nat} {xs:List Nat} (h:Ctx w0 w l) (i:Nat) (hi:l[i]? = some ⟨v,L,N,xs⟩) (hL:L≤1000000) (neg:Bool) (hN:N<2 ^ 80) {r:Bool × Nat × Int} (hr:mkN neg N 0=some r) :
    Calls Tryz.prog 28 #[.bool neg,v,.int .i64 0] w (MadePost w0 l L r.1 r.2.1 r.2.2 true):=by
  unfold mkN at hr
  split at hr
  · rename_i h0
    cases hr
    subst h0
    exact refMake_zero h i hi hL neg 0
  · rename_i h0
    split at hr
    · rename_i hb
      cases hr
      have hs:=trim_spec h0
      exact refMake_yes h i hi hL neg 0 (trimM N) (trimK N) hs.1 hs.2 hb.1 _ rfl hb.2.1 hb.2.2
    · cases hr
theorem bnum_bare {neg:Bool} {ad:Option Addr} {n cap:Nat} {e:Int} {xs:List Nat} {u:MT} (h:u.bare=numT neg none xs.length 0 e xs):u.c.neg=neg∧u.c.mn=xs.length∧u.c.e=e∧u.m=xs:=by
  rw [MT.bare_eq] at h
  unfold numT at h
  injection h with h1 h2 h3 h4
  exact ⟨congrArg Cel.neg h1,congrArg Cel.mn h1,congrArg Cel.e h1,h2⟩
theorem num_check {neg:Bool} {xs:List Nat} {e:Int} {ad:Option Addr} {cap:Nat} (h:chkB neg xs e=true):checkB (numT neg ad xs.length cap e xs)=true:=by
  unfold checkB
  have h1:(numT neg ad xs.length cap e xs).nodes=1:=by rw [MT.nodes_eq];rfl
  have h2:(numT neg ad xs.length cap e xs).pre 1=[(1,numT neg ad xs.length cap e xs)]:=by rw [MT.pre_eq];rfl
  rw [h1,h2]
  have h3:soundB (numT neg ad xs.length cap e xs)=true:=by
    show (chkB neg xs e && _)=true
    rw [h];rfl
  simp [h3]
theorem num_enc {neg:Bool} {xs:List Nat} {e:Int} {ad:Option Addr} {n cap:Nat}:encP (numT neg ad n cap e xs)=numP neg (val xs) e:=by rw [encP_eq];rfl
end Go.Proofs.YtnacbakcalcgaaaGreatDoor
namespace Go.Proofs.YtnacbakcalcgaaaGreatDoor
open Go.Shelf Go.RowKit Go.Lib

end Go.Proofs.YtnacbakcalcgaaaGreatDoor
namespace Go.Proofs.YtnacbakcalcgaaaGreatDoor
open Go.RowKit Go.Sort



end Go.Proofs.YtnacbakcalcgaaaGreatDoor
namespace Go.Proofs.YtnacbakcalcgaaaGreatDoor
open Go.RowKit


end Go.Proofs.YtnacbakcalcgaaaGreatDoor
