/- Texts of the claim. -/
import Derived.Test.YtnacbakcalcgaaaGreatDoorYC
set_option linter.unusedVariables false
set_option linter.unusedSimpArgs false
set_option maxHeartbeats 2000000
set_option maxRecDepth 100000
namespace Go.Proofs.YtnacbakcalcgaaaGreatDoor
open Go.RowKit Go.Sort
theorem is_yes (neg:Bool) (ad:Option Addr) (n cap:Nat) (xs:List Nat) (e:Int) (w:World) (hn:xs.length=n) (hcap:n≤cap) (hm:n≤100000000) (ho:Okl xs) (hr:Rd w ad xs) (h:chkB neg xs e=true) :
    Calls Tryz.prog 76 #[.agg #[.bool neg,.slice ad n cap,.int .i64 e]] w (NumBelow neg (.slice ad n cap) e w):=by
  have hbl:Below w.heap.size w ((w.alloc (.cells #[.bool neg,.slice ad n cap,.int .i64 e] 25)).alloc (.cells #[.bool false,.slice none 0 0,.int .i64 0] 25)):=((Below.refl _ _).alloc (Nat.le_refl _) _).alloc (by simp) _
  have HB:=Lib.hid hbl
  have K:=Lib.hid (refCheck_any neg ad n cap xs e _ hn hcap hm ho (hr.below hbl))
  clear hbl
  have H:=Lib.hid h;clear h
  have HN:=Lib.hid hn;clear hn
  go_enter Tryz.func76,Tryz.ntmps76
  go_wp2_with fail
  refine K.out.mono ?_
  rintro r w' ⟨rfl,hb⟩
  rw [H.out]
  obtain ⟨hc,hf⟩:=bcell hb
  have hz:w.heap.size+1<w'.heap.size:=by have:=hb.size;simp at this;omega
  have HB2:=Lib.hid hb;clear hb
  go_wp2
  have HB3:=HB.out.trans (HB2.out.mono (by simp;omega))
  exact bodyPost_ret (v:=.agg #[.bool neg,.slice ad n cap,.int .i64 e]) (by simp [results,Tryz.results76,go_sem,hc,hf,hz]) rfl ⟨rfl,((HB3.setCell (by simp) _).setCell (by simp) _).setCell (by simp) _⟩


end Go.Proofs.YtnacbakcalcgaaaGreatDoor
namespace Go.Proofs.YtnacbakcalcgaaaGreatDoor
open Go.RowKit
theorem val_take_getD (xs:List Nat) (k:Nat):val (xs.take (k+1))=val (xs.take k)+B32 ^ k*xs.getD k 0:=by
  by_cases h:k<xs.length
  · exact val_take_succ xs k h
  · rw [List.take_of_length_le (by omega),List.take_of_length_le (by omega),getD_out (by omega)];simp
def RAInv (xs ys zs:List Nat) (k c:Nat):Prop:=zs.length=k∧Okl zs∧c≤1∧val zs+B32 ^ k*c=val (xs.take k)+val (ys.take k)
theorem RAInv.next {xs ys zs:List Nat} {k c:Nat} (h:RAInv xs ys zs k c) (hx:Okl xs) (hy:Okl ys) :
    RAInv xs ys (zs++[(c+xs.getD k 0+ys.getD k 0) % 4294967296]) (k+1) ((c+xs.getD k 0+ys.getD k 0) / 4294967296):=by
  obtain ⟨h1,h2,h3,h4⟩:=h
  have b1:=hx.getD k
  have b2:=hy.getD k
  rw [B32_eq] at b1 b2
  refine ⟨by simp [h1],h2.append (Okl.cons (by rw [B32_eq];omega) Okl.nil),by omega,?_⟩
  rw [val_take_getD xs,val_take_getD ys,val_append,h1,Nat.pow_succ]
  generalize xs.getD k 0=x at *
  generalize ys.getD k 0=y at *
  have e:val [(c+x+y) % 4294967296]=(c+x+y) % 4294967296:=by simp [val]
  rw [e,Nat.mul_assoc,Nat.add_assoc,← Nat.mul_add]
  have e2:(c+x+y) % 4294967296+B32*((c+x+y) / 4294967296)=c+x+y:=by rw [B32_eq];omega
  rw [e2,Nat.mul_add,Nat.mul_add]
  generalize B32 ^ k*x=p at *
  generalize B32 ^ k*y=q at *
  generalize B32 ^ k*c=r at *
  omega
theorem RAInv.start (xs ys:List Nat):RAInv xs ys [] 0 0:=⟨rfl,Okl.nil,by omega,by simp [val]⟩
theorem RAInv.done {xs ys zs:List Nat} {m c:Nat} (h:RAInv xs ys zs (m+1) c) (hx:Okl xs) (hy:Okl ys) (h1:xs.length≤m) (h2:ys.length≤m):val zs=val xs+val ys:=by
  obtain ⟨a1,a2,a3,a4⟩:=h
  rw [List.take_of_length_le (by omega),List.take_of_length_le (by omega)] at a4
  have b1:=Nat.lt_of_lt_of_le (val_lt hx) (Nat.pow_le_pow_right (show 0<B32 by decide) h1)
  have b2:=Nat.lt_of_lt_of_le (val_lt hy) (Nat.pow_le_pow_right (show 0<B32 by decide) h2)
  rcases Nat.eq_zero_or_pos c with h0 | h0
  · subst h0;rw [Nat.mul_zero,Nat.add_zero] at a4;exact a4
  · obtain rfl:c=1:=by omega
    rw [Nat.pow_succ] at a4
    generalize B32 ^ m=P at *
    have:P*2≤P*B32:=Nat.mul_le_mul_left _ (by decide)
    omega
theorem getD_set_same (l:List Nat) (i v:Nat) (h:i<l.length):(l.set i v).getD i 0=v:=by simp [List.getD,h]
theorem getD_set_other (l:List Nat) (i j v:Nat) (h:j ≠ i):(l.set i v).getD j 0=l.getD j 0:=by simp [List.getD,List.getElem?_set_ne (Ne.symm h)]
structure RMOut (xs ys zs:List Nat) (i:Nat):Prop where
  len:zs.length=xs.length+ys.length+1
  ok:Okl zs
  zero:∀ j,i+ys.length≤j→zs.getD j 0=0
  eq:val (zs.take (i+ys.length))=val (xs.take i)*val ys
structure RMIn (xs ys Z zs:List Nat) (i k c:Nat):Prop where
  len:zs.length=xs.length+ys.length+1
  ok:Okl zs
  same:∀ j,i+k≤j→zs.getD j 0=Z.getD j 0
  cb:c<B32
  eq:val (zs.take (i+k))+B32 ^ (i+k)*c=val (Z.take (i+k))+B32 ^ i*(xs.getD i 0*val (ys.take k))
theorem RMOut.start (xs ys:List Nat):RMOut xs ys (List.replicate (xs.length+ys.length+1) 0) 0 :=
  ⟨by simp,Okl.replicate _,fun j _=>by simp [List.getD,List.getElem?_replicate];split <;> rfl,by rw [List.take_replicate,val_replicate];simp [val]⟩
theorem RMIn.start {xs ys Z:List Nat} {i:Nat} (h:RMOut xs ys Z i):RMIn xs ys Z Z i 0 0 :=
  ⟨h.len,h.ok,fun _ _=>rfl,B32_pos,by simp [val]⟩
theorem RMIn.next {xs ys Z zs:List Nat} {i k c:Nat} (h:RMIn xs ys Z zs i k c) (hx:Okl xs) (hy:Okl ys) (hi:i<xs.length) (hk:k≤ys.length) :
    RMIn xs ys Z (zs.set (i+k) ((c+zs.getD (i+k) 0+xs.getD i 0*ys.getD k 0) % B32)) i (k+1) ((c+zs.getD (i+k) 0+xs.getD i 0*ys.getD k 0) / B32):=by
  have hz:=h.same (i+k) (Nat.le_refl _)
  have b1:=hx.getD i
  have b2:=hy.getD k
  have b3:=h.ok.getD (i+k)
  have b4:=h.cb
  have heq:=h.eq
  have hlen:=h.len
  have hdm:=Nat.mod_add_div (c+zs.getD (i+k) 0+xs.getD i 0*ys.getD k 0) B32
  have hq:(c+zs.getD (i+k) 0+xs.getD i 0*ys.getD k 0) / B32<B32:=by
    rw [Nat.div_lt_iff_lt_mul B32_pos]
    have h1:xs.getD i 0*ys.getD k 0≤(B32 - 1)*(B32 - 1):=Nat.mul_le_mul (by omega) (by omega)
    rw [B32_eq] at *
    omega
  refine ⟨by rw [List.length_set];exact hlen,h.ok.set _ _ (Nat.mod_lt _ B32_pos),fun j hj=>by rw [getD_set_other _ _ _ _ (by omega)];exact h.same j (by omega),hq,?_⟩
  rw [show i+(k+1)=i+k+1 by omega,val_set_take _ _ _ (by omega),val_take_getD Z,← hz,val_take_getD ys,Nat.pow_succ]
  generalize zs.getD (i+k) 0=z at *
  generalize xs.getD i 0=x at *
  generalize ys.getD k 0=y at *
  generalize (c+z+x*y) % B32=s at *
  generalize (c+z+x*y) / B32=q at *
  have hp:B32 ^ (i+k)=B32 ^ i*B32 ^ k:=Nat.pow_add _ _ _
  generalize val (zs.take (i+k))=V at *
  generalize val (Z.take (i+k))=W at *
  generalize val (ys.take k)=Y at *
  generalize B32 ^ i=I at *
  generalize B32 ^ k=K at *
  generalize B32=B at *
  rw [hp] at heq ⊢
  have h3:I*K*(s+B*q)=I*K*(c+z+x*y):=by rw [hdm]
  grind
theorem RMIn.done {xs ys Z zs:List Nat} {i c:Nat} (h:RMIn xs ys Z zs i (ys.length+1) c) (h0:RMOut xs ys Z i) (hx:Okl xs) (hy:Okl ys) (hi:i<xs.length):RMOut xs ys zs (i+1):=by
  have heq:=h.eq
  have e1:val (Z.take (i+(ys.length+1)))=val (Z.take (i+ys.length)):=by
    rw [show i+(ys.length+1)=i+ys.length+1 by omega,val_take_getD,h0.zero _ (Nat.le_refl _)];simp
  rw [e1,h0.eq,List.take_of_length_le (show ys.length≤ys.length+1 by omega)] at heq
  have e2:val (xs.take i)*val ys+B32 ^ i*(xs.getD i 0*val ys)=val (xs.take (i+1))*val ys:=by
    rw [val_take_getD xs i];grind
  rw [e2] at heq
  have h1:=val_lt (hx.take (i+1))
  rw [List.length_take,Nat.min_eq_left (by omega)] at h1
  have h2:=val_lt hy
  have h3:val (xs.take (i+1))*val ys<B32 ^ (i+(ys.length+1)):=by
    rw [show i+(ys.length+1)=(i+1)+ys.length by omega,Nat.pow_add]
    exact Nat.mul_lt_mul'' h1 h2
  have hc:c=0:=by
    rcases Nat.eq_zero_or_pos c with h4 | h4
    · exact h4
    · have:=Nat.le_mul_of_pos_right (B32 ^ (i+(ys.length+1))) h4
      omega
  rw [hc,Nat.mul_zero,Nat.add_zero] at heq
  refine ⟨h.len,h.ok,fun j hj=>?_,by rw [show i+1+ys.length=i+(ys.length+1) by omega];exact heq⟩
  rw [h.same j (by omega)];exact h0.zero j (by omega)
theorem RMOut.done {xs ys zs:List Nat} (h:RMOut xs ys zs xs.length):val zs=val xs*val ys:=by
  have h1:=h.eq
  rw [List.take_of_length_le (Nat.le_refl xs.length)] at h1
  have h2:=val_take_getD zs (xs.length+ys.length)
  rw [h.zero _ (Nat.le_refl _),List.take_of_length_le (by rw [h.len];exact Nat.le_refl _),h1] at h2
  simpa using h2
def RSInv (xs ys zs:List Nat) (k c:Nat):Prop:=zs.length=k∧Okl zs∧c≤1∧val (xs.take k)+B32 ^ k*c=val zs+val (ys.take k)
theorem RSInv.start (xs ys:List Nat):RSInv xs ys [] 0 0:=⟨rfl,Okl.nil,by omega,by simp [val]⟩
theorem RSInv.next {xs ys zs:List Nat} {k c d b:Nat} (h:RSInv xs ys zs k c) (hd:d<B32) (hb:b≤1) (he:xs.getD k 0+B32*b=d+ys.getD k 0+c):RSInv xs ys (zs++[d]) (k+1) b:=by
  obtain ⟨h1,h2,h3,h4⟩:=h
  refine ⟨by simp [h1],h2.append (Okl.cons hd Okl.nil),hb,?_⟩
  rw [val_take_getD xs,val_take_getD ys,val_append,h1,Nat.pow_succ]
  have e:val [d]=d:=by simp [val]
  rw [e]
  generalize xs.getD k 0=x at *
  generalize ys.getD k 0=y at *
  generalize B32 ^ k=P at *
  generalize B32=B at *
  have h5:P*(x+B*b)=P*(d+y+c):=by rw [he]
  grind
theorem RSInv.done {xs ys zs:List Nat} {c:Nat} (h:RSInv xs ys zs xs.length c) (hx:Okl xs) (hy:Okl ys) (hle:val ys≤val xs):val zs=val xs - val ys:=by
  obtain ⟨h1,h2,h3,h4⟩:=h
  rw [List.take_of_length_le (Nat.le_refl _)] at h4
  have b1:=val_lt hx
  have b2:=val_lt h2
  rw [h1] at b2
  have e:val (ys.take xs.length)=val ys:=by
    by_cases hl:xs.length≤ys.length
    · have:=val_take_drop ys xs.length hl
      have h6:val (ys.drop xs.length)=0:=by
        rcases Nat.eq_zero_or_pos (val (ys.drop xs.length)) with h7 | h7
        · exact h7
        · have:=Nat.le_mul_of_pos_right (B32 ^ xs.length) h7
          omega
      rw [h6,Nat.mul_zero,Nat.add_zero] at this
      exact this.symm
    · rw [List.take_of_length_le (by omega)]
  rw [e] at h4
  rcases Nat.eq_zero_or_pos c with h0 | h0
  · subst h0;rw [Nat.mul_zero,Nat.add_zero] at h4;omega
  · obtain rfl:c=1:=by omega
    rw [Nat.mul_one] at h4
    omega
structure RHInv (xs zs:List Nat) (n i:Nat):Prop where
  len:zs.length=xs.length+n / 32+1
  ok:Okl zs
  zero:∀ j,n / 32+i<j→zs.getD j 0=0
  lt:zs.getD (n / 32+i) 0<2 ^ (n % 32)
  eq:val (zs.take (n / 32+i))+B32 ^ (n / 32+i)*zs.getD (n / 32+i) 0=val (xs.take i)*2 ^ n
theorem RHInv.start (xs:List Nat) (n:Nat):RHInv xs (List.replicate (xs.length+n / 32+1) 0) n 0:=by
  have h:∀ j,(List.replicate (xs.length+n / 32+1) 0).getD j 0=0:=fun j=>by simp [List.getD,List.getElem?_replicate];split <;> rfl
  refine ⟨by simp,Okl.replicate _,fun j _=>h j,by rw [h];exact Nat.pow_pos (by decide),?_⟩
  rw [h,List.take_replicate,val_replicate];simp [val]
theorem two_split (n:Nat):B32 ^ (n / 32)*2 ^ (n % 32)=2 ^ n:=by
  have e:B32 ^ (n / 32)=2 ^ (32*(n / 32)):=by rw [Nat.pow_mul];rfl
  rw [e,← Nat.pow_add,Nat.div_add_mod]
theorem RHInv.next {xs zs:List Nat} {n i x z S:Nat} (h:RHInv xs zs n i) (hx:Okl xs) (hi:i<xs.length) (hxx:xs.getD i 0=x) (hz:zs.getD (n / 32+i) 0=z) (hS:S=x*2 ^ (n % 32)) (hb:z+S % B32<B32) :
    RHInv xs ((zs.set (n / 32+i) (z+S % B32)).set (n / 32+i+1) (S / B32)) n (i+1):=by
  have hlen:=h.len
  have heq:=h.eq
  have hxb:=hx.getD i
  rw [hxx] at hxb
  rw [hz] at heq
  have hq:S / B32<2 ^ (n % 32):=by
    rw [Nat.div_lt_iff_lt_mul B32_pos,hS,Nat.mul_comm]
    exact Nat.mul_lt_mul_of_pos_left hxb (Nat.pow_pos (by decide))
  have hr:2 ^ (n % 32)≤B32:=by
    have:2 ^ (n % 32)≤2 ^ 32:=Nat.pow_le_pow_right (by decide) (by omega)
    exact this
  have hl1:(zs.set (n / 32+i) (z+S % B32)).length=zs.length:=List.length_set
  refine ⟨by rw [List.length_set,hl1];exact hlen,(h.ok.set _ _ hb).set _ _ (by omega),fun j hj=>?_,?_,?_⟩
  · rw [getD_set_other _ _ _ _ (by omega),getD_set_other _ _ _ _ (by omega)];exact h.zero j (by omega)
  · rw [show n / 32+(i+1)=n / 32+i+1 by omega,getD_set_same _ _ _ (by omega)];exact hq
  · rw [show n / 32+(i+1)=n / 32+i+1 by omega,getD_set_same _ _ _ (by omega),List.take_set_of_le (Nat.le_refl _),val_set_take _ _ _ (by omega),val_take_getD xs i,hxx,Nat.pow_succ]
    have hdm:=Nat.mod_add_div S B32
    have h2:=two_split n
    have hp:B32 ^ (n / 32+i)=B32 ^ (n / 32)*B32 ^ i:=Nat.pow_add _ _ _
    rw [hp] at heq ⊢
    generalize val (zs.take (n / 32+i))=V at *
    generalize val (xs.take i)=X at *
    generalize B32 ^ (n / 32)=Q at *
    generalize B32 ^ i=I at *
    generalize 2 ^ (n % 32)=R at *
    generalize 2 ^ n=T at *
    generalize S % B32=s at *
    generalize S / B32=q at *
    generalize B32=B at *
    subst h2
    have h3:Q*I*(s+B*q)=Q*I*(x*R):=by rw [hdm,hS]
    grind
theorem RHInv.done {xs zs:List Nat} {n:Nat} (h:RHInv xs zs n xs.length):val zs=val xs*2 ^ n:=by
  have h1:=h.eq
  rw [List.take_of_length_le (Nat.le_refl xs.length),← val_take_getD,List.take_of_length_le (by rw [h.len];omega)] at h1
  exact h1





end Go.Proofs.YtnacbakcalcgaaaGreatDoor
namespace Go.Proofs.YtnacbakcalcgaaaGreatDoor
open Go.RowKit Go.Sort
theorem step_callR {w:World} {ops:Array Oper} {o:Oper} {a:Act} {K:Act→World→Prop} {Q:Exit→Act→World→Prop} {E:Prop} (hgd:o.guard=none) (n:Nat) (fn:Func) (hf:Tryz.prog.funcs[n]? = some fn) (hn:(fn.name == "runtime.NumGoroutine")=false) (hb:fn.body.isNone=false)
    (args:Array Operand) (ts:Array TypeId) (ho:o.op=.call { callee:=.value (.func n),args:=args,argTypes:=ts }) (vs:Array Value) (hv:args.map a.eval=vs) {Post:Ending→World→Prop} (C:Calls Tryz.prog n vs w Post)
    (h:∀ r w',Post r w'→∃ v,r=.returned v∧K (a.put o.dst v) w') :
    if Region.wanted o (yielded ops a.tmps)=true then Oper.wp Tryz.prog o a w K Q else E:=by
  have hw:Region.wanted o (yielded ops a.tmps)=true:=by simp [Region.wanted,hgd]
  rw [if_pos hw]
  have hx:(execOp a.eval o).run Tryz.prog w=.ok (.enter n vs) w:=by
    have e0:a.eval (.func n)=.func (.func n) #[] #[]:=rfl
    simp [execOp,ho,resolve,Deferred.ofValue,invoke,callFunc,hf,hv,e0,go_sem]
    rw [if_neg (by simpa using hn),if_neg (by intro h0;rw [h0] at hb;cases hb)]
  unfold Oper.wp
  rw [hx,Oper.upon_enter]
  exact C.mono (fun r w' hp=>by obtain ⟨v,rfl,hk⟩:=h r w' hp;exact hk)


end Go.Proofs.YtnacbakcalcgaaaGreatDoor
