/- Texts of the claim. -/
import Derived.Test.YtnacbakcalcgaaaGreatDoorEH
import Derived.Test.YtnacbakcalcgaaaGreatDoorEw
import Derived.Laws.Bits64b
import Derived.Test.YtnacbakcalcgaaaGreatDoorShelf
set_option linter.unusedVariables false
set_option linter.unusedSimpArgs false
set_option maxHeartbeats 8000000
set_option maxRecDepth 100000
namespace Go.Proofs.YtnacbakcalcgaaaGreatDoor
open Go.RowKit Go.Lib Go.Sort
def intB (b:Bool) (T:Nat):List Nat:=if shortN T then hd (if b then 1 else 0) T else hd 6 (if b then 3 else 2)++hd 2 (bytesN T).length++bytesN T
theorem wpl_putR (W:World) {ops:Array Oper} {rest:List Oper} {o:Oper} {a:Act} {Q:Exit→Act→World→Prop}
    (hg:o.guard=none) (s x:Operand) (hop:o.op=.call { callee:=.builtin .append,args:=#[s,x],argTypes:=#[22,22] })
    (B:Nat) (v:Value) (n:Nat) (xs:List Nat) (hs:a.eval s=v) (hown:W.ownsRow B 5 1 v n (bc xs)) (hB:B≤W.heap.size) (ad:Option Addr) (k c:Nat) (hx:a.eval x=.slice ad k c)
    (ys:List Nat) (hk:ys.length=k) (hr:RdV W ad (bc ys)) (h0:ad=none→c=0) (hn:n+k≤1000000000)
    (h:∀ v' w',w'.ownsRow B 5 1 v' (n+k) (bc (xs++ys))→W.grownBy w' v.ownBlock→wpList Tryz.prog ops Q rest (a.put o.dst v') w') :
    wpList Tryz.prog ops Q (o::rest) a W:=by
  refine wpl_appV Tryz.underlying22 info_u8 rfl (by decide) (by decide) _ hg s x hop B v n (bc xs) hs hown ad k c (bc ys) hx (by rw [bc_len];omega) hr (bc_one _) h0 hn hB ?_
  intro v' w' h1 h2
  exact h v' w' (by rw [bc_app];exact h1) h2
theorem own_monoB {w:World} {B B':Nat} {e:TypeId} {size:Nat} {v:Value} {n:Nat} {vs:List Value} (h:w.ownsRow B e size v n vs) (hB:B'≤B):w.ownsRow B' e size v n vs:=by
  refine ⟨h.1,?_⟩
  rcases h.2 with h2 | ⟨g,cap,cur,e,h3,h4⟩
  · exact .inl h2
  · exact .inr ⟨g,cap,cur,e,Nat.le_trans hB h3,h4⟩
theorem bits_le_of {T:Nat} (h:bitsN T≤64):T<18446744073709551616:=by
  have h1:=lt_bits T
  have h2:=Nat.pow_le_pow_right (show 0<2 by decide) h
  have:(2:Nat) ^ 64=18446744073709551616:=by decide
  omega
theorem bytes_cb {b:Bool} {ad:Option Addr} {m cap L T:Nat} {xs:List Nat} {w:World} (h:ListOk w (.slice ad m cap) L T xs) (hL:L≤10000) :
    Calls Tryz.prog 49 #[.agg #[.bool b,.slice ad m cap]] w (PutL (intB b T) w):=by
  have hm:xs.length=m:=by obtain ⟨_,_,e,_⟩:=h;simp only [Value.slice.injEq] at e;exact e.2.1.symm
  have HBX:=Lib.hid (below_box w #[.bool b,.slice ad m cap] 76)
  have hlo:=h.below HBX.out
  have HK1:=Lib.hid (bytesOf_cb m hm hlo (by omega))
  have HLO:=Lib.hid hlo
  have hT:bitsN T≤32*10000:=by
    obtain ⟨_,_,_,_,h3,h4,_,h6⟩:=h
    rw [← h6]
    have:=bits_words h4
    omega
  have HLEN:=Lib.hid (bytesN_len T)
  obtain ⟨n,hn⟩:∃ n,(bytesN T).length=n:=⟨_,rfl⟩
  have hnb:n≤40001:=by rw [← hn,bytesN_len];omega
  have HT:=Lib.hid hT
  have HN:=Lib.hid hn
  unfold BytesP at HK1
  rw [hn] at HK1
  clear h hlo hT hn
  by_cases hs:bitsN T≤64
  · have HS:Hid (shortN T=true):=Lib.hid (by unfold shortN;exact decide_eq_true hs)
    have HTB:=Lib.hid (bits_le_of hs)
    have hn8:n≤8:=by rw [← HN.out,HLEN.out];omega
    clear hs
    cases b with
    | false =>
      go_enter Tryz.func49,Tryz.ntmps49
      go_wp2_with fail
      refine HK1.out.mono ?_
      rintro r w1 ⟨rfl,hbk,hb1⟩
      have hsz:(w.alloc (.cells #[.bool false,.slice ad m cap] 76)).heap.size=w.heap.size+1:=by simp
      rw [hsz] at hbk hb1
      have c0:w1.cell? ⟨w.heap.size,0,none⟩=some (.bool false):=by rw [hb1.cell (by simp)];simp
      have c1:w1.cell? ⟨w.heap.size,1,none⟩=some (.slice ad m cap):=by rw [hb1.cell (by simp)];simp
      have HL1:=Lib.hid (HLO.out.below (hb1.mono (by simp)))
      have HB1:=Lib.hid (HBX.out.trans (hb1.mono (by simp)))
      have hbl:=hb1.size
      rw [hsz] at hbl
      have HSZ:=Lib.hid hbl
      have HRD:=Lib.hid hbk.all
      have KS:=Lib.hid (short_cb (b:=false) HL1.out (by omega))
      rw [HS.out] at KS
      clear hbk hb1 hsz hbl
      go_wp2_with fail
      refine KS.out.mono ?_
      rintro r w2 ⟨rfl,hb2⟩
      have HB2:=Lib.hid hb2
      have HR2:=Lib.hid (HRD.out.on hb2)
      have HBW:=Lib.hid (below_on HB1.out hb2)
      clear hb2
      have KW:=Lib.hid (wordOf_cb _ (bytesN T) n n w2 HN.out hn8 (Nat.le_refl _) (bytesN_ok T) HR2.out)
      rw [natB_bytesN] at KW
      have KP:=Lib.hid (hput_any none [] 0 0 T 0 w2 rfl (by omega) (by omega) (RdV.nil _ _) HTB.out)
      go_wp2_with fail
      refine KW.out.mono ?_
      rintro r w3 ⟨rfl,rfl⟩
      go_wp2_with fail
      refine KP.out.mono ?_
      rintro r w4 ⟨v,rfl,ho,hb4⟩
      have HO:=Lib.hid ho;have HB4:=Lib.hid hb4
      clear ho hb4
      go_wp2_with fail
      go_ret
      have ho:=HO.out
      have e1:intB false T=[]++hd ((0:Int) % 8).toNat T:=by unfold intB;rw [if_pos HS.out];rfl
      rw [e1]
      exact ⟨v,rfl,own_monoB ho HBW.out.size,below_on HBW.out HB4.out⟩
    | true =>
      go_enter Tryz.func49,Tryz.ntmps49
      go_wp2_with fail
      refine HK1.out.mono ?_
      rintro r w1 ⟨rfl,hbk,hb1⟩
      have hsz:(w.alloc (.cells #[.bool true,.slice ad m cap] 76)).heap.size=w.heap.size+1:=by simp
      rw [hsz] at hbk hb1
      have c0:w1.cell? ⟨w.heap.size,0,none⟩=some (.bool true):=by rw [hb1.cell (by simp)];simp
      have c1:w1.cell? ⟨w.heap.size,1,none⟩=some (.slice ad m cap):=by rw [hb1.cell (by simp)];simp
      have HL1:=Lib.hid (HLO.out.below (hb1.mono (by simp)))
      have HB1:=Lib.hid (HBX.out.trans (hb1.mono (by simp)))
      have hbl:=hb1.size
      rw [hsz] at hbl
      have HSZ:=Lib.hid hbl
      have HRD:=Lib.hid hbk.all
      have KS:=Lib.hid (short_cb (b:=true) HL1.out (by omega))
      rw [HS.out] at KS
      clear hbk hb1 hsz hbl
      go_wp2_with fail
      refine KS.out.mono ?_
      rintro r w2 ⟨rfl,hb2⟩
      have HB2:=Lib.hid hb2
      have HR2:=Lib.hid (HRD.out.on hb2)
      have HBW:=Lib.hid (below_on HB1.out hb2)
      clear hb2
      have KW:=Lib.hid (wordOf_cb _ (bytesN T) n n w2 HN.out hn8 (Nat.le_refl _) (bytesN_ok T) HR2.out)
      rw [natB_bytesN] at KW
      have KP:=Lib.hid (hput_any none [] 0 0 T 1 w2 rfl (by omega) (by omega) (RdV.nil _ _) HTB.out)
      go_wp2_with fail
      refine KW.out.mono ?_
      rintro r w3 ⟨rfl,rfl⟩
      go_wp2_with fail
      refine KP.out.mono ?_
      rintro r w4 ⟨v,rfl,ho,hb4⟩
      have HO:=Lib.hid ho;have HB4:=Lib.hid hb4
      clear ho hb4
      go_wp2_with fail
      go_ret
      have ho:=HO.out
      have e1:intB true T=[]++hd ((1:Int) % 8).toNat T:=by unfold intB;rw [if_pos HS.out];rfl
      rw [e1]
      exact ⟨v,rfl,own_monoB ho HBW.out.size,below_on HBW.out HB4.out⟩
  · have HS:Hid (shortN T=false):=Lib.hid (by unfold shortN;exact decide_eq_false hs)
    clear hs
    cases b with
    | false =>
      go_enter Tryz.func49,Tryz.ntmps49
      go_wp2_with fail
      refine HK1.out.mono ?_
      rintro r w1 ⟨rfl,hbk,hb1⟩
      have hsz:(w.alloc (.cells #[.bool false,.slice ad m cap] 76)).heap.size=w.heap.size+1:=by simp
      rw [hsz] at hbk hb1
      have c0:w1.cell? ⟨w.heap.size,0,none⟩=some (.bool false):=by rw [hb1.cell (by simp)];simp
      have c1:w1.cell? ⟨w.heap.size,1,none⟩=some (.slice ad m cap):=by rw [hb1.cell (by simp)];simp
      have HL1:=Lib.hid (HLO.out.below (hb1.mono (by simp)))
      have HB1:=Lib.hid (HBX.out.trans (hb1.mono (by simp)))
      have hbl:=hb1.size
      rw [hsz] at hbl
      have HSZ:=Lib.hid hbl
      have HRD:=Lib.hid hbk.all
      have KS:=Lib.hid (short_cb (b:=false) HL1.out (by omega))
      rw [HS.out] at KS
      clear hbk hb1 hsz hbl
      go_wp2_with fail
      refine KS.out.mono ?_
      rintro r w2 ⟨rfl,hb2⟩
      have HB2:=Lib.hid hb2
      have HR2:=Lib.hid (HRD.out.on hb2)
      have HBW:=Lib.hid (below_on HB1.out hb2)
      clear hb2
      have KP:=Lib.hid (hput_any none [] 0 0 2 6 w2 rfl (by omega) (by omega) (RdV.nil _ _) (by omega))
      go_wp2_with fail
      refine KP.out.mono ?_
      rintro r w3 ⟨v3,rfl,ho,hb3⟩
      obtain ⟨ad3,cap3,rfl,hc3,hr3,_,_,h03⟩:=own_viewN ho
      have HB3:=Lib.hid hb3;have HR3:=Lib.hid hr3;have HRB:=Lib.hid (HR2.out.on hb3)
      have HBV:=Lib.hid (below_on HBW.out hb3)
      have e3:([]++hd ((6:Int) % 8).toNat 2).length=1:=rfl
      rw [e3] at hc3
      simp only [e3]
      have KQ:=Lib.hid (hput_any ad3 ([]++hd ((6:Int) % 8).toNat 2) 1 cap3 n 2 w3 e3 (by omega) hc3 hr3 (by omega))
      clear ho hb3 hr3 h03
      have e5:(n:Int) % 18446744073709551616=(n:Int):=by omega
      go_wp2_with fail
      refine KQ.out.mono ?_
      rintro r w4 ⟨v4,rfl,ho,hb4⟩
      have HO:=Lib.hid ho;have HB4:=Lib.hid (below_on HBV.out hb4);have HRC:=Lib.hid (HRB.out.on hb4);have HS3:=Lib.hid hb4.size
      clear ho hb4 HR2 HRB HRD
      have hlen:(hd 2 n).length≤9:=by unfold hd tailN;repeat (first | split | simp)
      have HLL:Hid (([]++hd ((6:Int) % 8).toNat 2++hd ((2:Int) % 8).toNat n).length+n≤1000000000):=Lib.hid (by rw [List.length_append,e3];have:(hd ((2:Int) % 8).toNat n).length=(hd 2 n).length:=rfl;omega)
      clear hlen e5
      go_wp2_with (at_builtin;refine wpl_putR _ rfl _ _ rfl w3.heap.size v4 _ _ rfl HO.out HS3.out _ n n rfl (bytesN T) HN.out HRC.out (fun h=>by cases h) HLL.out ?_)
      intro v5 w5 ho hg
      have HO5:=Lib.hid ho;have HB5:=Lib.hid (HB4.out.grown hg (Nat.le_trans HBV.out.size HS3.out) (fun g hg=>Nat.le_trans HBV.out.size ((HO.out).lt g hg).1))
      clear ho hg
      go_wp2_with fail
      go_ret
      have ho:=own_monoB HO5.out HBV.out.size
      have e1:intB false T=[]++hd ((6:Int) % 8).toNat 2++hd ((2:Int) % 8).toNat n++bytesN T:=by unfold intB;rw [if_neg (by rw [HS.out];decide),HN.out];rfl
      have e2:(intB false T).length=([]++hd ((6:Int) % 8).toNat 2++hd ((2:Int) % 8).toNat n).length+n:=by rw [e1,List.length_append,HN.out]
      refine ⟨v5,rfl,?_,HB5.out⟩
      rw [e2,e1]
      first | exact ho | simpa using ho
    | true =>
      go_enter Tryz.func49,Tryz.ntmps49
      go_wp2_with fail
      refine HK1.out.mono ?_
      rintro r w1 ⟨rfl,hbk,hb1⟩
      have hsz:(w.alloc (.cells #[.bool true,.slice ad m cap] 76)).heap.size=w.heap.size+1:=by simp
      rw [hsz] at hbk hb1
      have c0:w1.cell? ⟨w.heap.size,0,none⟩=some (.bool true):=by rw [hb1.cell (by simp)];simp
      have c1:w1.cell? ⟨w.heap.size,1,none⟩=some (.slice ad m cap):=by rw [hb1.cell (by simp)];simp
      have HL1:=Lib.hid (HLO.out.below (hb1.mono (by simp)))
      have HB1:=Lib.hid (HBX.out.trans (hb1.mono (by simp)))
      have hbl:=hb1.size
      rw [hsz] at hbl
      have HSZ:=Lib.hid hbl
      have HRD:=Lib.hid hbk.all
      have KS:=Lib.hid (short_cb (b:=true) HL1.out (by omega))
      rw [HS.out] at KS
      clear hbk hb1 hsz hbl
      go_wp2_with fail
      refine KS.out.mono ?_
      rintro r w2 ⟨rfl,hb2⟩
      have HB2:=Lib.hid hb2
      have HR2:=Lib.hid (HRD.out.on hb2)
      have HBW:=Lib.hid (below_on HB1.out hb2)
      clear hb2
      have KP:=Lib.hid (hput_any none [] 0 0 3 6 w2 rfl (by omega) (by omega) (RdV.nil _ _) (by omega))
      go_wp2_with fail
      refine KP.out.mono ?_
      rintro r w3 ⟨v3,rfl,ho,hb3⟩
      obtain ⟨ad3,cap3,rfl,hc3,hr3,_,_,h03⟩:=own_viewN ho
      have HB3:=Lib.hid hb3;have HR3:=Lib.hid hr3;have HRB:=Lib.hid (HR2.out.on hb3)
      have HBV:=Lib.hid (below_on HBW.out hb3)
      have e3:([]++hd ((6:Int) % 8).toNat 3).length=1:=rfl
      rw [e3] at hc3
      simp only [e3]
      have KQ:=Lib.hid (hput_any ad3 ([]++hd ((6:Int) % 8).toNat 3) 1 cap3 n 2 w3 e3 (by omega) hc3 hr3 (by omega))
      clear ho hb3 hr3 h03
      have e5:(n:Int) % 18446744073709551616=(n:Int):=by omega
      go_wp2_with fail
      refine KQ.out.mono ?_
      rintro r w4 ⟨v4,rfl,ho,hb4⟩
      have HO:=Lib.hid ho;have HB4:=Lib.hid (below_on HBV.out hb4);have HRC:=Lib.hid (HRB.out.on hb4);have HS3:=Lib.hid hb4.size
      clear ho hb4 HR2 HRB HRD
      have hlen:(hd 2 n).length≤9:=by unfold hd tailN;repeat (first | split | simp)
      have HLL:Hid (([]++hd ((6:Int) % 8).toNat 3++hd ((2:Int) % 8).toNat n).length+n≤1000000000):=Lib.hid (by rw [List.length_append,e3];have:(hd ((2:Int) % 8).toNat n).length=(hd 2 n).length:=rfl;omega)
      clear hlen e5
      go_wp2_with (at_builtin;refine wpl_putR _ rfl _ _ rfl w3.heap.size v4 _ _ rfl HO.out HS3.out _ n n rfl (bytesN T) HN.out HRC.out (fun h=>by cases h) HLL.out ?_)
      intro v5 w5 ho hg
      have HO5:=Lib.hid ho;have HB5:=Lib.hid (HB4.out.grown hg (Nat.le_trans HBV.out.size HS3.out) (fun g hg=>Nat.le_trans HBV.out.size ((HO.out).lt g hg).1))
      clear ho hg
      go_wp2_with fail
      go_ret
      have ho:=own_monoB HO5.out HBV.out.size
      have e1:intB true T=[]++hd ((6:Int) % 8).toNat 3++hd ((2:Int) % 8).toNat n++bytesN T:=by unfold intB;rw [if_neg (by rw [HS.out];decide),HN.out];rfl
      have e2:(intB true T).length=([]++hd ((6:Int) % 8).toNat 3++hd ((2:Int) % 8).toNat n).length+n:=by rw [e1,List.length_append,HN.out]
      refine ⟨v5,rfl,?_,HB5.out⟩
      rw [e2,e1]
      first | exact ho | simpa using ho
def fltB (d N:Nat):List Nat:=(249+d)::bytesL N (2 ^ (d+1))
theorem bytesL_get (N n j:Nat) (h:j<n):(bytesL N n).getD j 0=N / 256 ^ (n - 1 - j) % 256:=by
  induction n generalizing j with
  | zero=>omega
  | succ n ih =>
    cases j with
    | zero=>simp [bytesL]
    | succ j =>
      have:=ih j (by omega)
      rw [show n+1 - 1 - (j+1)=n - 1 - j by omega,← this]
      simp [bytesL]
theorem bytesL_take (N n j:Nat) (h:j<n):(bytesL N n).take (j+1)=(bytesL N n).take j++[N / 256 ^ (n - 1 - j) % 256]:=by
  have hl:j<(bytesL N n).length:=by rw [bytesL_len];exact h
  rw [List.take_succ_eq_append_getElem hl,← bytesL_get N n j h]
  simp [List.getD,hl]
def WidRel (d:Nat) (w:World) (k:Nat) (i v:Value) (wr:World):Prop :=
  ∃ j:Nat,i=.int .i64 ((25+j:Nat):Int)∧v=.int .i64 ((16*2 ^ j:Nat):Int)∧j≤d∧k=d+1 - j∧wr=w
def FltRel (d n N:Nat) (w:World) (k:Nat) (b a:Value) (wr:World):Prop :=
  ∃ j:Nat,j≤n∧k=n+1 - j∧a=.int .i64 ((8*n:Nat) - 8 - (8*j:Nat))∧wr.ownsRow w.heap.size 5 1 b (1+j) (bc ((249+d)::(bytesL N n).take j))∧Below w.heap.size w wr
theorem own_lit (w:World) (N:Nat):(w.alloc (.cells #[.int .u8 (N:Int)] 5)).ownsRow w.heap.size 5 1 (.slice (some ⟨w.heap.size,0,none⟩) 1 1) 1 (bc [N]):=by
  refine ⟨rfl,.inr ⟨w.heap.size,1,#[.int .u8 (N:Int)],rfl,Nat.le_refl _,heap_alloc_new _ _,Nat.le_refl _,by unfold maxLen;decide,rfl,rfl⟩⟩
theorem flt_shr (N n j:Nat) (h:j<n):(N:Int) / 2 ^ (8*(n - 1 - j)) % 256=((N / 256 ^ (n - 1 - j) % 256:Nat):Int):=by
  rw [show (256:Nat)=2 ^ 8 by decide,← Nat.pow_mul,shr_cast];omega
theorem float_16 (N:Nat) (w:World) (hN:N<18446744073709551616) :
    Calls Tryz.prog 51 #[.int .i64 16,.int .u64 (N:Int)] w (PutL (fltB 0 N) w):=by
  go_enter Tryz.func51,Tryz.ntmps51
  go_wp2_with fail
  go_loopg [5,6] 1 (fun k i v wr=>WidRel 0 w k i v wr)
  case atStart=>exact ⟨0,rfl,rfl,Nat.zero_le _,rfl,rfl⟩
  case round =>
    obtain ⟨j,rfl,rfl,hj,hk,hw⟩:=hrel
    replace hw:=hw.symm
    subst hw
    have hj2:j=0:=by omega
    clear hj
    rcases hj2 with rfl
    · have HO0:=Lib.hid (own_lit w 249)
      have HB0:=Lib.hid ((Below.refl w.heap.size w).alloc (Nat.le_refl _) (.cells #[.int .u8 ((249:Nat):Int)] 5))
      have eor:bits .or .i64 224 25=249:=by decide
      go_wp2_with fail
      go_loopg [7,8] 3 (fun k b a W=>FltRel 0 2 N w k b a W)
      case atStart=>exact ⟨0,by omega,rfl,by go_num,HO0.out,HB0.out⟩
      case round =>
        obtain ⟨j,hj,hk,rfl,ho,hb⟩:=hrel
        by_cases hin:j<2
        · have ea:((8*2:Nat) - 8 - (8*j:Nat):Int)=((8*(2 - 1 - j):Nat):Int):=by omega
          have HSH:=Lib.hid (flt_shr N 2 j hin)
          have HT:=Lib.hid (bytesL_take N 2 j hin)
          have HO:=Lib.hid ho;have HB:=Lib.hid hb
          clear ho hb
          rw [ea]
          generalize hX:8*(2 - 1 - j)=X at *
          have e8:IntKind.i64.wrap ((X:Int) - 8)=(X:Int) - 8:=IntWalk.i64_in _ (by omega)
          go_wp2_with (at_builtin;refine wpl_put _ _ rfl _ _ rfl w _ (1+j) _ rfl HO.out HB.out 1 rfl rfl [N / 256 ^ (2 - 1 - j) % 256] (by rw [HSH.out];rfl) _ rfl (by omega) ?_)
          intro v1 w1 ho hb
          have HO1:=Lib.hid ho;have HB1:=Lib.hid hb
          clear ho hb
          go_wp2_with fail
          go_roundg (2+1 - (j+1))
          case measure=>omega
          case rel =>
            have h1:=HO1.out
            have h2:=HT.out
            refine ⟨j+1,by omega,by omega,by go_num,?_,HB1.out⟩
            rw [h2,← Nat.add_assoc]
            exact h1
        · obtain rfl:j=2:=by omega
          have HO:=Lib.hid ho;have HB:=Lib.hid hb
          clear ho hb
          go_wp2_with fail
          go_ret
          refine ⟨_,rfl,?_,HB.out⟩
          have h1:=HO.out
          rw [List.take_of_length_le (by rw [bytesL_len];exact Nat.le_refl _)] at h1
          have e:(fltB 0 N).length=1+2:=by unfold fltB;rw [List.length_cons,bytesL_len]
          rw [e]
          exact h1
theorem float_32 (N:Nat) (w:World) (hN:N<18446744073709551616) :
    Calls Tryz.prog 51 #[.int .i64 32,.int .u64 (N:Int)] w (PutL (fltB 1 N) w):=by
  go_enter Tryz.func51,Tryz.ntmps51
  go_wp2_with fail
  go_loopg [5,6] 2 (fun k i v wr=>WidRel 1 w k i v wr)
  case atStart=>exact ⟨0,rfl,rfl,Nat.zero_le _,rfl,rfl⟩
  case round =>
    obtain ⟨j,rfl,rfl,hj,hk,hw⟩:=hrel
    replace hw:=hw.symm
    subst hw
    have hj2:j=0∨j=1:=by omega
    clear hj
    rcases hj2 with rfl | rfl
    · go_wp2_with fail
      go_roundg 1
      case measure=>omega
      case rel=>exact ⟨1,by go_num,by go_num,by omega,by omega,rfl⟩
    · have HO0:=Lib.hid (own_lit w 250)
      have HB0:=Lib.hid ((Below.refl w.heap.size w).alloc (Nat.le_refl _) (.cells #[.int .u8 ((250:Nat):Int)] 5))
      have eor:bits .or .i64 224 26=250:=by decide
      go_wp2_with fail
      go_loopg [7,8] 5 (fun k b a W=>FltRel 1 4 N w k b a W)
      case atStart=>exact ⟨0,by omega,rfl,by go_num,HO0.out,HB0.out⟩
      case round =>
        obtain ⟨j,hj,hk,rfl,ho,hb⟩:=hrel
        by_cases hin:j<4
        · have ea:((8*4:Nat) - 8 - (8*j:Nat):Int)=((8*(4 - 1 - j):Nat):Int):=by omega
          have HSH:=Lib.hid (flt_shr N 4 j hin)
          have HT:=Lib.hid (bytesL_take N 4 j hin)
          have HO:=Lib.hid ho;have HB:=Lib.hid hb
          clear ho hb
          rw [ea]
          generalize hX:8*(4 - 1 - j)=X at *
          have e8:IntKind.i64.wrap ((X:Int) - 8)=(X:Int) - 8:=IntWalk.i64_in _ (by omega)
          go_wp2_with (at_builtin;refine wpl_put _ _ rfl _ _ rfl w _ (1+j) _ rfl HO.out HB.out 1 rfl rfl [N / 256 ^ (4 - 1 - j) % 256] (by rw [HSH.out];rfl) _ rfl (by omega) ?_)
          intro v1 w1 ho hb
          have HO1:=Lib.hid ho;have HB1:=Lib.hid hb
          clear ho hb
          go_wp2_with fail
          go_roundg (4+1 - (j+1))
          case measure=>omega
          case rel =>
            have h1:=HO1.out
            have h2:=HT.out
            refine ⟨j+1,by omega,by omega,by go_num,?_,HB1.out⟩
            rw [h2,← Nat.add_assoc]
            exact h1
        · obtain rfl:j=4:=by omega
          have HO:=Lib.hid ho;have HB:=Lib.hid hb
          clear ho hb
          go_wp2_with fail
          go_ret
          refine ⟨_,rfl,?_,HB.out⟩
          have h1:=HO.out
          rw [List.take_of_length_le (by rw [bytesL_len];exact Nat.le_refl _)] at h1
          have e:(fltB 1 N).length=1+4:=by unfold fltB;rw [List.length_cons,bytesL_len]
          rw [e]
          exact h1
theorem float_64 (N:Nat) (w:World) (hN:N<18446744073709551616) :
    Calls Tryz.prog 51 #[.int .i64 64,.int .u64 (N:Int)] w (PutL (fltB 2 N) w):=by
  go_enter Tryz.func51,Tryz.ntmps51
  go_wp2_with fail
  go_loopg [5,6] 3 (fun k i v wr=>WidRel 2 w k i v wr)
  case atStart=>exact ⟨0,rfl,rfl,Nat.zero_le _,rfl,rfl⟩
  case round =>
    obtain ⟨j,rfl,rfl,hj,hk,hw⟩:=hrel
    replace hw:=hw.symm
    subst hw
    have hj2:j=0∨j=1∨j=2:=by omega
    clear hj
    rcases hj2 with rfl | rfl | rfl
    · go_wp2_with fail
      go_roundg 2
      case measure=>omega
      case rel=>exact ⟨1,by go_num,by go_num,by omega,by omega,rfl⟩
    · go_wp2_with fail
      go_roundg 1
      case measure=>omega
      case rel=>exact ⟨2,by go_num,by go_num,by omega,by omega,rfl⟩
    · have HO0:=Lib.hid (own_lit w 251)
      have HB0:=Lib.hid ((Below.refl w.heap.size w).alloc (Nat.le_refl _) (.cells #[.int .u8 ((251:Nat):Int)] 5))
      have eor:bits .or .i64 224 27=251:=by decide
      go_wp2_with fail
      go_loopg [7,8] 9 (fun k b a W=>FltRel 2 8 N w k b a W)
      case atStart=>exact ⟨0,by omega,rfl,by go_num,HO0.out,HB0.out⟩
      case round =>
        obtain ⟨j,hj,hk,rfl,ho,hb⟩:=hrel
        by_cases hin:j<8
        · have ea:((8*8:Nat) - 8 - (8*j:Nat):Int)=((8*(8 - 1 - j):Nat):Int):=by omega
          have HSH:=Lib.hid (flt_shr N 8 j hin)
          have HT:=Lib.hid (bytesL_take N 8 j hin)
          have HO:=Lib.hid ho;have HB:=Lib.hid hb
          clear ho hb
          rw [ea]
          generalize hX:8*(8 - 1 - j)=X at *
          have e8:IntKind.i64.wrap ((X:Int) - 8)=(X:Int) - 8:=IntWalk.i64_in _ (by omega)
          go_wp2_with (at_builtin;refine wpl_put _ _ rfl _ _ rfl w _ (1+j) _ rfl HO.out HB.out 1 rfl rfl [N / 256 ^ (8 - 1 - j) % 256] (by rw [HSH.out];rfl) _ rfl (by omega) ?_)
          intro v1 w1 ho hb
          have HO1:=Lib.hid ho;have HB1:=Lib.hid hb
          clear ho hb
          go_wp2_with fail
          go_roundg (8+1 - (j+1))
          case measure=>omega
          case rel =>
            have h1:=HO1.out
            have h2:=HT.out
            refine ⟨j+1,by omega,by omega,by go_num,?_,HB1.out⟩
            rw [h2,← Nat.add_assoc]
            exact h1
        · obtain rfl:j=8:=by omega
          have HO:=Lib.hid ho;have HB:=Lib.hid hb
          clear ho hb
          go_wp2_with fail
          go_ret
          refine ⟨_,rfl,?_,HB.out⟩
          have h1:=HO.out
          rw [List.take_of_length_le (by rw [bytesL_len];exact Nat.le_refl _)] at h1
          have e:(fltB 2 N).length=1+8:=by unfold fltB;rw [List.length_cons,bytesL_len]
          rw [e]
          exact h1
end Go.Proofs.YtnacbakcalcgaaaGreatDoor
namespace Go.Proofs.YtnacbakcalcgaaaGreatDoor
open Go.RowKit Go.Sort
def DB (w:World):Prop:=∀ j,j<32→w.cell? ⟨0,j,none⟩=some (.int .u8 ((Lib.deBruijn32tab.getD j 0:Nat):Int))
theorem cell_lt {w:World} {a:Addr} {v:Value} (h:w.cell? a=some v):a.block<w.heap.size:=by
  rcases Nat.lt_or_ge a.block w.heap.size with h1 | h1
  · exact h1
  · simp [World.cell?,Array.getElem?_eq_none h1] at h
theorem DB.below {w w':World} (h:DB w) (hb:Below w.heap.size w w'):DB w':=fun j hj=>(hb.cell (cell_lt (h j hj))).trans (h j hj)
theorem u32_and_nat (a b:Nat) (ha:a<4294967296) (hb:b<4294967296):bits BinOp.and IntKind.u32 (a:Int) (b:Int)=((a &&& b:Nat):Int):=by
  have hx:a &&& b<2 ^ 32:=Nat.and_lt_two_pow _ (by omega)
  have h1:(BitVec.ofInt 32 (a:Int)).toNat=a:=by rw [BitVec.ofInt_natCast,BitVec.toNat_ofNat];exact Nat.mod_eq_of_lt (by omega)
  have h2:(BitVec.ofInt 32 (b:Int)).toNat=b:=by rw [BitVec.ofInt_natCast,BitVec.toNat_ofNat];exact Nat.mod_eq_of_lt (by omega)
  show IntKind.u32.wrap ((BitVec.ofInt 32 (a:Int) &&& BitVec.ofInt 32 (b:Int)).toNat:Int)=_
  rw [BitVec.toNat_and,h1,h2,IntWalk.u32_in _ (by omega)]
theorem tz_ctz {x:Nat} (h0:x ≠ 0) (hx:x<4294967296):Lib.ctz 32 x=tz x:=by
  obtain ⟨m,hm,_⟩:=Lib.ctzFrom_spec 32 x (by omega) hx
  have e:Lib.ctz 32 x=Lib.ctzFrom 32 x:=by simp [Lib.ctz,h0]
  rw [e]
  exact (tz_unique (o:=2*m+1) (by rw [Nat.mul_comm];exact hm) (by omega)).1.symm
theorem tz32_core (x k idx:Nat) (w:World) (hx0:((x:Int) == 0)=false)
    (key:bits BinOp.and IntKind.u32 (x:Int) (-(x:Int) % 4294967296)*125613361 % 4294967296 / 134217728=(idx:Int))
    (hi:idx<32) (hk:k<32) (hcell:w.cell? ⟨0,idx,none⟩=some (.int .u8 (k:Int))) :
    Calls Tryz.prog 199 #[.int .u32 (x:Int)] w fun e w'=>e=.returned (.int .i64 (k:Int))∧w'=w:=by
  go_enter Tryz.func199,Tryz.ntmps199
  go_wp2_with (simp only [key])
  go_ret
  exact ⟨rfl,rfl⟩
theorem tz32_any (x:Nat) (w:World) (h0:x ≠ 0) (hx:x<4294967296) (hT:DB w) :
    Calls Tryz.prog 199 #[.int .u32 (x:Int)] w fun e w'=>e=.returned (.int .i64 ((tz x:Nat):Int))∧w'=w:=by
  obtain ⟨hlow,hk⟩:=Lib.lowest_bit 32 x h0 hx
  obtain ⟨hi,htab⟩:=Lib.deBruijn32_at _ hk
  have hcell:=hT _ hi
  rw [htab] at hcell
  rw [tz_ctz h0 hx] at *
  have e1:-(x:Int) % 4294967296=((4294967296 - x:Nat):Int):=by omega
  refine tz32_core x _ _ w (by rw [beq_eq_false_iff_ne];omega) ?_ hi hk hcell
  have h2:x &&& (4294967296 - x)=2 ^ tz x:=hlow
  have hlt:2 ^ tz x<4294967296:=by rw [← h2];exact Nat.lt_of_le_of_lt Nat.and_le_left hx
  rw [e1,u32_and_nat x _ hx (by omega),h2]
  generalize 2 ^ tz x=a
  rw [Int.natCast_ediv,Int.natCast_emod,Int.natCast_mul]
  rfl
theorem zeroBits_any (ad:Option Addr) (n cap:Nat) (xs:List Nat) (w:World) (hn:xs.length=n) (hcap:n≤cap) (hm:n≤1000000) (ho:Okl xs) (hr:Rd w ad xs) (hv:val xs ≠ 0) (hT:DB w) :
    Calls Tryz.prog 164 #[.slice ad n cap] w fun e w'=>e=.returned (.int .i64 ((tz (val xs):Nat):Int))∧w'=w:=by
  have HN:=Lib.hid hn;clear hn
  have HV:=Lib.hid hv;clear hv
  have HT:=Lib.hid hT;clear hT
  go_enter Tryz.func164,Tryz.ntmps164
  go_wp2
  go_loop [3] (fun i=>∃ k:Nat,i=.int .i64 (k:Int)∧k<n∧∀ j,j<k→xs.getD j 0=0) (fun i=>n - (intOf i).toNat)
  case atStart =>
    refine ⟨0,rfl,?_,fun j hj=>by omega⟩
    rcases Nat.eq_zero_or_pos n with h0 | h0
    · have hx:xs=[]:=List.eq_nil_of_length_eq_zero (by rw [HN.out];exact h0)
      exact absurd (by rw [hx];rfl) HV.out
    · exact h0
  case round =>
    obtain ⟨k,rfl,hk,hz⟩:=hrel
    obtain ⟨b,o,rfl,_,hc⟩:=hr k (by rw [HN.out];exact hk)
    have hxb:=ho.getD k
    have HZ:=Lib.hid hz;clear hz
    generalize hx:xs.getD k 0=x at *
    have HX:=Lib.hid hx;clear hx
    by_cases h0:x=0
    · have hnext:Hid (k+1<n∧∀ j,j<k+1→xs.getD j 0=0):=by
        have hz2:∀ j,j<k+1→xs.getD j 0=0:=fun j hj=>by
          by_cases h:j=k
          · rw [h,HX.out,h0]
          · exact HZ.out j (by omega)
        refine ⟨?_,hz2⟩
        apply Classical.byContradiction
        intro hc2
        apply HV.out
        have:val (xs.take n)=0:=by
          have key:∀ i,i≤n→val (xs.take i)=0:=by
            intro i
            induction i with
            | zero=>intro _;rfl
            | succ i ih =>
              intro hi
              rw [val_take_succ xs i (by rw [HN.out];omega),ih (by omega),hz2 i (by omega)];simp
          exact key n (Nat.le_refl _)
        rw [← HN.out,List.take_length] at this
        exact this
      subst h0
      go_wp2
      go_round
      case rel=>exact ⟨k+1,by go_num,hnext.out.1,hnext.out.2⟩
      case measure=>simp [intOf];omega
    · have hxB:x<4294967296:=hxb
      have h0b:((x:Int) == 0)=false:=by rw [beq_eq_false_iff_ne];omega
      have HTZ:=Lib.hid (tz_limb HZ.out HX.out h0 hxb)
      have KT:=Lib.hid (tz32_any x w h0 hxB HT.out)
      have htb:=HTZ.out.2
      generalize tz x=q at *
      go_wp2_with fail
      refine KT.out.mono ?_
      rintro r w1 ⟨rfl,rfl⟩
      go_wp2
      go_ret
      exact ⟨ret1_eq (by rw [HTZ.out.1];push_cast;rfl),rfl⟩
theorem or_low {a y k:Nat} (h:a<2 ^ k) (hs:a+y*2 ^ k<18446744073709551616):bits BinOp.or IntKind.u64 (a:Int) ((y*2 ^ k:Nat):Int)=((a+y*2 ^ k:Nat):Int):=by
  rw [bits_or_u64_nat a _ (by omega) (by omega),Nat.or_comm,nat_join k _ a (Nat.mul_mod_left _ _) h,Nat.add_comm]
theorem or_zero (a:Nat) (h:a<18446744073709551616):bits BinOp.or IntKind.u64 0 (a:Int)=(a:Int):=by
  have:=bits_or_u64_nat 0 a (by omega) h
  rw [Nat.zero_or] at this
  exact this
theorem min_shift {x d:Nat} (h:x*2 ^ d<18446744073709551616):x*2 ^ min d 64=x*2 ^ d:=by
  rcases Nat.le_total d 64 with h1 | h1
  · rw [Nat.min_eq_left h1]
  · have h2:2 ^ 64≤2 ^ d:=Nat.pow_le_pow_right (by decide) h1
    have h3:x=0:=by
      rcases Nat.eq_zero_or_pos x with h3 | h3
      · exact h3
      · have:=Nat.le_mul_of_pos_left (2 ^ d) h3
        omega
    rw [h3,Nat.zero_mul,Nat.zero_mul]
def WFRel (n m:Nat) (xs:List Nat) (w:World) (v i:Value) (wr:World):Prop :=
  ∃ k:Nat,i=.int .i64 (k:Int)∧m / 32≤k∧k≤n∧v=.int .u64 ((val (xs.take k) / 2 ^ m:Nat):Int)∧wr=w
theorem wordFrom_any (ad:Option Addr) (n cap:Nat) (xs:List Nat) (m:Nat) (w:World) (hn:xs.length=n) (hcap:n≤cap) (hm:n≤1000000) (ho:Okl xs) (hr:Rd w ad xs) (h64:val xs / 2 ^ m<18446744073709551616) (hmn:m / 32≤n) :
    Calls Tryz.prog 165 #[.slice ad n cap,.int .i64 (m:Int)] w fun e w'=>e=.returned (.int .u64 ((val xs / 2 ^ m:Nat):Int))∧w'=w:=by
  have HN:=Lib.hid hn;clear hn
  have HS:=Lib.hid (fun i (hi:i<n) (hmi:m / 32≤i)=>from_step (n:=m) (x:=xs.getD i 0) ho (show i<xs.length by rw [HN.out];exact hi) rfl (by omega))
  have HLE:=Lib.hid (fun i (hi:i≤n)=>Nat.lt_of_le_of_lt (from_le (xs:=xs) m (show i≤xs.length by rw [HN.out];exact hi)) h64)
  have hst:=from_start ho m
  have HST:=Lib.hid hst;clear hst
  go_enter Tryz.func165,Tryz.ntmps165
  go_wp2
  go_loopw [4,5] (fun v i wr=>WFRel n m xs w v i wr) (fun _ i _=>n - (intOf i).toNat)
  case atStart=>exact ⟨m / 32,by push_cast;rfl,Nat.le_refl _,hmn,by rw [HST.out];rfl,rfl⟩
  case round =>
    obtain ⟨k,rfl,hmk,hk,rfl,rfl⟩:=hrel
    by_cases hkn:k<n
    · obtain ⟨b,o,rfl,_,hc⟩:=hr k (by rw [HN.out];exact hkn)
      have hxb:=ho.getD k
      rw [B32_eq] at hxb
      have hs:=HS.out k hkn hmk
      have hle:=HLE.out (k+1) hkn
      generalize xs.getD k 0=x at *
      have hlt':(k:Int)<(n:Int):=by omega
      have hw1:IntKind.i64.wrap (32*(k:Int))=32*(k:Int):=IntWalk.i64_in _ (by omega)
      by_cases hat:32*k<m
      · obtain ⟨hz,hnx⟩:=hs.1 hat
        rw [hz]
        obtain ⟨d,hd⟩:∃ d,m=32*k+d:=⟨m - 32*k,by omega⟩
        have hneg:32*(k:Int) - (m:Int)<0:=by omega
        have hsub:-(32*(k:Int) - (m:Int))=(d:Int):=by omega
        have hx2:x / 2 ^ (m - 32*k)≤x:=Nat.div_le_self _ _
        rw [show m - 32*k=d by omega] at hnx hx2
        have HNX:=Lib.hid hnx
        have hsh:(x:Int) / 2 ^ d=((x / 2 ^ d:Nat):Int):=by push_cast;rfl
        have HOZ:=Lib.hid (or_zero (x / 2 ^ d) (by omega))
        clear hnx hs hz
        go_wp2_with fail
        go_roundw
        case rel=>exact ⟨k+1,by go_num,by omega,by omega,by rw [HNX.out,show (-(32*(k:Int) - (32*(k:Int)+(d:Int)))).toNat=d by omega,hsh,HOZ.out],rfl⟩
        case measure=>simp [intOf];omega
      · obtain ⟨hl,hnx⟩:=hs.2 (by omega)
        obtain ⟨d,hd⟩:∃ d,32*k=m+d:=⟨32*k - m,by omega⟩
        have hdi:32*(k:Int) - (m:Int)=(d:Int):=by omega
        rw [show 32*k - m=d by omega] at hnx hl
        have HNX:=Lib.hid hnx
        have hsum:val (xs.take k) / 2 ^ m+x*2 ^ d<18446744073709551616:=by rw [← hnx];exact hle
        have HOZ:=Lib.hid (or_low hl hsum)
        have hsh:IntKind.u64.wrap ((x:Int)*2 ^ min d 64)=((x*2 ^ d:Nat):Int):=by
          have e1:x*2 ^ min d 64=x*2 ^ d:=min_shift (Nat.lt_of_le_of_lt (Nat.le_add_left _ _) hsum)
          have e:(x:Int)*2 ^ min d 64=((x*2 ^ d:Nat):Int):=by rw [← e1];push_cast;rfl
          rw [e]
          have h2:x*2 ^ d<18446744073709551616:=Nat.lt_of_le_of_lt (Nat.le_add_left _ _) hsum
          generalize x*2 ^ d=Y at *
          exact IntWalk.u64_in _ (by omega)
        have HSH:=Lib.hid hsh
        have HD:=Lib.hid hd
        clear hnx hs hsum hsh hl hd
        have hvb:val (xs.take k) / 2 ^ m<18446744073709551616:=HLE.out k hk
        generalize val (xs.take k) / 2 ^ m=V at *
        go_wp2_with fail
        go_roundw
        case rel=>exact ⟨k+1,by go_num,by omega,by omega,by rw [HNX.out,HSH.out,HOZ.out],rfl⟩
        case measure=>simp [intOf];omega
    · have hlt':¬ (k:Int)<(n:Int):=by omega
      obtain rfl:k=n:=by omega
      have HX:Hid (xs.take k=xs):=by rw [← HN.out];exact List.take_length
      go_wp2
      go_ret
      exact ⟨by rw [HX.out];rfl,rfl⟩
structure JB (w:World) (g e f:Nat) (ng:Bool) (o:Nat) (t:Int):Prop where
  lt:g+1<w.heap.size
  c0:w.cell? ⟨g,0,none⟩=some (.int .i64 (e:Int))
  c1:w.cell? ⟨g,1,none⟩=some (.int .i64 (f:Int))
  d0:w.cell? ⟨g+1,0,none⟩=some (.bool ng)
  d1:w.cell? ⟨g+1,1,none⟩=some (.int .u64 (o:Int))
  d2:w.cell? ⟨g+1,2,none⟩=some (.int .i64 t)
theorem JB.step {w w':World} {g e f o:Nat} {ng:Bool} {t:Int} (h:JB w g e f ng o t) (hb:Below w.heap.size w w'):JB w' g e f ng o t :=
  have h0:g<w.heap.size:=by have:=h.lt;omega
  ⟨Nat.lt_of_lt_of_le h.lt hb.size,(hb.cell (p:=⟨g,0,none⟩) h0).trans h.c0,(hb.cell (p:=⟨g,1,none⟩) h0).trans h.c1,(hb.cell (p:=⟨g+1,0,none⟩) h.lt).trans h.d0,(hb.cell (p:=⟨g+1,1,none⟩) h.lt).trans h.d1,(hb.cell (p:=⟨g+1,2,none⟩) h.lt).trans h.d2⟩
theorem jb_new (w:World) (e f o:Nat) (ng:Bool) (t:Int):JB ((w.alloc (.cells #[.int .i64 (e:Int),.int .i64 (f:Int)] 151)).alloc (.cells #[.bool ng,.int .u64 (o:Int),.int .i64 t] 155)) w.heap.size e f ng o t :=
  ⟨by simp,by rw [cell_old _ _ _ _ (by simp),cell_new];rfl,by rw [cell_old _ _ _ _ (by simp),cell_new];rfl,by rw [cell_at _ _ _ _ _ (by simp)];rfl,by rw [cell_at _ _ _ _ _ (by simp)];rfl,by rw [cell_at _ _ _ _ _ (by simp)];rfl⟩
theorem len64_any (o:Nat) (w:World) (h:o<18446744073709551616):Calls Tryz.prog 160 #[.int .u64 (o:Int)] w fun e w'=>e=.returned (.int .i64 ((lenB o:Nat):Int))∧w'=w :=
  (Tryz.bits_Len64 (o:Int) w (by omega) (by omega)).mono fun _ _ h=>by simpa [lenB] using h
theorem or_add2 {a f:Nat} (h:a<2 ^ f) (hf:f<64):bits BinOp.or IntKind.u64 (a:Int) ((2 ^ f:Nat):Int)=((a+2 ^ f:Nat):Int):=by
  have h1:2 ^ f≤2 ^ 63:=Nat.pow_le_pow_right (by decide) (by omega)
  rw [bits_or_u64_nat a _ (by omega) (by omega),Nat.or_comm,nat_join f (2 ^ f) a (Nat.mod_self _) h,Nat.add_comm]
def joinA (e f:Nat) (ng:Bool) (o:Nat) (t:Int):Value:=match joinF e f o t with | none=>.tuple #[.int .u64 0,.bool false] | some y=>.tuple #[.int .u64 ((y+(if ng then 2 ^ (e+f) else 0):Nat):Int),.bool true]
theorem join_any {e f:Nat} (hl:Lay e f) (ng:Bool) (o:Nat) (t:Int) (ho:o % 2=1) (h64:o<18446744073709551616) (ht:-100000≤t∧t≤100000) (w:World) :
    Calls Tryz.prog 130 #[layV e f,binV ng o t] w fun r w'=>r=.returned (joinA e f ng o t)∧Below w.heap.size w w':=by
  have h0:o ≠ 0:=by omega
  obtain ⟨l1,l2,l3⟩:=lenB_bounds h0 h64
  have hL64:lenB o≤64:=Lib.bitLen_le o 64 (by decide) h64
  obtain ⟨p1,p2,f1,f2,b1,b2⟩:=lay_bd hl
  have hls:-1074≤leastF e f∧leastF e f≤-24:=by rcases hl with ⟨rfl,rfl⟩ | ⟨rfl,rfl⟩ | ⟨rfl,rfl⟩ <;> decide
  have KL:=Lib.hid (fun W=>leastPlace_any hl W)
  have KB:=Lib.hid (fun W=>bias_any hl W)
  have K6:=Lib.hid (fun W=>len64_any o W h64)
  have HJ:=Lib.hid (jb_new w e f o ng t)
  have HB:=Lib.hid ((below_box' w #[.int .i64 (e:Int),.int .i64 (f:Int)] 151).alloc (by simp) (.cells #[.bool ng,.int .u64 (o:Int),.int .i64 t] 155))
  have hjf:joinA e f ng o t=if (t+(lenB o:Int) - 1 > 2 ^ (e - 1) - 1∨t<max (t+(lenB o:Int) - 1 - (f:Int)) (leastF e f)) then .tuple #[.int .u64 0,.bool false] else .tuple #[.int .u64 ((o*2 ^ (t - max (t+(lenB o:Int) - 1 - (f:Int)) (leastF e f)).toNat+(max (t+(lenB o:Int) - 1 - (f:Int)) (leastF e f) - leastF e f).toNat*2 ^ f+(if ng then 2 ^ (e+f) else 0):Nat):Int),.bool true]:=by
    unfold joinA joinF
    simp only []
    by_cases hc:(t+(lenB o:Int) - 1 > 2 ^ (e - 1) - 1∨t<max (t+(lenB o:Int) - 1 - (f:Int)) (leastF e f))
    · rw [if_pos hc,if_pos hc]
    · rw [if_neg hc,if_neg hc]
  have HJF:=Lib.hid hjf;clear hjf
  have HYB:Hid (¬ (t+(lenB o:Int) - 1 > 2 ^ (e - 1) - 1∨t<max (t+(lenB o:Int) - 1 - (f:Int)) (leastF e f))→o*2 ^ (t - max (t+(lenB o:Int) - 1 - (f:Int)) (leastF e f)).toNat+(max (t+(lenB o:Int) - 1 - (f:Int)) (leastF e f) - leastF e f).toNat*2 ^ f<2 ^ (e+f)):=fun hc=>(join_back hl ho h64 (by unfold joinF;simp only [];rw [if_neg hc])).1
  have hef63:2 ^ (e+f)≤2 ^ 63:=Nat.pow_le_pow_right (by decide) (by omega)
  have hpw:(2:Int) ^ f=((2 ^ f:Nat):Int):=by push_cast;rfl
  have hpw2:(2:Int) ^ (e+f)=((2 ^ (e+f):Nat):Int):=by push_cast;rfl
  have hor2:∀ y:Nat,y<2 ^ (e+f)→bits BinOp.or IntKind.u64 (y:Int) ((2 ^ (e+f):Nat):Int)=((y+2 ^ (e+f):Nat):Int):=fun y hy=>or_add2 hy (by omega)
  generalize joinA e f ng o t=A at *
  generalize hlb:lenB o=L at *
  generalize leastF e f=lst at *
  generalize (2:Int) ^ (e - 1) - 1=b at *
  obtain ⟨top,htop⟩:∃ top:Int,t+(L:Int) - 1=top:=⟨_,rfl⟩
  have hw1:IntKind.i64.wrap (t+(L:Int))=t+(L:Int):=IntWalk.i64_in _ (by omega)
  have hw2:IntKind.i64.wrap (t+(L:Int) - 1)=top:=by rw [htop];exact IntWalk.i64_in _ (by omega)
  rw [htop] at HJF HYB
  have HTOP:=Lib.hid htop
  have htb:-110000≤top∧top≤110000:=by omega
  clear htop
  go_enter Tryz.func130,Tryz.ntmps130
  unfold layV binV
  go_wp2_with fail
  generalize hW:((w.alloc (.cells #[.int .i64 (e:Int),.int .i64 (f:Int)] 151)).alloc (.cells #[.bool ng,.int .u64 (o:Int),.int .i64 t] 155))=W at *
  clear hW
  obtain ⟨j1,j2,j3,j4,j5,j6⟩:=HJ.out
  go_region_held3 (fun w'=>w'.cell? ⟨w.heap.size+1,1,none⟩=some (.int .u64 (o:Int))∧w'.cell? ⟨w.heap.size+1,2,none⟩=some (.int .i64 t)) (go_keep)
    (first
      | (go_at_call 160;refine (K6.out _).mono ?_;rintro r w1 ⟨rfl,rfl⟩))
  all_goals go_wp2_with fail
  have HJ1:=Lib.hid (HJ.out.step (below_drew (Below.refl _ _)))
  have HB1:=Lib.hid (below_on HB.out (below_drew (Below.refl _ _)))
  clear HJ HB j1 j2 j3 j4 j5 j6
  generalize W.drew=W1 at *
  obtain ⟨j1,j2,j3,j4,j5,j6⟩:=HJ1.out
  have hw3:IntKind.i64.wrap (top - (f:Int))=top - (f:Int):=IntWalk.i64_in _ (by omega)
  have hz1:w.heap.size<W1.heap.size:=by omega
  go_region_held3 (fun w'=>w'.cell? ⟨w.heap.size,0,none⟩=some (.int .i64 (e:Int))∧w'.cell? ⟨w.heap.size,1,none⟩=some (.int .i64 (f:Int))) (go_keep)
    (first
      | (go_at_call 166;refine (KL.out _).mono ?_;rintro r w2 ⟨rfl,hb2⟩;have hB2:=below_on (below_drew (Below.refl W1.heap.size W1)) hb2;have q0:=(hB2.cell (p:=⟨w.heap.size,0,none⟩) hz1).trans j2;have q1:=(hB2.cell (p:=⟨w.heap.size,1,none⟩) hz1).trans j3))
  all_goals go_wp2_with fail
  have HJ2:=Lib.hid (HJ1.out.step hB2)
  have HB2:=Lib.hid (below_on HB1.out hB2)
  clear HJ1 HB1 j1 j2 j3 j4 j5 j6 q0 q1 hb2 hB2
  obtain ⟨pl,hpl⟩:∃ pl:Int,max (top - (f:Int)) lst=pl:=⟨_,rfl⟩
  rw [hpl] at HJF HYB ⊢
  have hpb:-110000≤pl∧pl≤110000∧lst≤pl:=by omega
  clear hpl
  refine (KB.out _).mono ?_
  rintro r w3 ⟨rfl,hb3⟩
  have HJ3:=Lib.hid (HJ2.out.step hb3)
  have HB3:=Lib.hid (below_on HB2.out hb3)
  clear HJ2 HB2 hb3
  obtain ⟨j1,j2,j3,j4,j5,j6⟩:=HJ3.out
  by_cases hc1:top > b
  · have hJ:=HJF.out
    rw [if_pos (.inl hc1)] at hJ
    have hcc:b<top:=hc1
    have HJX:=Lib.hid hJ;clear hJ HJF HYB hc1
    go_wp2
    go_ret2
    exact ⟨by rw [HJX.out];rfl,HB3.out⟩
  · have hcc:¬ b<top:=hc1
    by_cases hc2:t<pl
    · have hJ:=HJF.out
      rw [if_pos (.inr hc2)] at hJ
      have HJX:=Lib.hid hJ;clear hJ HJF HYB hc1
      go_wp2
      go_ret2
      exact ⟨by rw [HJX.out];rfl,HB3.out⟩
    · have hJ:=HJF.out
      have hno:¬ (top > b∨t<pl):=by omega
      rw [if_neg hno] at hJ
      have hy:=HYB.out hno
      obtain ⟨d,hd⟩:∃ d:Nat,t - pl=(d:Int):=⟨(t - pl).toNat,by omega⟩
      obtain ⟨q,hq⟩:∃ q:Nat,pl - lst=(q:Int):=⟨(pl - lst).toNat,by omega⟩
      rw [hd,hq,Int.toNat_natCast,Int.toNat_natCast] at hJ hy
      have hsh1:IntKind.u64.wrap ((o:Int)*2 ^ min d 64)=((o*2 ^ d:Nat):Int):=by
        have hlt:o*2 ^ d<18446744073709551616:=by omega
        have e1:o*2 ^ min d 64=o*2 ^ d:=min_shift hlt
        have e:(o:Int)*2 ^ min d 64=((o*2 ^ d:Nat):Int):=by rw [← e1];push_cast;rfl
        rw [e]
        generalize o*2 ^ d=Y at *
        exact IntWalk.u64_in _ (by omega)
      have hsh2:IntKind.u64.wrap ((q:Int)*2 ^ f)=((q*2 ^ f:Nat):Int):=by
        have e:(q:Int)*2 ^ f=((q*2 ^ f:Nat):Int):=by push_cast;rfl
        rw [e]
        generalize q*2 ^ f=Y at *
        exact IntWalk.u64_in _ (by omega)
      have hor:=hor2 _ hy
      have HPW2:=Lib.hid hpw2
      have HSH1:=Lib.hid hsh1
      have HSH2:=Lib.hid hsh2
      have HJX:=Lib.hid hJ
      clear hJ HJF HYB hc1 hno hor2 hsh1 hsh2 hpw hpw2
      generalize q*2 ^ f=Y2 at *
      generalize o*2 ^ d=Y1 at *
      generalize (2:Nat) ^ (e+f)=Q at *
      have hwq:IntKind.i64.wrap (pl - lst)=(q:Int):=by rw [hq];exact IntWalk.i64_in _ (by omega)
      have hwd:IntKind.i64.wrap (t - pl)=(d:Int):=by rw [hd];exact IntWalk.i64_in _ (by omega)
      have hwe:IntKind.i64.wrap ((e:Int)+(f:Int))=(e:Int)+(f:Int):=IntWalk.i64_in _ (by omega)
      have hsum:IntKind.u64.wrap ((Y1:Int)+(Y2:Int))=((Y1+Y2:Nat):Int):=by rw [← Int.natCast_add];exact IntWalk.u64_in _ (by omega)
      have HSUM:=Lib.hid hsum
      have HOR:=Lib.hid hor
      have HY:=Lib.hid hy
      clear hsum hor hy
      go_wp2_with fail
      rw [HSH1.out]
      have hz3:w.heap.size<w3.heap.size:=by omega
      have hfl:(0:Int)≤(f:Int)∧(f:Int)<64:=by omega
      have hq0:IntKind.u64.wrap (q:Int)=(q:Int):=IntWalk.u64_in _ (by omega)
      go_region_held3 (fun w'=>w'.cell? ⟨w.heap.size,0,none⟩=some (.int .i64 (e:Int))∧w'.cell? ⟨w.heap.size,1,none⟩=some (.int .i64 (f:Int))) (go_keep)
        (first
          | (go_at_call 166;refine (KL.out _).mono ?_;rintro r w4 ⟨rfl,hb4⟩;have hB4:=below_on (below_drew (Below.refl w3.heap.size w3)) hb4;have q0:=(hB4.cell (p:=⟨w.heap.size,0,none⟩) hz3).trans j2;have q1:=(hB4.cell (p:=⟨w.heap.size,1,none⟩) hz3).trans j3))
      all_goals
        have hjj:=HJ3.out.step hB4
        obtain ⟨i1,i2,i3,i4,i5,i6⟩:=hjj
        have hqi:IntKind.i64.wrap (q:Int)=(q:Int):=IntWalk.i64_in _ (by omega)
        have HB4:=Lib.hid (below_on HB3.out hB4)
        rw [hqi,hq0,HSH2.out,HSUM.out]
        clear hb4 hB4 q0 q1 hqi hq0 hwq hwd hw1 hw2 hw3 j1 j2 j3 j4 j5 j6 hd hq
        have hY:=HY.out
        generalize Y1+Y2=Y at *
        cases ng
        · go_wp2
          go_ret2
          exact ⟨by rw [HJX.out];rfl,HB4.out⟩
        · have hsq:IntKind.u64.wrap (1*2 ^ (e+f))=(Q:Int):=by rw [Int.one_mul,HPW2.out];exact IntWalk.u64_in _ (by omega)
          have hsq2:IntKind.u64.wrap (2 ^ (e+f))=(Q:Int):=by rw [HPW2.out];exact IntWalk.u64_in _ (by omega)
          have hef:(0:Int)≤(e:Int)+(f:Int)∧(e:Int)+(f:Int)<64:=by omega
          have hor:=HOR.out
          go_wp2_with fail
          go_ret2
          exact ⟨by rw [HJX.out];first | rfl | (simp;done),HB4.out⟩
end Go.Proofs.YtnacbakcalcgaaaGreatDoor
