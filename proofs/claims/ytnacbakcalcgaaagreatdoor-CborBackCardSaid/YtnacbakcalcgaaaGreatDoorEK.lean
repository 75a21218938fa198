/- Texts of the claim. -/
import Derived.Test.YtnacbakcalcgaaaGreatDoorEI
import Derived.Test.YtnacbakcalcgaaaGreatDoorEJ
import Derived.Lib.AtoiErrMem
set_option linter.unusedVariables false
set_option linter.unusedSimpArgs false
set_option maxHeartbeats 8000000
set_option maxRecDepth 100000
namespace Go.Proofs.YtnacbakcalcgaaaGreatDoor
open Go.RowKit Go.Lib Go.Sort
def intAt (N:Nat) (e:Int):Option Nat:=if 0≤e∧bitsN (N*tenN e.toNat)≤400 then some (N*tenN e.toNat) else none
def fltOf (ng:Bool) (N:Nat) (e:Int):Option (Nat × Nat):=match toF 16 ng N e with
  | some y=>some (0,y)
  | none=>match toF 32 ng N e with
    | some y=>some (1,y)
    | none=>match toF 64 ng N e with
      | some y=>some (2,y)
      | none=>none
theorem shA_yes {ng:Bool} {N:Nat} {e:Int} {d y:Nat} (h:fltOf ng N e=some (d,y)):shA ng N e=.tuple #[.int .i64 ((16*2 ^ d:Nat):Int),.int .u64 (y:Int),.bool true]∧d≤2:=by
  unfold fltOf at h
  unfold shA
  cases h1:toF 16 ng N e with
  | some a=>rw [h1] at h;simp only [Option.some.injEq,Prod.mk.injEq] at h;obtain ⟨rfl,rfl⟩:=h;exact ⟨rfl,by omega⟩
  | none =>
    rw [h1] at h
    simp only at h ⊢
    cases h2:toF 32 ng N e with
    | some a=>rw [h2] at h;simp only [Option.some.injEq,Prod.mk.injEq] at h;obtain ⟨rfl,rfl⟩:=h;exact ⟨rfl,by omega⟩
    | none =>
      rw [h2] at h
      simp only at h ⊢
      cases h3:toF 64 ng N e with
      | some a=>rw [h3] at h;simp only [Option.some.injEq,Prod.mk.injEq] at h;obtain ⟨rfl,rfl⟩:=h;exact ⟨rfl,by omega⟩
      | none=>rw [h3] at h;cases h
theorem shA_no {ng:Bool} {N:Nat} {e:Int} (h:fltOf ng N e=none):shA ng N e=.tuple #[.int .i64 0,.int .u64 0,.bool false]:=by
  unfold fltOf at h
  unfold shA
  cases h1:toF 16 ng N e with
  | some a=>rw [h1] at h;cases h
  | none =>
    rw [h1] at h
    simp only at h ⊢
    cases h2:toF 32 ng N e with
    | some a=>rw [h2] at h;cases h
    | none =>
      rw [h2] at h
      simp only at h ⊢
      cases h3:toF 64 ng N e with
      | some a=>rw [h3] at h;cases h
      | none=>rfl
def decB (ng:Bool) (N:Nat) (e:Int):List Nat:=hd 6 4++hd 4 2++intB (decide (e<0)) (toldN (decide (e<0)) e.natAbs)++intB ng (toldN ng N)
def restB (ng:Bool) (N:Nat) (e:Int):List Nat:=match fltOf ng N e with
  | some (d,y)=>fltB d y
  | none=>decB ng N e
def numB (ng:Bool) (N:Nat) (e:Int):List Nat:=match intAt N e with
  | some M=>if shortN (toldN ng M) then intB ng (toldN ng M) else restB ng N e
  | none=>restB ng N e
theorem toF_bd {width:Int} {M d:Nat} {E:Int} {ng:Bool} (hM:M=0∨M % 10 ≠ 0) (h:toF width ng M E=some d):d<18446744073709551616:=by
  unfold toF at h
  split at h
  · cases h
  next e f hl =>
    have hL:=layOf_lay hl
    have h63:2 ^ (e+f)≤2 ^ 63:=Nat.pow_le_pow_right (by decide) (by rcases hL with ⟨rfl,rfl⟩ | ⟨rfl,rfl⟩ | ⟨rfl,rfl⟩ <;> decide)
    split at h
    · cases h;decide
    next h0 =>
      cases ht:toN e f M E with
      | none=>rw [ht] at h;cases h
      | some y =>
        rw [ht] at h
        simp only [Option.some.injEq] at h
        obtain ⟨h1,_⟩:=ex_to hL (by omega) ht
        cases ng <;> simp at h <;> omega
theorem fltOf_bd {ng:Bool} {M:Nat} {E:Int} {d y:Nat} (hM:M=0∨M % 10 ≠ 0) (h:fltOf ng M E=some (d,y)):y<18446744073709551616:=by
  unfold fltOf at h
  cases h1:toF 16 ng M E with
  | some a=>rw [h1] at h;simp only [Option.some.injEq,Prod.mk.injEq] at h;obtain ⟨rfl,rfl⟩:=h;exact toF_bd hM h1
  | none =>
    rw [h1] at h
    simp only at h
    cases h2:toF 32 ng M E with
    | some a=>rw [h2] at h;simp only [Option.some.injEq,Prod.mk.injEq] at h;obtain ⟨rfl,rfl⟩:=h;exact toF_bd hM h2
    | none =>
      rw [h2] at h
      simp only at h
      cases h3:toF 64 ng M E with
      | some a=>rw [h3] at h;simp only [Option.some.injEq,Prod.mk.injEq] at h;obtain ⟨rfl,rfl⟩:=h;exact toF_bd hM h3
      | none=>rw [h3] at h;cases h
theorem chk_tens {neg:Bool} {xs:List Nat} {e:Int} (ho:Okl xs) (h:chkB neg xs e=true):val xs=0∨val xs % 10 ≠ 0:=by
  by_cases h0:xs=[]
  · left;rw [h0];rfl
  · exact .inr (chkB_some h0 h).2.2.2.2
theorem float_any (d N:Nat) (w:World) (hd:d≤2) (hN:N<18446744073709551616):Calls Tryz.prog 51 #[.int .i64 ((16*2 ^ d:Nat):Int),.int .u64 (N:Int)] w (PutL (fltB d N) w):=by
  have:d=0∨d=1∨d=2:=by omega
  rcases this with rfl | rfl | rfl
  · exact float_16 N w hN
  · exact float_32 N w hN
  · exact float_64 N w hN
theorem NumOk.list {w:World} {neg:Bool} {ad:Option Addr} {n cap:Nat} {xs:List Nat} {e:Int} (h:NumOk w neg ad n cap xs e):ListOk w (.slice ad n cap) 90 (val xs) xs :=
  ⟨ad,cap,by rw [h.len],by rw [h.len];exact h.cap,by rw [h.len];exact h.n90,h.ok,h.rd,rfl⟩
theorem told_le (b:Bool) (N:Nat):toldN b N≤N:=by unfold toldN;split <;> omega
theorem bits_mono {N M:Nat} (h:N≤M):bitsN N≤bitsN M:=by
  rcases Nat.eq_zero_or_pos N with rfl | h0
  · rw [bitsN_z];exact Nat.zero_le _
  · obtain ⟨t,h1,h2,_⟩:=bitsN_bounds (Nat.ne_of_gt h0)
    have h3:=lt_bits M
    have:=(Nat.pow_lt_pow_iff_right (show 1<2 by decide)).1 (Nat.lt_of_le_of_lt (Nat.le_trans h2 h) h3)
    omega
theorem bits_small {q:Nat} (h:q≤2000):bitsN q≤32:=by
  have:=bits_words (xs:=[q]) (Okl.cons (by rw [B32_eq];omega) Okl.nil)
  simpa [val] using this
theorem hd_len (m n:Nat):(hd m n).length≤9:=by unfold hd tailN;repeat (first | split | simp)
theorem intB_len (b:Bool) (T:Nat) {k:Nat} (h:bitsN T≤k):(intB b T).length≤25+k:=by
  have h1:=hd_len (if b then 1 else 0) T
  have h2:=hd_len 6 (if b then 3 else 2)
  have h3:=hd_len 2 (bytesN T).length
  have h4:=bytesN_len T
  unfold intB
  split
  · omega
  · rw [List.length_append,List.length_append];omega
theorem number_yes (ng:Bool) (ad:Option Addr) (n cap:Nat) (xs:List Nat) (e:Int) (w:World) (ha:NumOk w ng ad n cap xs e) (hT:DB w) (hi:0≤e∧bitsN (val xs*tenN e.toNat)≤400) :
    Calls Tryz.prog 22 #[.agg #[.bool ng,.slice ad n cap,.int .i64 e]] w (PutL (numB ng (val xs) e) w):=by
  have hbl:=below_box w #[.bool ng,.slice ad n cap,.int .i64 e] 25
  have HBX:=Lib.hid hbl
  have hsz:(w.alloc (.cells #[.bool ng,.slice ad n cap,.int .i64 e] 25)).heap.size=w.heap.size+1:=by simp
  have KI:=Lib.hid (int_core ng (.slice ad n cap) e ng ad n cap xs e _ (ha.below hbl) (fun W hW=>(ha.below hbl).same W hW) ⟨_,_,_,rfl⟩)
  have HA:=Lib.hid ha;have HDB:=Lib.hid hT
  have HSZ:=Lib.hid hsz
  unfold IntNP at KI
  rw [hsz] at KI
  obtain ⟨M,hM⟩:∃ M,val xs*tenN e.toNat=M:=⟨_,rfl⟩
  simp only [if_pos hi] at KI
  simp only [hM] at KI
  have HML:Hid ((limbs M).length≤1291):=Lib.hid (by
    rw [← hM]
    have h1:limbs (val xs)=xs:=chkB_limbs ha.ok ha.chk
    refine prod_len (by rw [h1,ha.len];exact ha.n90) ?_
    have:=ha.lo
    omega)
  rw [hM] at hi
  have HI:Hid (intAt (val xs) e=some M):=Lib.hid (by unfold intAt;rw [hM,if_pos hi])
  clear hbl ha hT hsz
  go_enter Tryz.func22,Tryz.ntmps22
  go_wp2_with fail
  refine KI.out.mono ?_
  rintro r w1 ⟨hb1,v1,rfl,ho1⟩
  have HB1:=Lib.hid (HBX.out.trans (hb1.mono (by simp)))
  have hs1:=hb1.size
  rw [HSZ.out] at hs1
  have HS1:=Lib.hid hs1
  have c0:w1.cell? ⟨w.heap.size,0,none⟩=some (.bool ng):=by rw [hb1.cell (by simp)];simp
  have c1:w1.cell? ⟨w.heap.size,1,none⟩=some (.slice ad n cap):=by rw [hb1.cell (by simp)];simp
  have c2:w1.cell? ⟨w.heap.size,2,none⟩=some (.int .i64 e):=by rw [hb1.cell (by simp)];simp
  obtain ⟨vad,vcap,rfl,hvl⟩:=(show ∃ vad vcap,v1=.slice vad (limbs M).length vcap∧ListOk w1 (.slice vad (limbs M).length vcap) 1291 M (limbs M) from by obtain ⟨vad,vcap,rfl,h1,h2,_⟩:=ho1.view;exact ⟨vad,vcap,rfl,vad,vcap,rfl,h1,HML.out,limbs_ok _,h2,val_limbs _⟩)
  have HV:=Lib.hid hvl
  clear ho1 hvl
  clear hb1 hs1
  have KO:=Lib.hid (integerOf_cb (neg:=ng) HV.out (by omega))
  go_wp2_with fail
  refine KO.out.mono ?_
  rintro r w2 ⟨ta,tn,tc,txs,rfl,htl,hb2⟩
  have HT2:=Lib.hid htl
  have KS:=Lib.hid (short_cb (b:=ng) HT2.out (by omega))
  have c0:=(hb2.cell (p:=⟨w.heap.size,0,none⟩) HS1.out).trans c0
  have c1:=(hb2.cell (p:=⟨w.heap.size,1,none⟩) HS1.out).trans c1
  have c2:=(hb2.cell (p:=⟨w.heap.size,2,none⟩) HS1.out).trans c2
  have HB2:=Lib.hid (below_on HB1.out hb2)
  have HD2:=Lib.hid hb2
  have HS2:=Lib.hid (Nat.lt_of_lt_of_le HS1.out hb2.size)
  clear hb2
  go_wp2_with fail
  refine KS.out.mono ?_
  rintro r w3 ⟨rfl,hb3⟩
  have HV3:=Lib.hid ((HV.out.below HD2.out).below hb3)
  have c0:=(hb3.cell (p:=⟨w.heap.size,0,none⟩) HS2.out).trans c0
  have c1:=(hb3.cell (p:=⟨w.heap.size,1,none⟩) HS2.out).trans c1
  have c2:=(hb3.cell (p:=⟨w.heap.size,2,none⟩) HS2.out).trans c2
  have HB3:=Lib.hid (below_on HB2.out hb3)
  have HD3:=Lib.hid hb3
  have HS3:=Lib.hid (Nat.lt_of_lt_of_le HS2.out hb3.size)
  clear hb3
  cases hsh:shortN (toldN ng M) with
  | true =>
    have HSH:=Lib.hid hsh;clear hsh
    have KO3:=Lib.hid (integerOf_cb (neg:=ng) HV3.out (by omega))
    go_wp2_with fail
    refine KO3.out.mono ?_
    rintro r w4 ⟨ua,un,uc,uxs,rfl,hul,hb4⟩
    have HU4:=Lib.hid hul
    have KB:=Lib.hid (bytes_cb (b:=ng) HU4.out (by omega))
    have HB4:=Lib.hid (below_on HB3.out hb4)
    clear hul hb4
    go_wp2_with fail
    refine KB.out.mono ?_
    rintro r w5 ⟨v5,rfl,ho5,hb5⟩
    have HO5:=Lib.hid ho5;have HB5:=Lib.hid hb5
    clear ho5 hb5
    go_wp2_with fail
    go_ret
    have e1:numB ng (val xs) e=intB ng (toldN ng M):=by unfold numB;rw [HI.out];simp only;rw [if_pos HSH.out]
    rw [e1]
    exact ⟨v5,rfl,own_monoB HO5.out HB4.out.size,below_on HB4.out HB5.out⟩
  | false =>
    have HSH:=Lib.hid hsh;clear hsh
    have HR:Hid (numB ng (val xs) e=restB ng (val xs) e):=Lib.hid (by unfold numB;rw [HI.out];simp only;rw [if_neg (by rw [HSH.out];decide)])
    have KSH:=Lib.hid (shortest_num (((Ctx.begin w3).push (x:=⟨.slice ad n cap,90,val xs,xs⟩) (HA.out.list.below HB3.out))) (HDB.out.below HB3.out) 0 rfl (by omega) ng e HA.out.chk)
    cases hf:fltOf ng (val xs) e with
    | some p =>
      obtain ⟨d,y⟩:=p
      obtain ⟨hsa,hd2⟩:=shA_yes hf
      have hyb:=fltOf_bd (chk_tens HA.out.ok HA.out.chk) hf
      have HF:=Lib.hid (fun W=>float_any d y W hd2 hyb)
      rw [hsa] at KSH
      have HFL:=Lib.hid hf
      clear hf hsa
      generalize ((16*2 ^ d:Nat):Int)=wd at *
      go_wp2_with fail
      refine KSH.out.mono ?_
      rintro r w6 ⟨rfl,hc6⟩
      have HB6:=Lib.hid (below_on HB3.out hc6.below)
      clear hc6 KSH
      go_wp2_with fail
      refine (HF.out _).mono ?_
      rintro r w7 ⟨v7,rfl,ho7,hb7⟩
      have HO7:=Lib.hid ho7;have HB7:=Lib.hid hb7
      clear ho7 hb7
      go_wp2_with fail
      go_ret
      have e1:numB ng (val xs) e=fltB d y:=by rw [HR.out];unfold restB;rw [HFL.out]
      rw [e1]
      exact ⟨v7,rfl,own_monoB HO7.out HB6.out.size,below_on HB6.out HB7.out⟩
    | none =>
      rw [shA_no hf] at KSH
      have HFL:=Lib.hid hf
      clear hf
      go_wp2_with fail
      refine KSH.out.mono ?_
      rintro r w6 ⟨rfl,hc6⟩
      have hb6:=hc6.below
      clear hc6 KSH
      have c0:=(hb6.cell (p:=⟨w.heap.size,0,none⟩) HS3.out).trans c0
      have c1:=(hb6.cell (p:=⟨w.heap.size,1,none⟩) HS3.out).trans c1
      have c2:=(hb6.cell (p:=⟨w.heap.size,2,none⟩) HS3.out).trans c2
      have HB6:=Lib.hid (below_on HB3.out hb6)
      have HD6:=Lib.hid hb6
      have HS6:=Lib.hid (Nat.lt_of_lt_of_le HS3.out hb6.size)
      clear hb6
      have KP:=Lib.hid (hput_any none [] 0 0 4 6 w6 rfl (by omega) (by omega) (RdV.nil _ _) (by omega))
      go_wp2_with fail
      refine KP.out.mono ?_
      rintro r w7 ⟨v7,rfl,ho,hb7⟩
      obtain ⟨ad7,cap7,rfl,hc7,hr7,_,_,_⟩:=own_viewN ho
      have e3:([]++hd ((6:Int) % 8).toNat 4).length=1:=rfl
      rw [e3] at hc7
      simp only [e3]
      have KQ:=Lib.hid (hput_any ad7 ([]++hd ((6:Int) % 8).toNat 4) 1 cap7 2 4 w7 e3 (by omega) hc7 hr7 (by omega))
      clear ho hr7
      have c0:=(hb7.cell (p:=⟨w.heap.size,0,none⟩) HS6.out).trans c0
      have c1:=(hb7.cell (p:=⟨w.heap.size,1,none⟩) HS6.out).trans c1
      have c2:=(hb7.cell (p:=⟨w.heap.size,2,none⟩) HS6.out).trans c2
      have HB7:=Lib.hid (below_on HB6.out hb7)
      have HD7:=Lib.hid hb7
      have HS7:=Lib.hid (Nat.lt_of_lt_of_le HS6.out hb7.size)
      clear hb7
      go_wp2_with fail
      refine KQ.out.mono ?_
      rintro r w8 ⟨v8,rfl,ho,hb8⟩
      obtain ⟨B7,hB7⟩:∃ B7,[]++hd ((6:Int) % 8).toNat 4++hd ((4:Int) % 8).toNat 2=B7:=⟨_,rfl⟩
      rw [hB7] at ho
      have HLN:Hid (B7.length=2):=Lib.hid (by rw [← hB7];rfl)
      have HEB:=Lib.hid hB7
      clear hB7
      have HO8:=Lib.hid ho;have HQ8:=Lib.hid hb8.size
      clear ho
      have c0:=(hb8.cell (p:=⟨w.heap.size,0,none⟩) HS7.out).trans c0
      have c1:=(hb8.cell (p:=⟨w.heap.size,1,none⟩) HS7.out).trans c1
      have c2:=(hb8.cell (p:=⟨w.heap.size,2,none⟩) HS7.out).trans c2
      have HB8:=Lib.hid (below_on HB7.out hb8)
      have HD8:=Lib.hid hb8
      have HS8:=Lib.hid (Nat.lt_of_lt_of_le HS7.out hb8.size)
      clear hb8
      obtain ⟨sg,hsg⟩:∃ sg,decide (e<0)=sg:=⟨_,rfl⟩
      obtain ⟨q,hq⟩:∃ q,e.natAbs=q:=⟨_,rfl⟩
      have hlo:=HA.out.lo
      have hmx:max e (-e)=(q:Int):=by omega
      have e9:IntKind.i64.wrap (-e) = -e:=IntWalk.i64_in _ (by omega)
      have e10:(q:Int) % 4294967296=(q:Int):=by omega
      have KO9:=Lib.hid (integerOf_cb (neg:=sg) (show ListOk (w8.alloc (.cells #[.int .u32 (q:Int)] 51)) _ 1 q [q] from ent_lit w8 (x:=q) (by rw [B32_eq];omega)) (by omega))
      have HDB8:=Lib.hid (HDB.out.below HB8.out)
      have HSQ:=Lib.hid hsg;have HQQ:=Lib.hid hq
      have HAL:=Lib.hid ((Below.refl w8.heap.size w8).alloc (Nat.le_refl _) (.cells #[.int .u32 (q:Int)] 51))
      clear hq
      go_wp2_with fail
      refine KO9.out.mono ?_
      rintro r w9 ⟨a9,n9,p9,x9,rfl,hl9,hb9⟩
      have HL9:=Lib.hid hl9
      have KB9:=Lib.hid (bytes_cb (b:=sg) HL9.out (by omega))
      replace hb9:=below_on HAL.out hb9
      have HO9:=Lib.hid (own_onN HO8.out hb9)
      clear hl9 hlo hmx e9 e10 hsg
      have c0:=(hb9.cell (p:=⟨w.heap.size,0,none⟩) HS8.out).trans c0
      have c1:=(hb9.cell (p:=⟨w.heap.size,1,none⟩) HS8.out).trans c1
      have c2:=(hb9.cell (p:=⟨w.heap.size,2,none⟩) HS8.out).trans c2
      have HB9:=Lib.hid (below_on HB8.out hb9)
      have HD9:=Lib.hid hb9
      have HS9:=Lib.hid (Nat.lt_of_lt_of_le HS8.out hb9.size)
      clear hb9
      go_wp2_with fail
      refine KB9.out.mono ?_
      rintro r w10 ⟨v10,rfl,ho10,hb10⟩
      obtain ⟨ad10,cap10,rfl,hc10,hr10,_,_,h010⟩:=own_viewN ho10
      have HO10:=Lib.hid (own_onN HO9.out hb10)
      have HR10:=Lib.hid hr10
      have HN10:=Lib.hid h010
      have HLB:=Lib.hid (intB_len sg (toldN sg q) (k:=32) (Nat.le_trans (bits_mono (told_le sg q)) (bits_small (by have:=HQQ.out;have:=HA.out.lo;omega))))
      clear ho10 hr10 h010 hc10
      have c0:=(hb10.cell (p:=⟨w.heap.size,0,none⟩) HS9.out).trans c0
      have c1:=(hb10.cell (p:=⟨w.heap.size,1,none⟩) HS9.out).trans c1
      have c2:=(hb10.cell (p:=⟨w.heap.size,2,none⟩) HS9.out).trans c2
      have HB10:=Lib.hid (below_on HB9.out hb10)
      have HD10:=Lib.hid hb10
      have HS10:=Lib.hid (Nat.lt_of_lt_of_le HS9.out hb10.size)
      clear hb10
      have HQX:=Lib.hid (Nat.le_trans HQ8.out (Nat.le_trans HD9.out.size HD10.out.size))
      go_wp2_with (at_builtin;refine wpl_putR _ rfl _ _ rfl w7.heap.size v8 _ _ rfl HO10.out HQX.out ad10 _ cap10 rfl (intB sg (toldN sg q)) rfl HR10.out (fun h=>(HN10.out h).1) (by have:=HLN.out;have:=HLB.out;omega) ?_)
      intro v11 w11 ho11 hg11
      have hb11:Below w7.heap.size w10 w11:=(Below.refl _ _).grown hg11 HQX.out (fun g hg=>(HO10.out.lt g hg).1)
      have HO11:=Lib.hid ho11
      have HQ11:=Lib.hid (Nat.le_trans HQX.out hb11.size)
      have c0:=(hb11.cell (p:=⟨w.heap.size,0,none⟩) HS7.out).trans c0
      have c1:=(hb11.cell (p:=⟨w.heap.size,1,none⟩) HS7.out).trans c1
      have c2:=(hb11.cell (p:=⟨w.heap.size,2,none⟩) HS7.out).trans c2
      have HB11:=Lib.hid (HB10.out.trans (hb11.mono (Nat.le_of_lt HS7.out)))
      have HS11:=Lib.hid (Nat.lt_of_lt_of_le HS10.out hb11.size)
      have HLB2:=Lib.hid (intB_len ng (toldN ng (val xs)) (k:=2880) (Nat.le_trans (bits_mono (told_le ng _)) (Nat.le_trans (bits_words HA.out.ok) (by have:=HA.out.n90;have:=HA.out.len;omega))))
      have KOC:=Lib.hid (integerOf_cb (neg:=ng) (HA.out.list.below HB11.out) (by omega))
      clear ho11 hg11 hb11 HO8 HO9 HO10 HR10 HN10
      go_wp2_with fail
      refine KOC.out.mono ?_
      rintro r w12 ⟨a12,n12,p12,x12,rfl,hl12,hb12⟩
      have HL12:=Lib.hid hl12
      have KB12:=Lib.hid (bytes_cb (b:=ng) HL12.out (by omega))
      have HO12:=Lib.hid (own_onN HO11.out hb12)
      clear hl12
      have c0:=(hb12.cell (p:=⟨w.heap.size,0,none⟩) HS11.out).trans c0
      have c1:=(hb12.cell (p:=⟨w.heap.size,1,none⟩) HS11.out).trans c1
      have c2:=(hb12.cell (p:=⟨w.heap.size,2,none⟩) HS11.out).trans c2
      have HB12:=Lib.hid (below_on HB11.out hb12)
      have HD12:=Lib.hid hb12
      have HS12:=Lib.hid (Nat.lt_of_lt_of_le HS11.out hb12.size)
      clear hb12
      go_wp2_with fail
      refine KB12.out.mono ?_
      rintro r w13 ⟨v13,rfl,ho13,hb13⟩
      obtain ⟨ad13,cap13,rfl,hc13,hr13,_,_,h013⟩:=own_viewN ho13
      have HO13:=Lib.hid (own_onN HO12.out hb13)
      have HR13:=Lib.hid hr13
      have HN13:=Lib.hid h013
      clear ho13 hr13 h013 hc13
      have c0:=(hb13.cell (p:=⟨w.heap.size,0,none⟩) HS12.out).trans c0
      have c1:=(hb13.cell (p:=⟨w.heap.size,1,none⟩) HS12.out).trans c1
      have c2:=(hb13.cell (p:=⟨w.heap.size,2,none⟩) HS12.out).trans c2
      have HB13:=Lib.hid (below_on HB12.out hb13)
      have HD13:=Lib.hid hb13
      have HS13:=Lib.hid (Nat.lt_of_lt_of_le HS12.out hb13.size)
      clear hb13
      have HQ13:=Lib.hid (Nat.le_trans HQ11.out (Nat.le_trans HD12.out.size HD13.out.size))
      go_wp2_with (at_builtin;refine wpl_putR _ rfl _ _ rfl w7.heap.size v11 _ _ rfl HO13.out HQ13.out ad13 _ cap13 rfl (intB ng (toldN ng (val xs))) rfl HR13.out (fun h=>(HN13.out h).1) (by have:=HLN.out;have:=HLB.out;have:=HLB2.out;omega) ?_)
      intro v14 w14 ho14 hg14
      have HO14:=Lib.hid (own_monoB ho14 (Nat.le_of_lt HS7.out))
      have HB14:=Lib.hid (HB13.out.grown hg14 HB13.out.size (fun g hg=>Nat.le_trans (Nat.le_of_lt HS7.out) (HO13.out.lt g hg).1))
      clear ho14 hg14
      go_wp2_with fail
      go_ret
      have e1:numB ng (val xs) e=B7++intB sg (toldN sg q)++intB ng (toldN ng (val xs)):=by rw [HR.out,← HEB.out];unfold restB;rw [HFL.out];simp only;unfold decB;rw [HSQ.out,HQQ.out];rfl
      have e2:(numB ng (val xs) e).length=B7.length+(intB sg (toldN sg q)).length+(intB ng (toldN ng (val xs))).length:=by rw [e1,List.length_append,List.length_append]
      refine ⟨v14,rfl,?_,HB14.out⟩
      have ho:=HO14.out
      rw [e2,e1]
      first | exact ho | simpa using ho
theorem number_no (ng:Bool) (ad:Option Addr) (n cap:Nat) (xs:List Nat) (e:Int) (w:World) (ha:NumOk w ng ad n cap xs e) (hT:DB w) (hi:¬ (0≤e∧bitsN (val xs*tenN e.toNat)≤400)) :
    Calls Tryz.prog 22 #[.agg #[.bool ng,.slice ad n cap,.int .i64 e]] w (PutL (numB ng (val xs) e) w):=by
  have hbl:=below_box w #[.bool ng,.slice ad n cap,.int .i64 e] 25
  have HBX:=Lib.hid hbl
  have hsz:(w.alloc (.cells #[.bool ng,.slice ad n cap,.int .i64 e] 25)).heap.size=w.heap.size+1:=by simp
  have KI:=Lib.hid (int_core ng (.slice ad n cap) e ng ad n cap xs e _ (ha.below hbl) (fun W hW=>(ha.below hbl).same W hW) ⟨_,_,_,rfl⟩)
  have HA:=Lib.hid ha;have HDB:=Lib.hid hT
  have HSZ:=Lib.hid hsz
  unfold IntNP at KI
  rw [hsz] at KI
  simp only [if_neg hi] at KI
  have HI:Hid (intAt (val xs) e=none):=Lib.hid (by unfold intAt;rw [if_neg hi])
  clear hbl ha hT hsz
  go_enter Tryz.func22,Tryz.ntmps22
  go_wp2_with fail
  refine KI.out.mono ?_
  rintro r w1 ⟨hb1,rfl⟩
  have HB1:=Lib.hid (HBX.out.trans (hb1.mono (by simp)))
  have hs1:=hb1.size
  rw [HSZ.out] at hs1
  have HS1:=Lib.hid hs1
  have c0:w1.cell? ⟨w.heap.size,0,none⟩=some (.bool ng):=by rw [hb1.cell (by simp)];simp
  have c1:w1.cell? ⟨w.heap.size,1,none⟩=some (.slice ad n cap):=by rw [hb1.cell (by simp)];simp
  have c2:w1.cell? ⟨w.heap.size,2,none⟩=some (.int .i64 e):=by rw [hb1.cell (by simp)];simp
  clear hb1 hs1
  have HR:Hid (numB ng (val xs) e=restB ng (val xs) e):=Lib.hid (by unfold numB;rw [HI.out])
  have KSH:=Lib.hid (shortest_num (((Ctx.begin w1).push (x:=⟨.slice ad n cap,90,val xs,xs⟩) (HA.out.list.below HB1.out))) (HDB.out.below HB1.out) 0 rfl (by omega) ng e HA.out.chk)
  cases hf:fltOf ng (val xs) e with
  | some p =>
    obtain ⟨d,y⟩:=p
    obtain ⟨hsa,hd2⟩:=shA_yes hf
    have hyb:=fltOf_bd (chk_tens HA.out.ok HA.out.chk) hf
    have HF:=Lib.hid (fun W=>float_any d y W hd2 hyb)
    rw [hsa] at KSH
    have HFL:=Lib.hid hf
    clear hf hsa
    generalize ((16*2 ^ d:Nat):Int)=wd at *
    go_wp2_with fail
    refine KSH.out.mono ?_
    rintro r w6 ⟨rfl,hc6⟩
    have HB6:=Lib.hid (below_on HB1.out hc6.below)
    clear hc6 KSH
    go_wp2_with fail
    refine (HF.out _).mono ?_
    rintro r w7 ⟨v7,rfl,ho7,hb7⟩
    have HO7:=Lib.hid ho7;have HB7:=Lib.hid hb7
    clear ho7 hb7
    go_wp2_with fail
    go_ret
    have e1:numB ng (val xs) e=fltB d y:=by rw [HR.out];unfold restB;rw [HFL.out]
    rw [e1]
    exact ⟨v7,rfl,own_monoB HO7.out HB6.out.size,below_on HB6.out HB7.out⟩
  | none =>
    rw [shA_no hf] at KSH
    have HFL:=Lib.hid hf
    clear hf
    go_wp2_with fail
    refine KSH.out.mono ?_
    rintro r w6 ⟨rfl,hc6⟩
    have hb6:=hc6.below
    clear hc6 KSH
    have c0:=(hb6.cell (p:=⟨w.heap.size,0,none⟩) HS1.out).trans c0
    have c1:=(hb6.cell (p:=⟨w.heap.size,1,none⟩) HS1.out).trans c1
    have c2:=(hb6.cell (p:=⟨w.heap.size,2,none⟩) HS1.out).trans c2
    have HB6:=Lib.hid (below_on HB1.out hb6)
    have HD6:=Lib.hid hb6
    have HS6:=Lib.hid (Nat.lt_of_lt_of_le HS1.out hb6.size)
    clear hb6
    have KP:=Lib.hid (hput_any none [] 0 0 4 6 w6 rfl (by omega) (by omega) (RdV.nil _ _) (by omega))
    go_wp2_with fail
    refine KP.out.mono ?_
    rintro r w7 ⟨v7,rfl,ho,hb7⟩
    obtain ⟨ad7,cap7,rfl,hc7,hr7,_,_,_⟩:=own_viewN ho
    have e3:([]++hd ((6:Int) % 8).toNat 4).length=1:=rfl
    rw [e3] at hc7
    simp only [e3]
    have KQ:=Lib.hid (hput_any ad7 ([]++hd ((6:Int) % 8).toNat 4) 1 cap7 2 4 w7 e3 (by omega) hc7 hr7 (by omega))
    clear ho hr7
    have c0:=(hb7.cell (p:=⟨w.heap.size,0,none⟩) HS6.out).trans c0
    have c1:=(hb7.cell (p:=⟨w.heap.size,1,none⟩) HS6.out).trans c1
    have c2:=(hb7.cell (p:=⟨w.heap.size,2,none⟩) HS6.out).trans c2
    have HB7:=Lib.hid (below_on HB6.out hb7)
    have HD7:=Lib.hid hb7
    have HS7:=Lib.hid (Nat.lt_of_lt_of_le HS6.out hb7.size)
    clear hb7
    go_wp2_with fail
    refine KQ.out.mono ?_
    rintro r w8 ⟨v8,rfl,ho,hb8⟩
    obtain ⟨B7,hB7⟩:∃ B7,[]++hd ((6:Int) % 8).toNat 4++hd ((4:Int) % 8).toNat 2=B7:=⟨_,rfl⟩
    rw [hB7] at ho
    have HLN:Hid (B7.length=2):=Lib.hid (by rw [← hB7];rfl)
    have HEB:=Lib.hid hB7
    clear hB7
    have HO8:=Lib.hid ho;have HQ8:=Lib.hid hb8.size
    clear ho
    have c0:=(hb8.cell (p:=⟨w.heap.size,0,none⟩) HS7.out).trans c0
    have c1:=(hb8.cell (p:=⟨w.heap.size,1,none⟩) HS7.out).trans c1
    have c2:=(hb8.cell (p:=⟨w.heap.size,2,none⟩) HS7.out).trans c2
    have HB8:=Lib.hid (below_on HB7.out hb8)
    have HD8:=Lib.hid hb8
    have HS8:=Lib.hid (Nat.lt_of_lt_of_le HS7.out hb8.size)
    clear hb8
    obtain ⟨sg,hsg⟩:∃ sg,decide (e<0)=sg:=⟨_,rfl⟩
    obtain ⟨q,hq⟩:∃ q,e.natAbs=q:=⟨_,rfl⟩
    have hlo:=HA.out.lo
    have hmx:max e (-e)=(q:Int):=by omega
    have e9:IntKind.i64.wrap (-e) = -e:=IntWalk.i64_in _ (by omega)
    have e10:(q:Int) % 4294967296=(q:Int):=by omega
    have KO9:=Lib.hid (integerOf_cb (neg:=sg) (show ListOk (w8.alloc (.cells #[.int .u32 (q:Int)] 51)) _ 1 q [q] from ent_lit w8 (x:=q) (by rw [B32_eq];omega)) (by omega))
    have HDB8:=Lib.hid (HDB.out.below HB8.out)
    have HSQ:=Lib.hid hsg;have HQQ:=Lib.hid hq
    have HAL:=Lib.hid ((Below.refl w8.heap.size w8).alloc (Nat.le_refl _) (.cells #[.int .u32 (q:Int)] 51))
    clear hq
    go_wp2_with fail
    refine KO9.out.mono ?_
    rintro r w9 ⟨a9,n9,p9,x9,rfl,hl9,hb9⟩
    have HL9:=Lib.hid hl9
    have KB9:=Lib.hid (bytes_cb (b:=sg) HL9.out (by omega))
    replace hb9:=below_on HAL.out hb9
    have HO9:=Lib.hid (own_onN HO8.out hb9)
    clear hl9 hlo hmx e9 e10 hsg
    have c0:=(hb9.cell (p:=⟨w.heap.size,0,none⟩) HS8.out).trans c0
    have c1:=(hb9.cell (p:=⟨w.heap.size,1,none⟩) HS8.out).trans c1
    have c2:=(hb9.cell (p:=⟨w.heap.size,2,none⟩) HS8.out).trans c2
    have HB9:=Lib.hid (below_on HB8.out hb9)
    have HD9:=Lib.hid hb9
    have HS9:=Lib.hid (Nat.lt_of_lt_of_le HS8.out hb9.size)
    clear hb9
    go_wp2_with fail
    refine KB9.out.mono ?_
    rintro r w10 ⟨v10,rfl,ho10,hb10⟩
    obtain ⟨ad10,cap10,rfl,hc10,hr10,_,_,h010⟩:=own_viewN ho10
    have HO10:=Lib.hid (own_onN HO9.out hb10)
    have HR10:=Lib.hid hr10
    have HN10:=Lib.hid h010
    have HLB:=Lib.hid (intB_len sg (toldN sg q) (k:=32) (Nat.le_trans (bits_mono (told_le sg q)) (bits_small (by have:=HQQ.out;have:=HA.out.lo;omega))))
    clear ho10 hr10 h010 hc10
    have c0:=(hb10.cell (p:=⟨w.heap.size,0,none⟩) HS9.out).trans c0
    have c1:=(hb10.cell (p:=⟨w.heap.size,1,none⟩) HS9.out).trans c1
    have c2:=(hb10.cell (p:=⟨w.heap.size,2,none⟩) HS9.out).trans c2
    have HB10:=Lib.hid (below_on HB9.out hb10)
    have HD10:=Lib.hid hb10
    have HS10:=Lib.hid (Nat.lt_of_lt_of_le HS9.out hb10.size)
    clear hb10
    have HQX:=Lib.hid (Nat.le_trans HQ8.out (Nat.le_trans HD9.out.size HD10.out.size))
    go_wp2_with (at_builtin;refine wpl_putR _ rfl _ _ rfl w7.heap.size v8 _ _ rfl HO10.out HQX.out ad10 _ cap10 rfl (intB sg (toldN sg q)) rfl HR10.out (fun h=>(HN10.out h).1) (by have:=HLN.out;have:=HLB.out;omega) ?_)
    intro v11 w11 ho11 hg11
    have hb11:Below w7.heap.size w10 w11:=(Below.refl _ _).grown hg11 HQX.out (fun g hg=>(HO10.out.lt g hg).1)
    have HO11:=Lib.hid ho11
    have HQ11:=Lib.hid (Nat.le_trans HQX.out hb11.size)
    have c0:=(hb11.cell (p:=⟨w.heap.size,0,none⟩) HS7.out).trans c0
    have c1:=(hb11.cell (p:=⟨w.heap.size,1,none⟩) HS7.out).trans c1
    have c2:=(hb11.cell (p:=⟨w.heap.size,2,none⟩) HS7.out).trans c2
    have HB11:=Lib.hid (HB10.out.trans (hb11.mono (Nat.le_of_lt HS7.out)))
    have HS11:=Lib.hid (Nat.lt_of_lt_of_le HS10.out hb11.size)
    have HLB2:=Lib.hid (intB_len ng (toldN ng (val xs)) (k:=2880) (Nat.le_trans (bits_mono (told_le ng _)) (Nat.le_trans (bits_words HA.out.ok) (by have:=HA.out.n90;have:=HA.out.len;omega))))
    have KOC:=Lib.hid (integerOf_cb (neg:=ng) (HA.out.list.below HB11.out) (by omega))
    clear ho11 hg11 hb11 HO8 HO9 HO10 HR10 HN10
    go_wp2_with fail
    refine KOC.out.mono ?_
    rintro r w12 ⟨a12,n12,p12,x12,rfl,hl12,hb12⟩
    have HL12:=Lib.hid hl12
    have KB12:=Lib.hid (bytes_cb (b:=ng) HL12.out (by omega))
    have HO12:=Lib.hid (own_onN HO11.out hb12)
    clear hl12
    have c0:=(hb12.cell (p:=⟨w.heap.size,0,none⟩) HS11.out).trans c0
    have c1:=(hb12.cell (p:=⟨w.heap.size,1,none⟩) HS11.out).trans c1
    have c2:=(hb12.cell (p:=⟨w.heap.size,2,none⟩) HS11.out).trans c2
    have HB12:=Lib.hid (below_on HB11.out hb12)
    have HD12:=Lib.hid hb12
    have HS12:=Lib.hid (Nat.lt_of_lt_of_le HS11.out hb12.size)
    clear hb12
    go_wp2_with fail
    refine KB12.out.mono ?_
    rintro r w13 ⟨v13,rfl,ho13,hb13⟩
    obtain ⟨ad13,cap13,rfl,hc13,hr13,_,_,h013⟩:=own_viewN ho13
    have HO13:=Lib.hid (own_onN HO12.out hb13)
    have HR13:=Lib.hid hr13
    have HN13:=Lib.hid h013
    clear ho13 hr13 h013 hc13
    have c0:=(hb13.cell (p:=⟨w.heap.size,0,none⟩) HS12.out).trans c0
    have c1:=(hb13.cell (p:=⟨w.heap.size,1,none⟩) HS12.out).trans c1
    have c2:=(hb13.cell (p:=⟨w.heap.size,2,none⟩) HS12.out).trans c2
    have HB13:=Lib.hid (below_on HB12.out hb13)
    have HD13:=Lib.hid hb13
    have HS13:=Lib.hid (Nat.lt_of_lt_of_le HS12.out hb13.size)
    clear hb13
    have HQ13:=Lib.hid (Nat.le_trans HQ11.out (Nat.le_trans HD12.out.size HD13.out.size))
    go_wp2_with (at_builtin;refine wpl_putR _ rfl _ _ rfl w7.heap.size v11 _ _ rfl HO13.out HQ13.out ad13 _ cap13 rfl (intB ng (toldN ng (val xs))) rfl HR13.out (fun h=>(HN13.out h).1) (by have:=HLN.out;have:=HLB.out;have:=HLB2.out;omega) ?_)
    intro v14 w14 ho14 hg14
    have HO14:=Lib.hid (own_monoB ho14 (Nat.le_of_lt HS7.out))
    have HB14:=Lib.hid (HB13.out.grown hg14 HB13.out.size (fun g hg=>Nat.le_trans (Nat.le_of_lt HS7.out) (HO13.out.lt g hg).1))
    clear ho14 hg14
    go_wp2_with fail
    go_ret
    have e1:numB ng (val xs) e=B7++intB sg (toldN sg q)++intB ng (toldN ng (val xs)):=by rw [HR.out,← HEB.out];unfold restB;rw [HFL.out];simp only;unfold decB;rw [HSQ.out,HQQ.out];rfl
    have e2:(numB ng (val xs) e).length=B7.length+(intB sg (toldN sg q)).length+(intB ng (toldN ng (val xs))).length:=by rw [e1,List.length_append,List.length_append]
    refine ⟨v14,rfl,?_,HB14.out⟩
    have ho:=HO14.out
    rw [e2,e1]
    first | exact ho | simpa using ho
theorem number_enc (ng:Bool) (ad:Option Addr) (n cap:Nat) (xs:List Nat) (e:Int) (w:World) (ha:NumOk w ng ad n cap xs e) (hT:DB w) :
    Calls Tryz.prog 22 #[.agg #[.bool ng,.slice ad n cap,.int .i64 e]] w (PutL (numB ng (val xs) e) w):=by
  by_cases hi:0≤e∧bitsN (val xs*tenN e.toNat)≤400
  · exact number_yes ng ad n cap xs e w ha hT hi
  · exact number_no ng ad n cap xs e w ha hT hi
def WrC (B b:Nat) (l:List Nat) (w:World):Prop :=
  ∃ v,w.heap[b]? = some (.cells #[v] 64)∧w.ownsRow B 5 1 v l.length (bc l)
theorem WrC.lt {B b:Nat} {l:List Nat} {w:World} (h:WrC B b l w):b<w.heap.size:=by
  obtain ⟨v,h1,_⟩:=h
  exact (Array.getElem?_eq_some_iff.1 h1).1
theorem WrC.on {B b:Nat} {l:List Nat} {w w':World} (h:WrC B b l w) (hb:Below w.heap.size w w'):WrC B b l w':=by
  have hlt:=h.lt
  obtain ⟨v,h1,h2⟩:=h
  exact ⟨v,(hb.block b hlt).trans h1,own_onN h2 hb⟩
def KepC (b:Nat) (w w':World):Prop:=∀ k (cs:Array Value) (e:TypeId) fz,w.heap[k]? = some (.cells cs e fz)→k ≠ b→e ≠ 5→w'.heap[k]? = some (.cells cs e fz)
structure FrC (B b:Nat) (w w':World):Prop where
  bel:Below B w w'
  kep:KepC b w w'
theorem FrC.refl (B b:Nat) (w:World):FrC B b w w:=⟨Below.refl _ _,fun _ _ _ _ h _ _=>h⟩
theorem FrC.trans {B b:Nat} {w1 w2 w3:World} (h:FrC B b w1 w2) (k:FrC B b w2 w3):FrC B b w1 w3:=⟨h.bel.trans k.bel,fun i cs e fz h1 h2 h3=>k.kep i cs e fz (h.kep i cs e fz h1 h2 h3) h2 h3⟩
theorem FrC.of_below {B b:Nat} {w w':World} (hB:B≤w.heap.size) (h:Below w.heap.size w w'):FrC B b w w' :=
  ⟨h.mono hB,fun k cs e fz hk _ _=>by rw [h.block k (Array.getElem?_eq_some_iff.1 hk).1];exact hk⟩
theorem FrC.size {B b:Nat} {w w':World} (h:FrC B b w w'):w.heap.size≤w'.heap.size:=h.bel.size
theorem FrC.box {B b:Nat} {w w':World} (h:FrC B b w w') {k:Nat} {cs:Array Value} (hk:w.heap[k]? = some (.cells cs 29)) (hne:k ≠ b):w'.heap[k]? = some (.cells cs 29) :=
  h.kep k cs _ _ hk hne (by decide)
def EncB (B b:Nat) (l p:List Nat) (w:World) (e:Ending) (w':World):Prop :=
  (l.length+p.length≤32768∧e=.returned (.tuple #[])∧WrC B b (l++p) w'∧FrC B b w w') ∨
  (32768<l.length+p.length∧e=.panicked [{ v:=.iface 32 (.int .i64 4),recovered:=false }]∧Below B w w')
theorem EncB.pre {B b:Nat} {l p:List Nat} {w w1 w':World} {e:Ending} (hf:FrC B b w w1) (h:EncB B b l p w1 e w'):EncB B b l p w e w' :=
  h.imp (fun ⟨h1,h2,h3,h4⟩=>⟨h1,h2,h3,hf.trans h4⟩) (fun ⟨h1,h2,h3⟩=>⟨h1,h2,hf.bel.trans h3⟩)
theorem EncB.bad {B b:Nat} {l p l2 p2:List Nat} {w w2:World} (h:32768<l2.length+p2.length) (hle:l2.length+p2.length≤l.length+p.length) (hb:Below B w w2):EncB B b l p w (.panicked [{ v:=.iface 32 (.int .i64 4),recovered:=false }]) w2 :=
  .inr ⟨by omega,rfl,hb⟩
theorem wrc_put {B b:Nat} {l:List Nat} {w w2:World} {v v2:Value} {k m:Nat} {zs:List Nat} (hb:w.heap[b]? = some (.cells #[v] 64)) (ho:w.ownsRow B 5 1 v k (bc l)) (hB:B≤b) (hBw:B≤w.heap.size)
    (ho2:w2.ownsRow B 5 1 v2 m (bc zs)) (hm:zs.length=m) (hg:w.grownBy w2 v.ownBlock) :
    (w2.cell? ⟨b,0,none⟩=some v∧w2.frozen? ⟨b,0,none⟩=false)∧WrC B b zs (w2.setCell ⟨b,0,none⟩ v2)∧FrC B b w (w2.setCell ⟨b,0,none⟩ v2):=by
  have hown:∀ k,v.ownBlock=some k→∃ cur,w.heap[k]? = some (.cells cur 5):=by
    intro k hk
    rcases ho.2 with ⟨rfl,_⟩ | ⟨g,cap,cur,rfl,_,hgg,_⟩
    · cases hk
    · cases hk
      exact ⟨cur,hgg⟩
  have hblt:b<w.heap.size:=(Array.getElem?_eq_some_iff.1 hb).1
  have hkeep:∀ k,k<w.heap.size→(∀ cur fz,w.heap[k]? ≠ some (.cells cur 5 fz))→w2.heap[k]? = w.heap[k]?:=by
    intro k hk hne
    refine hg.block k hk (fun e=>?_)
    obtain ⟨cur,hc⟩:=hown k e.symm
    exact hne cur _ hc
  have hb2:w2.heap[b]? = some (.cells #[v] 64):=by
    rw [hkeep b hblt (fun cur fz h=>by rw [hb] at h;injection h with h;injection h with _ h2;exact absurd h2 (by decide)),hb]
  have hne2:∀ k,v2.ownBlock=some k→k ≠ b:=by
    intro k hk e
    subst e
    rcases ho2.2 with ⟨rfl,_⟩ | ⟨g,cap,cur,rfl,_,hgg,_⟩
    · cases hk
    · cases hk
      rw [hb2] at hgg;injection hgg with h;injection h with _ h2;exact absurd h2 (by decide)
  have hbel:Below B w w2:=(Below.refl B w).grown hg hBw (fun k hk=>(own_bd ho hk).1)
  refine ⟨⟨by simp [World.cell?,hb2],by simp [World.frozen?,hb2]⟩,⟨v2,?_,?_⟩,hbel.setCell hB _,?_⟩
  · simp [World.setCell,Array.getElem?_modify,hb2]
  · subst hm
    exact own_keep ho2 (fun k hk=>by have:=hne2 k hk;simp [World.setCell,Array.getElem?_modify,Ne.symm this])
  · intro k cs e fz hk hne he
    have h1:w2.heap[k]? = some (.cells cs e fz):=by
      rw [hkeep k (Array.getElem?_eq_some_iff.1 hk).1 (fun cur fz' h=>by rw [hk] at h;injection h with h;injection h with _ h2;exact he h2),hk]
    simp [World.setCell,Array.getElem?_modify,Ne.symm hne,h1]
theorem putc_any (B b:Nat) (l:List Nat) (ad:Option Addr) (n c:Nat) (p:List Nat) (w:World) (h:WrC B b l w) (hl:l.length≤32768) (hp:p.length=n) (hn:n≤1000000) (hr:RdV w ad (bc p)) (h0:ad=none→c=0) (hB:B≤b) :
    Calls Tryz.prog 69 #[.pointer (some ⟨b,0,none⟩),.slice ad n c] w (EncB B b l p w):=by
  have hlt:=h.lt
  obtain ⟨v,hb,ho⟩:=h
  obtain ⟨k,hk⟩:∃ k,l.length=k:=⟨_,rfl⟩
  have HK:=Lib.hid hk
  rw [hk] at ho hl
  obtain ⟨vad,vcap,rfl,hvc,hvr,hv1,hv2,hv3⟩:=own_viewN ho
  have c0:w.cell? ⟨b,0,none⟩=some (.slice vad k vcap):=by simp [World.cell?,hb]
  have f0:w.frozen? ⟨b,0,none⟩=false:=by simp [World.frozen?,hb]
  have HB:=Lib.hid hb;have HO:=Lib.hid ho;have HR:=Lib.hid hr;have H0:=Lib.hid h0;have HP:=Lib.hid hp
  have HLT:=Lib.hid (show B≤w.heap.size by omega)
  have e1:IntKind.i64.wrap ((k:Int)+(n:Int))=(k:Int)+(n:Int):=IntWalk.i64_in _ (by omega)
  clear hb ho hr h0 hp hvr hk hv1 hv2 hv3 hvc
  by_cases hc:k+n≤32768
  · have hgt:decide ((32768:Int)<(k:Int)+(n:Int))=false:=decide_eq_false (by omega)
    go_enter Tryz.func69,Tryz.ntmps69
    go_wp2_with (at_builtin;refine wpl_putR _ rfl _ _ rfl B _ _ l rfl HO.out HLT.out ad n c rfl p HP.out HR.out H0.out (by omega) ?_)
    intro v2 w2 ho2 hg2
    obtain ⟨⟨d0,g0⟩,hz⟩:=wrc_put HB.out HO.out hB HLT.out ho2 (by rw [List.length_append,HK.out,HP.out]) hg2
    have HZ:=Lib.hid (show EncB B b l p w (.returned (.tuple #[])) (w2.setCell ⟨b,0,none⟩ v2) from .inl ⟨by rw [HK.out,HP.out];exact hc,rfl,hz⟩)
    obtain ⟨ad2,cap2,rfl,t1,t2,t3,t4,t5⟩:=own_viewN ho2
    clear hz ho2 hg2 HO HB t1 t2 t3 t4 t5
    go_wp2
    go_end0
    exact HZ.out
  · have hgt:decide ((32768:Int)<(k:Int)+(n:Int))=true:=decide_eq_true (by omega)
    have HZ:=Lib.hid (show EncB B b l p w (.panicked [{ v:=.iface 32 (.int .i64 4),recovered:=false }]) w from .inr ⟨by rw [HK.out,HP.out];omega,rfl,Below.refl _ _⟩)
    go_enter Tryz.func69,Tryz.ntmps69
    go_wp2
    exact ⟨rfl,HZ.out⟩
theorem headc_any (B b:Nat) (l:List Nat) (Mi:Int) (n:Nat) (w:World) (h:WrC B b l w) (hl:l.length≤32768) (hn:n<9223372036854775808) (hB:B≤b) :
    Calls Tryz.prog 67 #[.pointer (some ⟨b,0,none⟩),.int .i64 Mi,.int .i64 (n:Int)] w (EncB B b l (hd (Mi % 8).toNat n) w):=by
  have KP:=Lib.hid (hput_any none [] 0 0 n Mi w rfl (by omega) (by omega) (RdV.nil _ _) (by omega))
  have HW:=Lib.hid h
  have HLT:=Lib.hid (show B≤w.heap.size by have:=h.lt;omega)
  have e1:(n:Int) % 18446744073709551616=(n:Int):=by omega
  have HLN:=Lib.hid (hd_len (Mi % 8).toNat n)
  rw [List.nil_append] at KP
  clear h
  generalize hd (Mi % 8).toNat n=H at *
  go_enter Tryz.func67,Tryz.ntmps67
  go_wp2_with fail
  refine KP.out.mono ?_
  rintro r w1 ⟨v1,rfl,ho1,hb1⟩
  obtain ⟨ad1,cap1,rfl,hc1,hr1,_,_,h01⟩:=own_viewN ho1
  have KQ:=Lib.hid (putc_any B b l ad1 _ cap1 H w1 (HW.out.on hb1) hl rfl (by have:=HLN.out;omega) hr1 (fun h=>(h01 h).1) hB)
  have HF:=Lib.hid (FrC.of_below (b:=b) HLT.out hb1)
  clear ho1 hb1 hr1 h01 hc1 e1
  go_wp2_with fail
  refine KQ.out.mono ?_
  intro r w2 hp
  rcases hp with ⟨e1,rfl,e2,e3⟩ | ⟨e1,rfl,e2⟩
  · have HZ:=Lib.hid (EncB.pre HF.out (.inl ⟨e1,rfl,e2,e3⟩))
    clear e1 e2 e3 KQ
    go_wp2
    go_end0
    exact HZ.out
  · have HZ:=Lib.hid (EncB.pre HF.out (.inr ⟨e1,rfl,e2⟩))
    clear e1 e2 KQ
    go_wp2
    exact ⟨rfl,HZ.out⟩
def truthC (x:Bool):List Nat:=hd 7 (if x then 21 else 20)
theorem truthc_any (B b:Nat) (l:List Nat) (x:Bool) (w:World) (h:WrC B b l w) (hl:l.length≤32768) (hB:B≤b) :
    Calls Tryz.prog 68 #[.pointer (some ⟨b,0,none⟩),.bool x] w (EncB B b l (truthC x) w):=by
  cases x with
  | true =>
    have KQ:=Lib.hid (headc_any B b l 7 21 w h hl (by omega) hB)
    rw [show hd ((7:Int) % 8).toNat 21=truthC true from rfl] at KQ
    clear h
    go_enter Tryz.func68,Tryz.ntmps68
    go_wp2_with fail
    refine KQ.out.mono ?_
    intro r w2 hp
    rcases hp with ⟨e1,rfl,e2,e3⟩ | ⟨e1,rfl,e2⟩
    · have HZ:=Lib.hid (show EncB B b l (truthC true) w (.returned (.tuple #[])) w2 from .inl ⟨e1,rfl,e2,e3⟩)
      clear e1 e2 e3 KQ
      go_wp2
      go_end0
      exact HZ.out
    · have HZ:=Lib.hid (show EncB B b l (truthC true) w _ w2 from .inr ⟨e1,rfl,e2⟩)
      clear e1 e2 KQ
      go_wp2
      exact ⟨rfl,HZ.out⟩
  | false =>
    have KQ:=Lib.hid (headc_any B b l 7 20 w h hl (by omega) hB)
    rw [show hd ((7:Int) % 8).toNat 20=truthC false from rfl] at KQ
    clear h
    go_enter Tryz.func68,Tryz.ntmps68
    go_wp2_with fail
    refine KQ.out.mono ?_
    intro r w2 hp
    rcases hp with ⟨e1,rfl,e2,e3⟩ | ⟨e1,rfl,e2⟩
    · have HZ:=Lib.hid (show EncB B b l (truthC false) w (.returned (.tuple #[])) w2 from .inl ⟨e1,rfl,e2,e3⟩)
      clear e1 e2 e3 KQ
      go_wp2
      go_end0
      exact HZ.out
    · have HZ:=Lib.hid (show EncB B b l (truthC false) w _ w2 from .inr ⟨e1,rfl,e2⟩)
      clear e1 e2 KQ
      go_wp2
      exact ⟨rfl,HZ.out⟩
def strN (s:ByteArray):List Nat:=s.data.toList.map UInt8.toNat
theorem strN_len (s:ByteArray):(strN s).length=s.size:=by unfold strN;rw [List.length_map,Array.length_toList];rfl
theorem bytes_rd (w:World) (s:ByteArray):RdV (Lib.bytesWorld w 5 s) (some ⟨w.heap.size,0,none⟩) (bc (strN s)):=by
  intro i hi
  rw [bc_len,strN_len] at hi
  refine ⟨w.heap.size,0,rfl,by rw [Lib.bytesWorld_size];omega,?_⟩
  rw [Nat.zero_add,Lib.bytesWorld_cell _ _ _ _ hi,bc_get _ _ (by rw [strN_len];exact hi)]
  have hs:i<s.data.toList.length:=by rw [Array.length_toList];exact hi
  unfold strN
  simp [List.getD,hs,hi]
def strC (m:Nat) (s:ByteArray):List Nat:=hd m s.size++strN s
theorem textc_any (B b:Nat) (l:List Nat) (m:Nat) (s:ByteArray) (w:World) (h:WrC B b l w) (hl:l.length≤32768) (hs:s.size≤1000000) (hm:m<8) (hB:B≤b) :
    Calls Tryz.prog 70 #[.pointer (some ⟨b,0,none⟩),.int .i64 (m:Int),.string s] w (EncB B b l (strC m s) w):=by
  have KH:=Lib.hid (headc_any B b l m s.size w h hl (by omega) hB)
  rw [show ((m:Int) % 8).toNat=m by omega] at KH
  have HLN:=Lib.hid (strN_len s)
  have HSC:Hid (strC m s=hd m s.size++strN s):=Lib.hid rfl
  clear h
  go_enter Tryz.func70,Tryz.ntmps70
  go_wp2_with fail
  refine KH.out.mono ?_
  intro r w2 hp
  rcases hp with ⟨e1,rfl,e2,e3⟩ | ⟨e1,rfl,e2⟩
  · have hb2:=Lib.bytesWorld_below w2 5 s
    have hB2:B≤w2.heap.size:=by have:=e2.lt;omega
    have hc2:=Lib.run_convert_string_bytes (P:=Tryz.prog) w2 9 22 5 s (u:=.string) Tryz.underlying9 Tryz.underlying22 Tryz.underlying5
    have KQ:=Lib.hid (putc_any B b (l++hd m s.size) _ s.size (grownCap w2 s.size 0 5) (strN s) (Lib.bytesWorld w2 5 s) (e2.on hb2) (by rw [List.length_append];exact e1) HLN.out hs (bytes_rd w2 s) (fun h=>by cases h) hB)
    have HF:=Lib.hid (e3.trans (FrC.of_below hB2 hb2))
    have HC:=Lib.hid hc2
    clear e1 e2 e3 hb2 hB2 hc2 KH
    generalize Lib.bytesWorld w2 5 s=W3 at *
    generalize grownCap w2 s.size 0 5=cp at *
    go_wp2_with fail
    rw [HC.out]
    simp only [Result.andThen]
    rw [Oper.upon_value]
    go_wp2_with fail
    refine KQ.out.mono ?_
    intro r w4 hp
    rcases hp with ⟨e1,rfl,e2,e3⟩ | ⟨e1,rfl,e2⟩
    · have HZ:=Lib.hid (EncB.pre (b:=b) (l:=l) (p:=strC m s) HF.out (.inl ⟨by rw [HSC.out];simp only [List.length_append] at e1 ⊢;omega,rfl,by rw [HSC.out,← List.append_assoc];exact e2,e3⟩))
      clear e1 e2 e3 KQ HC
      go_wp2
      go_end0
      exact HZ.out
    · have HZ:=Lib.hid (EncB.pre (b:=b) (l:=l) (p:=strC m s) HF.out (.inr ⟨by rw [HSC.out];simp only [List.length_append] at e1 ⊢;omega,rfl,e2⟩))
      clear e1 e2 KQ HC
      go_wp2
      exact ⟨rfl,HZ.out⟩
  · have HZ:=Lib.hid (show EncB B b l (strC m s) w _ w2 from .inr ⟨by rw [HSC.out,List.length_append];omega,rfl,e2⟩)
    clear e1 e2 KH
    go_wp2
    exact ⟨rfl,HZ.out⟩
end Go.Proofs.YtnacbakcalcgaaaGreatDoor
