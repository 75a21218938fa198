/- Texts of the claim. -/
import Derived.Test.YtnacbakcalcgaaaGreatDoorIt
import Derived.Lib.AtoiErrMem
set_option linter.unusedVariables false
set_option linter.unusedSimpArgs false
set_option maxHeartbeats 8000000
set_option maxRecDepth 100000
namespace Go.Proofs.YtnacbakcalcgaaaGreatDoor
open Go.RowKit Go.Lib Go.Sort
def LowRel (xs:List Nat) (n:Nat) (w:World) (k:Nat) (v i:Value) (wr:World):Prop :=
  ∃ j:Nat,i=.int .i64 (j:Int)∧v=.int .u64 ((val (xs.take j):Nat):Int)∧j≤n∧k=n+1 - j∧wr=w
theorem val_take1 {xs:List Nat} (h:0<xs.length):val (xs.take 1)=xs.getD 0 0:=by
  cases xs with
  | nil=>simp at h
  | cons a t=>simp [val]
theorem val_take2 {xs:List Nat} (h:1<xs.length):val (xs.take 2)=xs.getD 0 0+4294967296*xs.getD 1 0:=by
  cases xs with
  | nil=>simp at h
  | cons a t=>cases t with
    | nil=>simp at h
    | cons b t=>simp [val,B32_eq]
theorem low_pk (ad:Option Addr) (n cap:Nat) (xs:List Nat) (w:World) (hn:xs.length=n) (hn2:n≤2) (hc:n≤cap) (ho:Okl xs) (hr:Rd w ad xs) :
    Calls Tryz.prog 141 #[.slice ad n cap] w fun e w'=>e=.returned (.int .u64 ((val xs:Nat):Int))∧w'=w:=by
  have HN:=Lib.hid hn;have HO:=Lib.hid ho;have HR:=Lib.hid hr
  clear hn ho hr
  have hmin:min (n:Int) 2=(n:Int):=by omega
  go_enter Tryz.func141,Tryz.ntmps141
  go_wp2_with fail
  go_loopg [2,11] (n+1) (fun k v i wr=>LowRel xs n w k v i wr)
  case atStart=>exact ⟨0,rfl,rfl,Nat.zero_le _,rfl,rfl⟩
  case round =>
    obtain ⟨j,rfl,rfl,hj,hk,rfl⟩:=hrel
    by_cases hin:j<n
    · obtain ⟨b,o,rfl,hbb,hcx⟩:=HR.out j (by rw [HN.out];exact hin)
      have hx:xs.getD j 0<4294967296:=by
        have:j<xs.length:=by rw [HN.out];exact hin
        rw [List.getD_eq_getElem?_getD,List.getElem?_eq_getElem this]
        have:=HO.out _ (List.getElem_mem this)
        rw [B32_eq] at this;exact this
      rcases (by omega:j=0∨j=1) with rfl | rfl
      · have HT:=Lib.hid (val_take1 (xs:=xs) (by rw [HN.out];exact hin))
        rw [Nat.add_zero] at hcx
        generalize xs.getD 0 0=x at *
        have e0:val (xs.take 0)=0:=rfl
        rw [e0]
        clear e0
        have ho:bits .or .u64 0 (x:Int)=(x:Int):=or0 _ (by omega) (by omega)
        go_wp2_with fail
        go_roundg n
        case measure=>omega
        case rel =>
          refine ⟨1,by go_num,?_,by omega,by omega,rfl⟩
          rw [HT.out]
          try rfl
      · have HT:=Lib.hid (val_take2 (xs:=xs) (by rw [HN.out];exact hin))
        have HT1:=Lib.hid (val_take1 (xs:=xs) (by rw [HN.out];omega))
        have hy:xs.getD 0 0<4294967296:=by
          have:0<xs.length:=by rw [HN.out];omega
          rw [List.getD_eq_getElem?_getD,List.getElem?_eq_getElem this]
          have:=HO.out _ (List.getElem_mem this)
          rw [B32_eq] at this;exact this
        rw [HT1.out]
        generalize xs.getD 0 0=y at *
        generalize xs.getD 1 0=x at *
        have ho:bits .or .u64 (y:Int) ((x:Int)*4294967296)=((y+4294967296*x:Nat):Int):=by
          rw [show (x:Int)*4294967296=((x*4294967296:Nat):Int) by omega,bits_or_u64_nat y _ (by omega) (by omega),Nat.or_comm,nat_join 32 (x*4294967296) y (by omega) (by omega)]
          try omega
        go_wp2_with fail
        go_roundg 1
        case measure=>omega
        case rel =>
          refine ⟨2,by go_num,?_,by omega,by omega,rfl⟩
          rw [HT.out]
          try simp
    · obtain rfl:j=n:=by omega
      have HE:Hid (val (xs.take j)=val xs):=Lib.hid (by rw [List.take_of_length_le (by rw [HN.out];exact Nat.le_refl _)])
      go_wp2_with fail
      go_ret
      rw [HE.out]
      exact ⟨rfl,rfl⟩
def wholeP (ng:Bool) (N:Nat) (e:Int):Option (Nat × Nat):=match intAt N e with
  | none=>none
  | some M=>if ng then (if bitsN (M - 1)≤63 then some (5,(18446744073709551616 - M) % 18446744073709551616) else none) else if bitsN M≤64 then some (4,M) else none
def tupK (o:Option (Nat × Nat)):Value:=match o with
  | none=>.tuple #[.int .i64 0,.int .u64 0,.bool false]
  | some (k,x)=>.tuple #[.int .i64 (k:Int),.int .u64 (x:Int),.bool true]
def WordK (o:Option (Nat × Nat)) (w:World) (r:Ending) (w':World):Prop:=r=.returned (tupK o)∧Below w.heap.size w w'
theorem two_limbs {M:Nat} (h:M<18446744073709551616):(limbs M).length≤2 :=
  limbs_length_le (by rw [B32_eq];exact h)
theorem bits_lt {M k:Nat} (h:bitsN M≤k):M<2 ^ k:=by
  by_cases h0:M=0
  · subst h0;exact Nat.pow_pos (by decide)
  · obtain ⟨t,h1,_,h2⟩:=bitsN_bounds h0
    exact Nat.lt_of_lt_of_le h2 (Nat.pow_le_pow_right (by decide) (by omega))
theorem wholeOf_pk (ng:Bool) (ad:Option Addr) (n cap:Nat) (xs:List Nat) (e:Int) (w:World) (ha:NumOk w ng ad n cap xs e) :
    Calls Tryz.prog 100 #[.agg #[.bool ng,.slice ad n cap,.int .i64 e]] w (WordK (wholeP ng (val xs) e) w):=by
  have hbl:=below_box w #[.bool ng,.slice ad n cap,.int .i64 e] 25
  have HBX:=Lib.hid hbl
  have hsz:(w.alloc (.cells #[.bool ng,.slice ad n cap,.int .i64 e] 25)).heap.size=w.heap.size+1:=by simp
  have KI:=Lib.hid (int_core ng (.slice ad n cap) e ng ad n cap xs e _ (ha.below hbl) (fun W hW=>(ha.below hbl).same W hW) ⟨_,_,_,rfl⟩)
  have HA:=Lib.hid ha
  have HSZ:=Lib.hid hsz
  unfold IntNP at KI
  rw [hsz] at KI
  by_cases hi:0≤e∧bitsN (val xs*tenN e.toNat)≤400
  · obtain ⟨M,hM⟩:∃ M,val xs*tenN e.toNat=M:=⟨_,rfl⟩
    simp only [if_pos hi] at KI
    simp only [hM] at KI
    have HML:Hid ((limbs M).length≤1291):=Lib.hid (by
      rw [← hM]
      have h1:limbs (val xs)=xs:=chkB_limbs ha.ok ha.chk
      refine prod_len (by rw [h1,ha.len];exact ha.n90) ?_
      have:=ha.lo
      omega)
    rw [hM] at hi
    have HI:Hid (intAt (val xs) e=some M):=Lib.hid (by unfold intAt;rw [hM,if_pos hi])
    clear hbl ha hsz
    cases ng with
    | false =>
      go_enter Tryz.func100,Tryz.ntmps100
      go_wp2_with fail
      refine KI.out.mono ?_
      rintro r w1 ⟨hb1,v1,rfl,ho1⟩
      have HB1:=Lib.hid (HBX.out.trans (hb1.mono (by simp)))
      obtain ⟨vad,vcap,rfl,h1,h2,_⟩:=ho1.view
      have HML1:=HML.out
      have KB:=Lib.hid (bits_any vad (limbs M).length vcap (limbs M) w1 rfl h1 (by omega) (limbs_ok _) h2)
      rw [val_limbs] at KB
      have HR1:=Lib.hid h2
      have HV:=Lib.hid (val_limbs M)
      have HOK:=Lib.hid (limbs_ok M)
      by_cases hb:bitsN M≤64
      · have hM64:M<18446744073709551616:=bits_lt hb
        have KL:=Lib.hid (low_pk vad (limbs M).length vcap (limbs M) w1 rfl (two_limbs hM64) h1 (limbs_ok _) h2)
        rw [val_limbs] at KL
        have e1:decide ((bitsN M:Int)≤64)=true:=decide_eq_true (by omega)
        have HZ:Hid (wholeP false (val xs) e=some (4,M)):=Lib.hid (by unfold wholeP;rw [HI.out];simp only [Bool.false_eq_true,if_false];rw [if_pos hb])
        clear h1 h2 ho1 hb1 hi hb hM64 hM
        generalize bitsN M=q at *
        generalize (limbs M).length=nl at *
        go_wp2_with fail
        refine KB.out.mono ?_
        rintro r w2 ⟨rfl,rfl⟩
        go_wp2_with fail
        refine KL.out.mono ?_
        rintro r w3 ⟨rfl,rfl⟩
        go_wp2_with fail
        go_ret3
        rw [HZ.out]
        exact ⟨rfl,HB1.out⟩
      · have e1:decide ((bitsN M:Int)≤64)=false:=decide_eq_false (by omega)
        have HZ:Hid (wholeP false (val xs) e=none):=Lib.hid (by unfold wholeP;rw [HI.out];simp only [Bool.false_eq_true,if_false];rw [if_neg hb])
        clear h1 h2 ho1 hb1 hi hb hM
        generalize bitsN M=q at *
        generalize (limbs M).length=nl at *
        go_wp2_with fail
        refine KB.out.mono ?_
        rintro r w2 ⟨rfl,rfl⟩
        go_wp2_with fail
        go_ret3
        rw [HZ.out]
        exact ⟨rfl,HB1.out⟩
    | true =>
      go_enter Tryz.func100,Tryz.ntmps100
      go_wp2_with fail
      refine KI.out.mono ?_
      rintro r w1 ⟨hb1,v1,rfl,ho1⟩
      have HB1:=Lib.hid (HBX.out.trans (hb1.mono (by simp)))
      obtain ⟨vad,vcap,rfl,h1,h2,_⟩:=ho1.view
      have HML1:=HML.out
      have HR1:=Lib.hid h2
      have HLO:Hid (ListOk w1 (.slice vad (limbs M).length vcap) 1291 M (limbs M)):=Lib.hid ⟨vad,vcap,rfl,h1,HML1,limbs_ok _,h2,val_limbs _⟩
      have HOK:=Lib.hid (limbs_ok M)
      have KS:=Lib.hid (fun (W0 W:World) (x:Value) (hc:Ctx W0 W [⟨x,1,1,[1]⟩,⟨.slice vad (limbs M).length vcap,1291,M,limbs M⟩])=>sub_c hc 1 0 rfl rfl (by omega) (by omega))
      have HC:=Lib.hid ((((Ctx.begin w1).push (x:=⟨.slice vad (limbs M).length vcap,1291,M,limbs M⟩) HLO.out).lit (x:=1) (by rw [B32_eq];decide)))
      clear ho1 hb1
      by_cases hb:bitsN (M - 1)≤63
      · have hM63:M - 1<9223372036854775808:=bits_lt hb
        have hM64:M≤9223372036854775808:=by omega
        have e1:decide ((bitsN (M - 1):Int)≤63)=true:=decide_eq_true (by omega)
        have HZ:Hid (wholeP true (val xs) e=some (5,(18446744073709551616 - M) % 18446744073709551616)):=Lib.hid (by unfold wholeP;rw [HI.out];simp only [if_true];rw [if_pos hb])
        have H2:=Lib.hid (two_limbs (show M<18446744073709551616 by omega))
        have H1:=Lib.hid h1
        have HRL:=Lib.hid (fun W (hb:Below w1.heap.size w1 W)=>low_pk vad (limbs M).length vcap (limbs M) W rfl H2.out H1.out (limbs_ok _) (HR1.out.below hb))
        have HSB:=Lib.hid (fun W (v:Value) xs (hs:ListOk W v 1291 (M - 1) xs)=>(show Calls Tryz.prog 83 #[v] W fun e w'=>e=.returned (.int .i64 (bitsN (M - 1):Int))∧w'=W from by
          obtain ⟨ad3,cap3,rfl,p1,p2,p3,p4,p5⟩:=hs
          have K:=bits_any ad3 _ cap3 xs W rfl p1 (by omega) p3 p4
          rw [p5] at K
          exact K.mono (by rintro r w' ⟨rfl,rfl⟩;exact ⟨rfl,rfl⟩)))
        rw [val_limbs] at HRL
        clear h1 h2 hi hb hM63 hM
        generalize bitsN (M - 1)=q at *
        generalize (limbs M).length=nl at *
        go_wp2_with fail
        refine (KS.out _ _ _ HC.out).mono ?_
        rintro r w2 ⟨v2,rfl,hc⟩
        have hb2:=hc.below
        have hl:=hc.get 0 rfl
        have KB:=Lib.hid (HSB.out _ _ _ hl)
        have KL:=Lib.hid (HRL.out w2 hb2)
        have HB2:=Lib.hid (below_on HB1.out hb2)
        obtain ⟨ad2,cap2,rfl,hlo⟩:=hl
        clear hc hb2 hlo
        go_wp2_with fail
        refine KB.out.mono ?_
        rintro r w3 ⟨rfl,rfl⟩
        go_wp2_with fail
        refine KL.out.mono ?_
        rintro r w4 ⟨rfl,rfl⟩
        go_wp2_with fail
        go_ret3
        rw [HZ.out]
        refine ⟨?_,HB2.out⟩
        show Ending.returned _=.returned (tupK _)
        unfold tupK
        simp only
        have hneg:IntKind.u64.wrap (-(M:Int))=(((18446744073709551616 - M) % 18446744073709551616:Nat):Int):=by
          have e0:IntKind.u64.wrap (-(M:Int))=(-(M:Int)) % 18446744073709551616:=by first | rfl | simp [IntKind.wrap,go_sem]
          rw [e0];omega
        show Ending.returned (.tuple #[.int .i64 5,.int .u64 (IntKind.u64.wrap (-(M:Int))),.bool true])=_
        rw [hneg]
        rfl
      · have e1:decide ((bitsN (M - 1):Int)≤63)=false:=decide_eq_false (by omega)
        have HZ:Hid (wholeP true (val xs) e=none):=Lib.hid (by unfold wholeP;rw [HI.out];simp only [if_true];rw [if_neg hb])
        have HSB:=Lib.hid (fun W (v:Value) xs (hs:ListOk W v 1291 (M - 1) xs)=>(show Calls Tryz.prog 83 #[v] W fun e w'=>e=.returned (.int .i64 (bitsN (M - 1):Int))∧w'=W from by
          obtain ⟨ad3,cap3,rfl,p1,p2,p3,p4,p5⟩:=hs
          have K:=bits_any ad3 _ cap3 xs W rfl p1 (by omega) p3 p4
          rw [p5] at K
          exact K.mono (by rintro r w' ⟨rfl,rfl⟩;exact ⟨rfl,rfl⟩)))
        clear h1 h2 hi hb hM
        generalize bitsN (M - 1)=q at *
        generalize (limbs M).length=nl at *
        go_wp2_with fail
        refine (KS.out _ _ _ HC.out).mono ?_
        rintro r w2 ⟨v2,rfl,hc⟩
        have hb2:=hc.below
        have hl:=hc.get 0 rfl
        have KB:=Lib.hid (HSB.out _ _ _ hl)
        have HB2:=Lib.hid (below_on HB1.out hb2)
        obtain ⟨ad2,cap2,rfl,hlo⟩:=hl
        clear hc hb2 hlo
        go_wp2_with fail
        refine KB.out.mono ?_
        rintro r w3 ⟨rfl,rfl⟩
        go_wp2_with fail
        go_ret3
        rw [HZ.out]
        exact ⟨rfl,HB2.out⟩
  · simp only [if_neg hi] at KI
    have HI:Hid (wholeP ng (val xs) e=none):=Lib.hid (by unfold wholeP intAt;rw [if_neg hi])
    clear hbl ha hsz hi
    go_enter Tryz.func100,Tryz.ntmps100
    go_wp2_with fail
    refine KI.out.mono ?_
    rintro r w1 ⟨hb1,rfl⟩
    have HB1:=Lib.hid (HBX.out.trans (hb1.mono (by simp)))
    clear hb1
    go_wp2_with fail
    go_ret3
    rw [HI.out]
    exact ⟨rfl,HB1.out⟩
def wordP (ng:Bool) (N:Nat) (e:Int):Option (Nat × Nat):=match wholeP ng N e with
  | some p=>some p
  | none=>match toF 32 ng N e with
    | some y=>some (12,y)
    | none=>match toF 64 ng N e with
      | some y=>some (6,y)
      | none=>none
theorem tupK_none:tupK none=.tuple #[.int .i64 0,.int .u64 0,.bool false]:=rfl
theorem tupK_some (k x:Nat):tupK (some (k,x))=.tuple #[.int .i64 (k:Int),.int .u64 (x:Int),.bool true]:=rfl
theorem toA_none:toA none=.tuple #[.int .u64 0,.bool false]:=rfl
theorem toA_some (y:Nat):toA (some y)=.tuple #[.int .u64 (y:Int),.bool true]:=rfl
theorem wordOf_pk (ng:Bool) (ad:Option Addr) (n cap:Nat) (xs:List Nat) (e:Int) (w:World) (ha:NumOk w ng ad n cap xs e) (hT:DB w) :
    Calls Tryz.prog 62 #[.agg #[.bool ng,.slice ad n cap,.int .i64 e]] w (WordK (wordP ng (val xs) e) w):=by
  have hbl:=below_box w #[.bool ng,.slice ad n cap,.int .i64 e] 25
  have HBX:=Lib.hid hbl
  have KW:=Lib.hid (wholeOf_pk ng ad n cap xs e _ (ha.below hbl))
  have hsz:(w.alloc (.cells #[.bool ng,.slice ad n cap,.int .i64 e] 25)).heap.size=w.heap.size+1:=by simp
  unfold WordK at KW
  rw [hsz] at KW
  have HA:=Lib.hid ha
  have KT:=Lib.hid (fun (width:Int) (W:World) (hb:Below w.heap.size w W)=>to_num (((Ctx.begin W).push (x:=⟨.slice ad n cap,90,val xs,xs⟩) (HA.out.list.below hb))) (hT.below hb) width 0 rfl (by omega) ng e HA.out.chk)
  clear ha hT hbl hsz
  cases hw:wholeP ng (val xs) e with
  | some p =>
    obtain ⟨k,x⟩:=p
    rw [hw,tupK_some] at KW
    have HZ:Hid (wordP ng (val xs) e=some (k,x)):=Lib.hid (by unfold wordP;rw [hw])
    clear hw
    go_enter Tryz.func62,Tryz.ntmps62
    go_wp2_with fail
    refine KW.out.mono ?_
    rintro r w1 ⟨rfl,hb1⟩
    have HB1:=Lib.hid (HBX.out.trans (hb1.mono (by simp)))
    clear hb1
    go_wp2_with fail
    go_ret3
    rw [HZ.out]
    exact ⟨rfl,HB1.out⟩
  | none =>
    rw [hw,tupK_none] at KW
    have HW:=Lib.hid hw
    clear hw
    cases h1:toF 32 ng (val xs) e with
    | some y =>
      have HZ:Hid (wordP ng (val xs) e=some (12,y)):=Lib.hid (by unfold wordP;rw [HW.out,h1])
      have HT1:=Lib.hid h1
      clear h1
      go_enter Tryz.func62,Tryz.ntmps62
      go_wp2_with fail
      refine KW.out.mono ?_
      rintro r w1 ⟨rfl,hb1⟩
      have HB1:=Lib.hid (HBX.out.trans (hb1.mono (by simp)))
      have c0:w1.cell? ⟨w.heap.size,0,none⟩=some (.bool ng):=by rw [hb1.cell (by simp)];simp
      have c1:w1.cell? ⟨w.heap.size,1,none⟩=some (.slice ad n cap):=by rw [hb1.cell (by simp)];simp
      have c2:w1.cell? ⟨w.heap.size,2,none⟩=some (.int .i64 e):=by rw [hb1.cell (by simp)];simp
      have K1:=KT.out 32 w1 HB1.out
      unfold ToPost at K1
      rw [HT1.out,toA_some] at K1
      have K1H:=Lib.hid K1
      clear hb1 K1
      go_wp2_with fail
      refine K1H.out.mono ?_
      rintro r w2 ⟨rfl,hc⟩
      have HB2:=Lib.hid (below_on HB1.out hc.below)
      clear hc
      go_wp2_with fail
      go_ret3
      rw [HZ.out]
      exact ⟨rfl,HB2.out⟩
    | none =>
      have HT1:=Lib.hid h1
      clear h1
      have HWP:Hid (∀ o,toF 64 ng (val xs) e=o→wordP ng (val xs) e=match o with | some y=>some (6,y) | none=>none):=Lib.hid (by rintro o rfl;unfold wordP;rw [HW.out,HT1.out])
      go_enter Tryz.func62,Tryz.ntmps62
      go_wp2_with fail
      refine KW.out.mono ?_
      rintro r w1 ⟨rfl,hb1⟩
      have HB1:=Lib.hid (HBX.out.trans (hb1.mono (by simp)))
      have hs1:=hb1.size
      rw [show (w.alloc (.cells #[.bool ng,.slice ad n cap,.int .i64 e] 25)).heap.size=w.heap.size+1 by simp] at hs1
      have HS1:=Lib.hid hs1
      have c0:w1.cell? ⟨w.heap.size,0,none⟩=some (.bool ng):=by rw [hb1.cell (by simp)];simp
      have c1:w1.cell? ⟨w.heap.size,1,none⟩=some (.slice ad n cap):=by rw [hb1.cell (by simp)];simp
      have c2:w1.cell? ⟨w.heap.size,2,none⟩=some (.int .i64 e):=by rw [hb1.cell (by simp)];simp
      have K1:=KT.out 32 w1 HB1.out
      unfold ToPost at K1
      rw [HT1.out,toA_none] at K1
      have K1H:=Lib.hid K1
      clear hb1 K1 hs1
      go_wp2_with fail
      refine K1H.out.mono ?_
      rintro r w2 ⟨rfl,hc⟩
      have hb2:=hc.below
      have HB2:=Lib.hid (below_on HB1.out hb2)
      have c0:=(hb2.cell (p:=⟨w.heap.size,0,none⟩) HS1.out).trans c0
      have c1:=(hb2.cell (p:=⟨w.heap.size,1,none⟩) HS1.out).trans c1
      have c2:=(hb2.cell (p:=⟨w.heap.size,2,none⟩) HS1.out).trans c2
      clear hc hb2
      have K2:=KT.out 64 w2 HB2.out
      unfold ToPost at K2
      cases h2:toF 64 ng (val xs) e with
      | some y =>
        rw [h2,toA_some] at K2
        have HZ:=Lib.hid (HWP.out _ h2)
        have K2H:=Lib.hid K2
        clear K2 h2
        go_wp2_with fail
        refine K2H.out.mono ?_
        rintro r w3 ⟨rfl,hc⟩
        have HB3:=Lib.hid (below_on HB2.out hc.below)
        clear hc
        go_wp2_with fail
        go_ret3
        rw [HZ.out]
        exact ⟨rfl,HB3.out⟩
      | none =>
        rw [h2,toA_none] at K2
        have HZ:=Lib.hid (HWP.out _ h2)
        have K2H:=Lib.hid K2
        clear K2 h2
        go_wp2_with fail
        refine K2H.out.mono ?_
        rintro r w3 ⟨rfl,hc⟩
        have HB3:=Lib.hid (below_on HB2.out hc.below)
        clear hc
        go_wp2_with fail
        go_ret3
        rw [HZ.out]
        exact ⟨rfl,HB3.out⟩
theorem has_pk (ng:Bool) (ad:Option Addr) (n cap:Nat) (xs:List Nat) (e:Int) (w:World) (ha:NumOk w ng ad n cap xs e) (hT:DB w) :
    Calls Tryz.prog 32 #[.agg #[.bool ng,.slice ad n cap,.int .i64 e]] w fun r w'=>r=.returned (.bool (wordP ng (val xs) e).isSome)∧Below w.heap.size w w':=by
  have hbl:=below_box w #[.bool ng,.slice ad n cap,.int .i64 e] 25
  have HBX:=Lib.hid hbl
  have KW:=Lib.hid (wordOf_pk ng ad n cap xs e _ (ha.below hbl) (hT.below hbl))
  clear ha hT hbl
  unfold WordK at KW
  cases hw:wordP ng (val xs) e with
  | some p =>
    obtain ⟨k,x⟩:=p
    rw [hw,tupK_some] at KW
    clear hw
    go_enter Tryz.func32,Tryz.ntmps32
    go_wp2_with fail
    refine KW.out.mono ?_
    rintro r w1 ⟨rfl,hb1⟩
    have HB1:=Lib.hid (HBX.out.trans (hb1.mono (by simp)))
    clear hb1
    go_wp2_with fail
    go_ret
    exact ⟨rfl,HB1.out⟩
  | none =>
    rw [hw,tupK_none] at KW
    clear hw
    go_enter Tryz.func32,Tryz.ntmps32
    go_wp2_with fail
    refine KW.out.mono ?_
    rintro r w1 ⟨rfl,hb1⟩
    have HB1:=Lib.hid (HBX.out.trans (hb1.mono (by simp)))
    clear hb1
    go_wp2_with fail
    go_ret
    exact ⟨rfl,HB1.out⟩
theorem wordP_bd {ng:Bool} {N:Nat} {e:Int} {k x:Nat} (hN:N=0∨N % 10 ≠ 0) (h:wordP ng N e=some (k,x)):x<18446744073709551616∧(k=4∨k=5∨k=12∨k=6):=by
  unfold wordP at h
  cases h1:wholeP ng N e with
  | some p =>
    rw [h1] at h
    simp only [Option.some.injEq] at h
    subst h
    unfold wholeP at h1
    split at h1
    · cases h1
    · split at h1
      · split at h1
        · simp only [Option.some.injEq,Prod.mk.injEq] at h1
          omega
        · cases h1
      · split at h1
        · rename_i hb
          have:=bits_lt hb
          simp only [Option.some.injEq,Prod.mk.injEq] at h1
          omega
        · cases h1
  | none =>
    rw [h1] at h
    simp only at h
    cases h2:toF 32 ng N e with
    | some y =>
      rw [h2] at h
      simp only [Option.some.injEq,Prod.mk.injEq] at h
      have:=toF_bd hN h2
      omega
    | none =>
      rw [h2] at h
      simp only at h
      cases h3:toF 64 ng N e with
      | some y =>
        rw [h3] at h
        simp only [Option.some.injEq,Prod.mk.injEq] at h
        have:=toF_bd hN h3
        omega
      | none=>rw [h3] at h;cases h
def WrC (B b:Nat) (l:List Nat) (w:World):Prop :=
  ∃ v,w.heap[b]? = some (.cells #[v] 64)∧w.ownsRow B 5 1 v l.length (bc l)
theorem WrC.lt {B b:Nat} {l:List Nat} {w:World} (h:WrC B b l w):b<w.heap.size:=by
  obtain ⟨v,h1,_⟩:=h
  exact (Array.getElem?_eq_some_iff.1 h1).1
theorem WrC.on {B b:Nat} {l:List Nat} {w w':World} (h:WrC B b l w) (hb:Below w.heap.size w w'):WrC B b l w':=by
  have hlt:=h.lt
  obtain ⟨v,h1,h2⟩:=h
  exact ⟨v,(hb.block b hlt).trans h1,own_onN h2 hb⟩
def KepC (b:Nat) (w w':World):Prop:=∀ k (cs:Array Value) (e:TypeId) fz,w.heap[k]? = some (.cells cs e fz)→k ≠ b→e ≠ 5→w'.heap[k]? = some (.cells cs e fz)
structure FrC (B b:Nat) (w w':World):Prop where
  bel:Below B w w'
  kep:KepC b w w'
theorem FrC.refl (B b:Nat) (w:World):FrC B b w w:=⟨Below.refl _ _,fun _ _ _ _ h _ _=>h⟩
theorem FrC.trans {B b:Nat} {w1 w2 w3:World} (h:FrC B b w1 w2) (k:FrC B b w2 w3):FrC B b w1 w3:=⟨h.bel.trans k.bel,fun i cs e fz h1 h2 h3=>k.kep i cs e fz (h.kep i cs e fz h1 h2 h3) h2 h3⟩
theorem FrC.of_below {B b:Nat} {w w':World} (hB:B≤w.heap.size) (h:Below w.heap.size w w'):FrC B b w w' :=
  ⟨h.mono hB,fun k cs e fz hk _ _=>by rw [h.block k (Array.getElem?_eq_some_iff.1 hk).1];exact hk⟩
theorem FrC.size {B b:Nat} {w w':World} (h:FrC B b w w'):w.heap.size≤w'.heap.size:=h.bel.size
theorem FrC.box {B b:Nat} {w w':World} (h:FrC B b w w') {k:Nat} {cs:Array Value} (hk:w.heap[k]? = some (.cells cs 29)) (hne:k ≠ b):w'.heap[k]? = some (.cells cs 29) :=
  h.kep k cs _ _ hk hne (by decide)
def EncB (B b:Nat) (l p:List Nat) (w:World) (e:Ending) (w':World):Prop :=
  (l.length+p.length≤32768∧e=.returned (.tuple #[])∧WrC B b (l++p) w'∧FrC B b w w') ∨
  (32768<l.length+p.length∧e=.panicked [{ v:=.iface 32 (.int .i64 4),recovered:=false }]∧Below B w w')
theorem EncB.pre {B b:Nat} {l p:List Nat} {w w1 w':World} {e:Ending} (hf:FrC B b w w1) (h:EncB B b l p w1 e w'):EncB B b l p w e w' :=
  h.imp (fun ⟨h1,h2,h3,h4⟩=>⟨h1,h2,h3,hf.trans h4⟩) (fun ⟨h1,h2,h3⟩=>⟨h1,h2,hf.bel.trans h3⟩)
def strN (s:ByteArray):List Nat:=s.data.toList.map UInt8.toNat
theorem strN_len (s:ByteArray):(strN s).length=s.size:=by unfold strN;rw [List.length_map,Array.length_toList];rfl
theorem bytes_rd (w:World) (s:ByteArray):RdV (Lib.bytesWorld w 5 s) (some ⟨w.heap.size,0,none⟩) (bc (strN s)):=by
  intro i hi
  rw [bc_len,strN_len] at hi
  refine ⟨w.heap.size,0,rfl,by rw [Lib.bytesWorld_size];omega,?_⟩
  rw [Nat.zero_add,Lib.bytesWorld_cell _ _ _ _ hi,bc_get _ _ (by rw [strN_len];exact hi)]
  have hs:i<s.data.toList.length:=by rw [Array.length_toList];exact hi
  unfold strN
  simp [List.getD,hs,hi]
end Go.Proofs.YtnacbakcalcgaaaGreatDoor
namespace Go.Proofs.YtnacbakcalcgaaaGreatDoor
open Go.RowKit Go.Lib
def ub (l:List Nat):List UInt8:=l.map fun x=>UInt8.ofNat x
def be:Nat→Nat→List Nat
  | 0,_=>[]
  | k+1,n=>n / 256 ^ k % 256::be k n
theorem be_len (k n:Nat):(be k n).length=k:=by induction k with | zero=>rfl | succ k ih=>simp [be,ih]
theorem be_lt (k n:Nat):∀ x∈be k n,x<256:=by
  induction k with
  | zero=>intro x h;cases h
  | succ k ih =>
    intro x h
    rcases List.mem_cons.1 h with rfl | h
    · exact Nat.mod_lt _ (by decide)
    · exact ih x h
theorem be_mod (k n:Nat):∀ j,k≤j→be k (n % 256 ^ j)=be k n:=by
  induction k with
  | zero=>intro j _;rfl
  | succ k ih =>
    intro j hj
    simp only [be]
    rw [ih j (by omega)]
    congr 1
    obtain ⟨i,rfl⟩:∃ i,j=k+1+i:=⟨j - (k+1),by omega⟩
    have hp:256 ^ (k+1+i)=256 ^ k*(256*256 ^ i):=by rw [Nat.pow_add,Nat.pow_succ,Nat.mul_assoc]
    rw [hp,Nat.mod_mul_right_div_self,Nat.mod_mul_right_mod]
theorem natB_from:∀ (l:List Nat) (a:Nat),l.foldl (fun a x=>a*256+x) a=a*256 ^ l.length+natB l:=by
  intro l
  induction l with
  | nil=>intro a;simp [natB]
  | cons x l ih =>
    intro a
    unfold natB
    simp only [List.foldl_cons,List.length_cons]
    rw [ih,ih (0*256+x),Nat.pow_succ,Nat.add_mul,Nat.zero_mul,Nat.zero_add,Nat.mul_assoc,Nat.mul_comm 256 (256 ^ l.length),Nat.add_assoc]
theorem natB_consM (a:Nat) (l:List Nat):natB (a::l)=a*256 ^ l.length+natB l:=by
  show (a::l).foldl (fun a x=>a*256+x) 0=_
  rw [List.foldl_cons,natB_from];simp
theorem natB_be (k n:Nat):natB (be k n)=n % 256 ^ k:=by
  induction k with
  | zero=>simp [be,natB,Nat.mod_one]
  | succ k ih =>
    simp only [be]
    rw [natB_consM,be_len,ih,Nat.mod_pow_succ,Nat.add_comm,Nat.mul_comm]
theorem shr_byte (x j:Nat):(x:Int) / 2 ^ (8*j) % 256=((x / 256 ^ j % 256:Nat):Int):=by
  rw [show (256:Nat) ^ j=2 ^ (8*j) by rw [Nat.pow_mul]]
  rw [Int.natCast_emod,Int.natCast_ediv,Int.natCast_pow];rfl
def stepN (n:Nat):Nat:=if n<256 then 0 else if n<65536 then 1 else if n<4294967296 then 2 else 3
theorem stepN_0 {n:Nat} (h:n<256):stepN n=0:=by unfold stepN;rw [if_pos h]
theorem stepN_1 {n:Nat} (h0:256≤n) (h:n<65536):stepN n=1:=by unfold stepN;rw [if_neg (by omega),if_pos h]
theorem stepN_2 {n:Nat} (h0:65536≤n) (h:n<4294967296):stepN n=2:=by unfold stepN;rw [if_neg (by omega),if_neg (by omega),if_pos h]
theorem stepN_3 {n:Nat} (h0:4294967296≤n):stepN n=3:=by unfold stepN;rw [if_neg (by omega),if_neg (by omega),if_neg (by omega)]
theorem stepN_le (n:Nat):stepN n≤3:=by unfold stepN;split <;> (try split) <;> (try split) <;> omega
theorem stepN_ge (n:Nat) (hn:n<18446744073709551616):n<256 ^ 2 ^ stepN n:=by
  unfold stepN
  by_cases h0:n<256
  · rw [if_pos h0];simpa using h0
  rw [if_neg h0]
  by_cases h1:n<65536
  · rw [if_pos h1];simpa using h1
  rw [if_neg h1]
  by_cases h2:n<4294967296
  · rw [if_pos h2];simpa using h2
  rw [if_neg h2];simpa using hn
theorem stepN_cases (n:Nat):stepN n=0∨stepN n=1∨stepN n=2∨stepN n=3:=by have:=stepN_le n;omega
def mlay (kind:Nat) (n:Nat):Nat × Nat :=
  if kind=1 then (192,0) else if kind=2 then (194,0) else if kind=3 then (195,0)
  else if kind=12 then (202,4) else if kind=6 then (203,8)
  else if kind=7 then (if n % 4294967296<32 then (160+n % 4294967296,0) else (217+stepN (n % 4294967296),2 ^ stepN (n % 4294967296)))
  else if kind=8 then (196+stepN (n % 4294967296),2 ^ stepN (n % 4294967296))
  else if kind=9 then (if n % 4294967296<16 then (144+n % 4294967296,0) else (219+max (stepN (n % 4294967296)) 1,2 ^ max (stepN (n % 4294967296)) 1))
  else if kind=10 then (if n % 4294967296<16 then (128+n % 4294967296,0) else (221+max (stepN (n % 4294967296)) 1,2 ^ max (stepN (n % 4294967296)) 1))
  else if kind=5∧9223372036854775808≤n then
    (if 18446744073709551584≤n then (n % 256,0) else (208+stepN ((18446744073709551615 - n)*2),2 ^ stepN ((18446744073709551615 - n)*2)))
  else (if n<128 then (n,0) else (204+stepN n,2 ^ stepN n))
def mput (kind:Int) (n:Nat):List Nat :=
  if kind=11∨kind<1∨12<kind then [] else (mlay kind.toNat n).1::be (mlay kind.toNat n).2 n
def kindM (f:Nat):Nat :=
  if f<128 then 4 else if f<144 then 10 else if f<160 then 9 else if f<192 then 7 else if 224≤f then 5
  else [1,0,2,3,8,8,8,11,11,11,12,6,4,4,4,4,5,5,5,5,11,11,11,11,11,7,7,7,9,9,10,10].getD (f - 192) 0
def sizeM (f:Nat):Nat :=
  if f<192∨224≤f then 0
  else [0,0,0,0,1,2,4,1,2,4,4,8,1,2,4,8,1,2,4,8,0,0,0,0,0,1,2,4,2,4,2,4].getD (f - 192) 0
def shortM (f:Nat):Nat :=
  if f<128 then f else if f<144 then f - 128 else if f<160 then f - 144 else if f<192 then f - 160
  else if 224≤f then 18446744073709551360+f else if 212≤f∧f≤216 then 2 ^ (f - 212) else 0
def moreB (f:Nat):Nat:=if kindM f=11 then 1 else 0
def numM (kind:Nat) (L:List Nat):Nat:=if kind=5∧127<L.getD 0 0 then 18446744073709551616 - 256 ^ L.length+natB L else natB L
def getM (l:List Nat) (k:Int):Nat × Nat × Nat × Nat :=
  if k<0∨(l.length:Int)<k then (0,0,0,1)
  else if k=l.length then (0,0,0,2)
  else if l.getD k.toNat 0=193 then (0,0,0,3)
  else if l.length<k.toNat+1+sizeM (l.getD k.toNat 0)+moreB (l.getD k.toNat 0) then (0,0,0,2)
  else (kindM (l.getD k.toNat 0),if sizeM (l.getD k.toNat 0)=0 then shortM (l.getD k.toNat 0) else numM (kindM (l.getD k.toNat 0)) ((l.drop (k.toNat+1)).take (sizeM (l.getD k.toNat 0))),k.toNat+1+sizeM (l.getD k.toNat 0)+moreB (l.getD k.toNat 0),0)
def tup4 (g:Nat × Nat × Nat × Nat):Value:=.tuple #[.int .i64 (g.1:Int),.int .u64 (g.2.1:Int),.int .i64 (g.2.2.1:Int),.int .i64 (g.2.2.2:Int)]
theorem getM_in (l:List Nat) (k f:Nat) (hk:k<l.length) (hf:l.getD k 0=f):getM l (k:Int) =
    if f=193 then (0,0,0,3) else if l.length<k+1+sizeM f+moreB f then (0,0,0,2)
    else (kindM f,if sizeM f=0 then shortM f else numM (kindM f) ((l.drop (k+1)).take (sizeM f)),k+1+sizeM f+moreB f,0):=by
  unfold getM
  rw [if_neg (by omega),if_neg (by omega)]
  simp only [Int.toNat_natCast,hf]
theorem f32 (f:Nat) (h0:192≤f) (h1:f<224):∃ j,f=192+j∧j<32:=⟨f - 192,by omega,by omega⟩
theorem sizeB_le (f:Nat):sizeM f≤8:=by
  unfold sizeM
  split
  · omega
  · next hn =>
    obtain ⟨j,rfl,hj⟩:=f32 f (by omega) (by omega)
    rw [Nat.add_sub_cancel_left]
    clear hn
    revert hj;revert j
    decide
theorem sizeB_five (f:Nat):sizeM f=0∨sizeM f=1∨sizeM f=2∨sizeM f=4∨sizeM f=8:=by
  unfold sizeM
  split
  · exact .inl rfl
  · next hn =>
    obtain ⟨j,rfl,hj⟩:=f32 f (by omega) (by omega)
    rw [Nat.add_sub_cancel_left]
    clear hn
    revert hj;revert j
    decide
theorem kindB_0 (f:Nat) (hf:f<256):kindM f=0 ↔ f=193:=by
  revert hf;revert f;decide
structure Lays (k x f S:Nat):Prop where
  kd:kindM f=k
  sz:sizeM f=S
  lt:f<256
  sh:S=0→shortM f=x
  nm:S ≠ 0→numM k (be S x)=x
theorem numB_be (k S x:Nat) (hk:k ≠ 5) (hx:x<256 ^ S):numM k (be S x)=x:=by
  unfold numM
  rw [if_neg (fun h=>hk h.1),natB_be,Nat.mod_eq_of_lt hx]
theorem numB_below (S x:Nat) (h5:S=1∨S=2∨S=4∨S=8) (hx:x<18446744073709551616) (h:(18446744073709551615 - x)*2<256 ^ S):numM 5 (be S x)=x:=by
  unfold numM
  rw [natB_be,be_len]
  rcases h5 with rfl | rfl | rfl | rfl
  iterate 4
    · simp only [be,List.getD_cons_zero,Nat.reducePow] at *;rw [if_pos ⟨trivial,by omega⟩];omega
theorem tab_step (k a:Nat) (s:Nat) (hs:s≤3) (h:(k=4∧a=204)∨(k=5∧a=208)):kindM (a+s)=k∧sizeM (a+s)=2 ^ s:=by
  rcases h with ⟨rfl,rfl⟩ | ⟨rfl,rfl⟩ <;> (have:s=0∨s=1∨s=2∨s=3:=by omega) <;> rcases this with rfl | rfl | rfl | rfl <;> exact ⟨rfl,rfl⟩
theorem tab_step3 (k a:Nat) (s:Nat) (hs:s≤2) (h:(k=7∧a=217)∨(k=8∧a=196)):kindM (a+s)=k∧sizeM (a+s)=2 ^ s:=by
  rcases h with ⟨rfl,rfl⟩ | ⟨rfl,rfl⟩ <;> (have:s=0∨s=1∨s=2:=by omega) <;> rcases this with rfl | rfl | rfl <;> exact ⟨rfl,rfl⟩
theorem tab_step2 (k a:Nat) (s:Nat) (hs:s≤2) (h:(k=9∧a=219)∨(k=10∧a=221)):kindM (a+max s 1)=k∧sizeM (a+max s 1)=2 ^ max s 1:=by
  rcases h with ⟨rfl,rfl⟩ | ⟨rfl,rfl⟩ <;> (have:s=0∨s=1∨s=2:=by omega) <;> rcases this with rfl | rfl | rfl <;> exact ⟨rfl,rfl⟩
theorem step32 (n:Nat) (h:n<4294967296):stepN n≤2:=by
  unfold stepN;split <;> (try split) <;> (try split) <;> omega
theorem pow2_ne (s:Nat):2 ^ s ≠ 0:=Nat.ne_of_gt (Nat.pow_pos (by decide))
theorem max_pow {x s:Nat} (h:x<256 ^ 2 ^ s):x<256 ^ 2 ^ max s 1 :=
  Nat.lt_of_lt_of_le h (Nat.pow_le_pow_right (by decide) (Nat.pow_le_pow_right (by decide) (Nat.le_max_left _ _)))
def okX (k x:Nat):Prop :=
  ((k=1∨k=2∨k=3)→x=0)∧(k=5→9223372036854775808≤x)∧((k=7∨k=8∨k=9∨k=10∨k=12)→x<4294967296)∧x<18446744073709551616
theorem mlay_lays (k x:Nat) (hk:1≤k∧k≤12∧k ≠ 11) (h:okX k x):Lays k x (mlay k x).1 (mlay k x).2:=by
  obtain ⟨h1,h5,h7,hx⟩:=h
  have hc:k=1∨k=2∨k=3∨k=12∨k=6∨k=7∨k=8∨k=9∨k=10∨k=5∨k=4:=by omega
  rcases hc with rfl | rfl | rfl | rfl | rfl | rfl | rfl | rfl | rfl | rfl | rfl
  · obtain rfl:=h1 (by omega)
    rw [show mlay 1 0=(192,0) by simp [mlay]]
    exact ⟨by decide,by decide,by decide,fun _=>by decide,fun h=>absurd rfl h⟩
  · obtain rfl:=h1 (by omega)
    rw [show mlay 2 0=(194,0) by simp [mlay]]
    exact ⟨by decide,by decide,by decide,fun _=>by decide,fun h=>absurd rfl h⟩
  · obtain rfl:=h1 (by omega)
    rw [show mlay 3 0=(195,0) by simp [mlay]]
    exact ⟨by decide,by decide,by decide,fun _=>by decide,fun h=>absurd rfl h⟩
  · have:=h7 (by omega)
    rw [show mlay 12 x=(202,4) by simp [mlay]]
    exact ⟨by decide,by decide,by decide,(fun h=>by cases h),fun _=>numB_be _ _ _ (by decide) (by simpa using this)⟩
  · rw [show mlay 6 x=(203,8) by simp [mlay]]
    exact ⟨by decide,by decide,by decide,(fun h=>by cases h),fun _=>numB_be _ _ _ (by decide) (by simpa using hx)⟩
  · have hs:=h7 (by omega)
    have hm:x % 4294967296=x:=Nat.mod_eq_of_lt hs
    have h2:=step32 x hs
    have e:mlay 7 x=if x<32 then (160+x,0) else (217+stepN x,2 ^ stepN x):=by simp [mlay,hm]
    rw [e]
    by_cases g:x<32
    · rw [if_pos g]
      refine ⟨?_,?_,by omega,fun _=>?_,fun h=>absurd rfl h⟩
      · show kindM (160+x)=7
        unfold kindM;rw [if_neg (by omega),if_neg (by omega),if_neg (by omega),if_pos (by omega)]
      · show sizeM (160+x)=0
        unfold sizeM;rw [if_pos (by omega)]
      · show shortM (160+x)=x
        unfold shortM;rw [if_neg (by omega),if_neg (by omega),if_neg (by omega),if_pos (by omega)];omega
    · rw [if_neg g]
      have ht:=tab_step3 7 217 (stepN x) h2 (.inl ⟨rfl,rfl⟩)
      exact ⟨ht.1,ht.2,by show 217+stepN x<256;omega,(fun h=>absurd h (pow2_ne _)),fun _=>numB_be _ _ _ (by decide) (stepN_ge x hx)⟩
  · have hs:=h7 (by omega)
    have hm:x % 4294967296=x:=Nat.mod_eq_of_lt hs
    have h2:=step32 x hs
    have e:mlay 8 x=(196+stepN x,2 ^ stepN x):=by simp [mlay,hm]
    rw [e]
    have ht:=tab_step3 8 196 (stepN x) h2 (.inr ⟨rfl,rfl⟩)
    exact ⟨ht.1,ht.2,by show 196+stepN x<256;omega,(fun h=>absurd h (pow2_ne _)),fun _=>numB_be _ _ _ (by decide) (stepN_ge x hx)⟩
  · have hs:=h7 (by omega)
    have hm:x % 4294967296=x:=Nat.mod_eq_of_lt hs
    have h2:=step32 x hs
    have e:mlay 9 x=if x<16 then (144+x,0) else (219+max (stepN x) 1,2 ^ max (stepN x) 1):=by simp [mlay,hm]
    rw [e]
    by_cases g:x<16
    · rw [if_pos g]
      refine ⟨?_,?_,by omega,fun _=>?_,fun h=>absurd rfl h⟩
      · show kindM (144+x)=9
        unfold kindM;rw [if_neg (by omega),if_neg (by omega),if_pos (by omega)]
      · show sizeM (144+x)=0
        unfold sizeM;rw [if_pos (by omega)]
      · show shortM (144+x)=x
        unfold shortM;rw [if_neg (by omega),if_neg (by omega),if_pos (by omega)];omega
    · rw [if_neg g]
      have ht:=tab_step2 9 219 (stepN x) h2 (.inl ⟨rfl,rfl⟩)
      exact ⟨ht.1,ht.2,by show 219+max (stepN x) 1<256;omega,(fun h=>absurd h (pow2_ne _)),fun _=>numB_be _ _ _ (by decide) (max_pow (stepN_ge x hx))⟩
  · have hs:=h7 (by omega)
    have hm:x % 4294967296=x:=Nat.mod_eq_of_lt hs
    have h2:=step32 x hs
    have e:mlay 10 x=if x<16 then (128+x,0) else (221+max (stepN x) 1,2 ^ max (stepN x) 1):=by simp [mlay,hm]
    rw [e]
    by_cases g:x<16
    · rw [if_pos g]
      refine ⟨?_,?_,by omega,fun _=>?_,fun h=>absurd rfl h⟩
      · show kindM (128+x)=10
        unfold kindM;rw [if_neg (by omega),if_pos (by omega)]
      · show sizeM (128+x)=0
        unfold sizeM;rw [if_pos (by omega)]
      · show shortM (128+x)=x
        unfold shortM;rw [if_neg (by omega),if_pos (by omega)];omega
    · rw [if_neg g]
      have ht:=tab_step2 10 221 (stepN x) h2 (.inr ⟨rfl,rfl⟩)
      exact ⟨ht.1,ht.2,by show 221+max (stepN x) 1<256;omega,(fun h=>absurd h (pow2_ne _)),fun _=>numB_be _ _ _ (by decide) (max_pow (stepN_ge x hx))⟩
  · have hs:=h5 rfl
    have e:mlay 5 x=if 18446744073709551584≤x then (x % 256,0) else (208+stepN ((18446744073709551615 - x)*2),2 ^ stepN ((18446744073709551615 - x)*2)):=by
      simp [mlay,hs]
    rw [e]
    by_cases g:18446744073709551584≤x
    · rw [if_pos g]
      refine ⟨?_,?_,Nat.mod_lt _ (by decide),fun _=>?_,fun h=>absurd rfl h⟩
      · show kindM (x % 256)=5
        unfold kindM;rw [if_neg (by omega),if_neg (by omega),if_neg (by omega),if_neg (by omega),if_pos (by omega)]
      · show sizeM (x % 256)=0
        unfold sizeM;rw [if_pos (by omega)]
      · show shortM (x % 256)=x
        unfold shortM;rw [if_neg (by omega),if_neg (by omega),if_neg (by omega),if_neg (by omega),if_pos (by omega)];omega
    · rw [if_neg g]
      have hle:=stepN_le ((18446744073709551615 - x)*2)
      have hge:=stepN_ge ((18446744073709551615 - x)*2) (by omega)
      have ht:=tab_step 5 208 (stepN ((18446744073709551615 - x)*2)) hle (.inr ⟨rfl,rfl⟩)
      have h4:=stepN_cases ((18446744073709551615 - x)*2)
      generalize stepN ((18446744073709551615 - x)*2)=s at *
      refine ⟨ht.1,ht.2,by show 208+s<256;omega,(fun h=>absurd h (pow2_ne _)),fun _=>numB_below _ x ?_ hx hge⟩
      rcases h4 with rfl | rfl | rfl | rfl <;> decide
  · have e:mlay 4 x=if x<128 then (x,0) else (204+stepN x,2 ^ stepN x):=by simp [mlay]
    rw [e]
    by_cases g:x<128
    · rw [if_pos g]
      refine ⟨?_,?_,by omega,fun _=>?_,fun h=>absurd rfl h⟩
      · show kindM x=4
        unfold kindM;rw [if_pos g]
      · show sizeM x=0
        unfold sizeM;rw [if_pos (by omega)]
      · show shortM x=x
        unfold shortM;rw [if_pos g]
    · rw [if_neg g]
      have ht:=tab_step 4 204 (stepN x) (stepN_le x) (.inl ⟨rfl,rfl⟩)
      exact ⟨ht.1,ht.2,by show 204+stepN x<256;have:=stepN_le x;omega,(fun h=>absurd h (pow2_ne _)),fun _=>numB_be _ _ _ (by decide) (stepN_ge x hx)⟩
theorem wpl_one (w:World) (x:Value) {ops:Array Oper} {rest:List Oper} {o:Oper} {a:Act} {Q:Exit→Act→World→Prop}
    (hg:o.guard=none) (s y:Operand) (hop:o.op=.call { callee:=.builtin .append,args:=#[s,y],argTypes:=#[22,22] })
    (ad:Option Addr) (n:Nat) (l:List Nat) (hs:a.eval s=.slice ad n n) (hl:l.length=n) (hr:RdV w ad (bc l)) (hy:a.eval y=.slice (some ⟨w.heap.size,0,none⟩) 1 1)
    (b:Nat) (hx:x=.int .u8 (b:Int)) (hn:n≤100000000)
    (h:∀ v' w',w'.ownsRow w.heap.size 5 1 v' (l++[b]).length (bc (l++[b]))→Below w.heap.size w w'→wpList Tryz.prog ops Q rest (a.put o.dst v') w') :
    wpList Tryz.prog ops Q (o::rest) a (w.alloc (.cells #[x] 5)):=by
  obtain ⟨i0,hi,hz0,hz1,hz2⟩:=info_parts info_u8
  have hB:Below w.heap.size w (w.alloc (.cells #[x] 5)):=(Below.refl _ _).alloc (Nat.le_refl _) _
  have hr2:=hr.on hB
  have hnew:RdV (w.alloc (.cells #[x] 5)) (some ⟨w.heap.size,0,none⟩) [x]:=rd_newH w _ [x]
  refine wpList_append_grows _ hg s y 22 hop 5 i0 (.int .u8 0) 1 1 Tryz.underlying22 hi hz0 hz1 hz2 rfl (by decide) ad n n (bc l) hs ?_ (by rw [bc_len];omega) ?_ ⟨w.heap.size,0,none⟩ 1 1 [x] hy rfl ?_ ?_ (by omega) (by unfold maxLen;omega) (by omega) ?_
  · intro e
    subst e
    have:(bc l).length=0:=by
      rcases Nat.eq_zero_or_pos (bc l).length with h0 | h0
      · exact h0
      · obtain ⟨_,_,e,_⟩:=hr 0 h0
        cases e
    rw [bc_len] at this
    omega
  · intro b' e j u hj
    subst e
    have hjl:j<(bc l).length:=(List.getElem?_eq_some_iff.1 hj).1
    obtain ⟨bb,o',e,_,hc⟩:=hr2 j hjl
    cases e
    have hadd:(⟨bb,o',none⟩:Addr).add j=⟨bb,o'+j,none⟩:=by unfold Addr.add;split <;> simp_all
    rw [hadd,hc,hj]
  · intro j u hj
    have hjl:j < [x].length:=(List.getElem?_eq_some_iff.1 hj).1
    obtain ⟨bb,o',e,_,hc⟩:=hnew j hjl
    cases e
    have hadd:(⟨w.heap.size,0,none⟩:Addr).add j=⟨w.heap.size,0+j,none⟩:=by unfold Addr.add;split <;> simp_all
    rw [hadd,hc,hj]
  · intro u hu
    rw [List.mem_singleton] at hu
    subst hu
    rw [hx];rfl
  · intro v' w' h1 h2
    refine h v' w' ?_ ((hB).grown h2 (by simp) (fun k hk=>by cases hk))
    have e:bc (l++[b])=bc l++[x]:=by rw [bc_app,hx];rfl
    rw [e,List.length_append,hl]
    refine ⟨h1.1,?_⟩
    rcases h1.2 with h3 | ⟨g,cap,cur,rfl,hB',rest⟩
    · exact .inl h3
    · exact .inr ⟨g,cap,cur,rfl,Nat.le_trans hB.size hB',rest⟩
theorem stepOf_any (n:Nat) (w:World) (hn:n<18446744073709551616) :
    Calls Tryz.prog 200 #[.int .u64 (n:Int)] w fun e w'=>e=.returned (.int .u8 ((stepN n:Nat):Int))∧w'=w:=by
  by_cases h2:n<256
  · have E:=Lib.hid (stepN_0 h2)
    have e2:decide ((n:Int)≤255)=true:=decide_eq_true (by omega)
    go_enter Tryz.func200,Tryz.ntmps200
    go_wp2_with fail
    go_ret
    exact ⟨by rw [E.out];rfl,rfl⟩
  have e2:decide ((n:Int)≤255)=false:=decide_eq_false (by omega)
  by_cases h3:n<65536
  · have E:=Lib.hid (stepN_1 (by omega) h3)
    have e3:decide ((n:Int)≤65535)=true:=decide_eq_true (by omega)
    go_enter Tryz.func200,Tryz.ntmps200
    go_wp2_with fail
    go_ret
    exact ⟨by rw [E.out];rfl,rfl⟩
  have e3:decide ((n:Int)≤65535)=false:=decide_eq_false (by omega)
  by_cases h4:n<4294967296
  · have E:=Lib.hid (stepN_2 (by omega) h4)
    have e4:decide ((n:Int)≤4294967295)=true:=decide_eq_true (by omega)
    go_enter Tryz.func200,Tryz.ntmps200
    go_wp2_with fail
    go_ret
    exact ⟨by rw [E.out];rfl,rfl⟩
  · have E:=Lib.hid (stepN_3 (show 4294967296≤n by omega))
    have e4:decide ((n:Int)≤4294967295)=false:=decide_eq_false (by omega)
    go_enter Tryz.func200,Tryz.ntmps200
    go_wp2_with fail
    go_ret
    exact ⟨by rw [E.out];rfl,rfl⟩
def PutI (w0:World) (l:List Nat) (f S x:Nat) (c i:Value) (wr:World):Prop :=
  ∃ (j:Nat) (L:List Nat),j≤S∧i=.int .i64 (j:Int)∧wr.ownsRow w0.heap.size 5 1 c L.length (bc L)∧L.length+j=l.length+1+S∧L++be j x=l++f::be S x∧Below w0.heap.size w0 wr
theorem PutI.step {w0 w':World} {l L:List Nat} {f S x t:Nat} {c:Value} (hj:t+1≤S) (hn:L.length+(t+1)=l.length+1+S) (hL:L++be (t+1) x=l++f::be S x) (ho:w'.ownsRow w0.heap.size 5 1 c (L.length+1) (bc (L++[x / 256 ^ t % 256]))) (hb:Below w0.heap.size w0 w'):PutI w0 l f S x c (.int .i64 (t:Int)) w' :=
  ⟨t,L++[x / 256 ^ t % 256],by omega,rfl,by rw [List.length_append];exact ho,by simp;omega,by rw [← hL];simp [be],hb⟩
theorem put_core (ad:Option Addr) (l:List Nat) (n f S x:Nat) (w:World) (hl:l.length=n) (hn:n≤1000000) (hr:RdV w ad (bc l)) (hf:f<256) (hS:S≤8) (hx:x<18446744073709551616) :
    Calls Tryz.prog 168 #[.slice ad n n,.int .u8 (f:Int),.int .i64 (S:Int),.int .u64 (x:Int)] w (PutL (l++f::be S x) w):=by
  have K2:=Lib.hid (grow_any ad l n w hl (by omega) hr)
  have HL:=Lib.hid hl
  have HN:=Lib.hid hn
  clear hl hr hn
  go_enter Tryz.func168,Tryz.ntmps168
  go_wp2_with fail
  refine K2.out.mono ?_
  rintro r w2 ⟨v0,rfl,ho,hb⟩
  have O0:=Lib.hid ho;have B0:=Lib.hid hb
  clear ho hb K2
  go_wp2_with (at_builtin;refine wpl_put _ _ rfl _ _ rfl w v0 (l.length) (l) rfl O0.out B0.out 1 rfl rfl [f] rfl (l++[f]) rfl (by have:=HN.out;have:=HL.out;omega) ?_)
  intro v1 u1 ho hb
  have HST:=Lib.hid (show PutI w l f S x v1 (.int .i64 (S:Int)) u1 from ⟨S,l++[f],Nat.le_refl _,rfl,by rw [List.length_append];exact ho,by simp,by simp,hb⟩)
  clear ho hb O0 B0
  go_wp2
  go_loopw [0,2] (fun c i wr=>PutI w l f S x c i wr) (fun _ i _=>(RowKit.intOf i).toNat)
  case atStart=>exact HST.out
  case round =>
    clear HST
    obtain ⟨j,L,hj,rfl,ho,hnn,hLL,hbl⟩:=hrel
    have HNN:=Lib.hid hnn
    have HO:=Lib.hid ho;have HLL:=Lib.hid hLL;have HBL:=Lib.hid hbl
    clear hnn ho hLL hbl
    by_cases hj0:0<j
    · obtain ⟨t,rfl⟩:∃ t,j=t+1:=⟨j - 1,by omega⟩
      have e0:(0:Int)<((t+1:Nat):Int):=by omega
      have e1:((t+1:Nat):Int) - 1=(t:Int):=by omega
      have e2:(0:Int)≤(t:Int):=by omega
      have e3:(8*t:Nat)≤64:=by omega
      have EB:=Lib.hid (shr_byte x t)
      clear hj0
      go_wp2_with (at_builtin;refine wpl_put wr _ rfl _ _ rfl w _ L.length L rfl HO.out HBL.out 1 rfl rfl [x / 256 ^ t % 256] (by rw [EB.out];rfl) (L++[x / 256 ^ t % 256]) rfl (by have:=HN.out;have:=HL.out;have:=HNN.out;omega) ?_)
      intro c2 w7 ho7 hb7
      have HST:=Lib.hid (PutI.step hj HNN.out HLL.out ho7 hb7)
      clear ho7 hb7
      go_wp2
      go_roundw
      case rel=>exact HST.out
      case measure=>simp [RowKit.intOf]
    · obtain rfl:j=0:=by omega
      have hL:L=l++f::be S x:=by rw [← HLL.out];simp [be]
      clear hj0 HLL
      go_wp2
      go_ret
      have O:=HO.out
      refine ⟨_,rfl,?_,HBL.out⟩
      rw [← hL];exact O
end Go.Proofs.YtnacbakcalcgaaaGreatDoor
