/- Texts of the claim. -/
import Derived.Test.YtnacbakcalcgaaaGreatDoorIu
set_option linter.unusedVariables false
set_option linter.unusedSimpArgs false
set_option maxHeartbeats 2000000
set_option maxRecDepth 100000
namespace Go.Proofs.YtnacbakcalcgaaaGreatDoor
open Go.RowKit Go.Lib
theorem byte_val {z:Int} {b:Nat} (h:z=(b:Int)):Value.int .u8 z=.int .u8 (b:Int):=by rw [h]
theorem putUint_0 (ad:Option Addr) (l:List Nat) (n x:Nat) (w:World) (hl:l.length=n) (hn:n≤1000000) (hr:RdV w ad (bc l)) (h:x<128) :
    Calls Tryz.prog 171 #[.slice ad n n,.int .u64 (x:Int)] w (PutL (l++[x]) w):=by
  have HL:=Lib.hid hl;have HN:=Lib.hid hn;have HR:=Lib.hid hr
  have e1:decide ((x:Int)≤127)=true:=decide_eq_true (by omega)
  clear hl hn hr
  go_enter Tryz.func171,Tryz.ntmps171
  go_wp2_with (at_builtin;refine wpl_one w _ rfl _ _ rfl ad n l rfl HL.out HR.out rfl (x) (byte_val (by omega)) (by have:=HN.out;omega) ?_)
  intro v1 u1 ho hb
  have O:=Lib.hid ho;have B:=Lib.hid hb
  clear ho hb
  go_wp2
  go_ret
  refine ⟨_,rfl,?_,B.out⟩
  rw [List.length_append];exact O.out
theorem putUint_1 (ad:Option Addr) (l:List Nat) (n x:Nat) (w:World) (hl:l.length=n) (hn:n≤1000000) (hr:RdV w ad (bc l)) (hx:x<18446744073709551616) (h:¬ x<128) (hs:stepN x=0) :
    Calls Tryz.prog 171 #[.slice ad n n,.int .u64 (x:Int)] w (PutL (l++204::be 1 x) w):=by
  have HL:=Lib.hid hl;have HN:=Lib.hid hn;have HR:=Lib.hid hr
  have HX:=Lib.hid hx
  have e1:decide ((x:Int)≤127)=false:=decide_eq_false (by omega)
  have K:=Lib.hid (fun W=>show Calls Tryz.prog 200 #[.int .u64 (x:Int)] W fun e w'=>e=.returned (.int .u8 0)∧w'=W by have:=stepOf_any x W hx;rw [hs] at this;exact this)
  clear hs h hx
  clear hl hn hr
  go_enter Tryz.func171,Tryz.ntmps171
  go_wp2_with fail
  refine (K.out _).mono ?_
  rintro r w1 ⟨rfl,rfl⟩
  go_wp2_with fail
  refine (put_core ad l n (204) (1) x _ HL.out HN.out HR.out (by decide) (by decide) HX.out).mono ?_
  rintro r w2 ⟨v,rfl,ho,hb⟩
  have O:=Lib.hid ho;have B:=Lib.hid hb
  clear ho hb
  go_wp2_with fail
  go_ret
  exact ⟨_,rfl,O.out,B.out⟩
theorem putUint_2 (ad:Option Addr) (l:List Nat) (n x:Nat) (w:World) (hl:l.length=n) (hn:n≤1000000) (hr:RdV w ad (bc l)) (hx:x<18446744073709551616) (h:¬ x<128) (hs:stepN x=1) :
    Calls Tryz.prog 171 #[.slice ad n n,.int .u64 (x:Int)] w (PutL (l++205::be 2 x) w):=by
  have HL:=Lib.hid hl;have HN:=Lib.hid hn;have HR:=Lib.hid hr
  have HX:=Lib.hid hx
  have e1:decide ((x:Int)≤127)=false:=decide_eq_false (by omega)
  have K:=Lib.hid (fun W=>show Calls Tryz.prog 200 #[.int .u64 (x:Int)] W fun e w'=>e=.returned (.int .u8 1)∧w'=W by have:=stepOf_any x W hx;rw [hs] at this;exact this)
  clear hs h hx
  clear hl hn hr
  go_enter Tryz.func171,Tryz.ntmps171
  go_wp2_with fail
  refine (K.out _).mono ?_
  rintro r w1 ⟨rfl,rfl⟩
  go_wp2_with fail
  refine (put_core ad l n (205) (2) x _ HL.out HN.out HR.out (by decide) (by decide) HX.out).mono ?_
  rintro r w2 ⟨v,rfl,ho,hb⟩
  have O:=Lib.hid ho;have B:=Lib.hid hb
  clear ho hb
  go_wp2_with fail
  go_ret
  exact ⟨_,rfl,O.out,B.out⟩
theorem putUint_3 (ad:Option Addr) (l:List Nat) (n x:Nat) (w:World) (hl:l.length=n) (hn:n≤1000000) (hr:RdV w ad (bc l)) (hx:x<18446744073709551616) (h:¬ x<128) (hs:stepN x=2) :
    Calls Tryz.prog 171 #[.slice ad n n,.int .u64 (x:Int)] w (PutL (l++206::be 4 x) w):=by
  have HL:=Lib.hid hl;have HN:=Lib.hid hn;have HR:=Lib.hid hr
  have HX:=Lib.hid hx
  have e1:decide ((x:Int)≤127)=false:=decide_eq_false (by omega)
  have K:=Lib.hid (fun W=>show Calls Tryz.prog 200 #[.int .u64 (x:Int)] W fun e w'=>e=.returned (.int .u8 2)∧w'=W by have:=stepOf_any x W hx;rw [hs] at this;exact this)
  clear hs h hx
  clear hl hn hr
  go_enter Tryz.func171,Tryz.ntmps171
  go_wp2_with fail
  refine (K.out _).mono ?_
  rintro r w1 ⟨rfl,rfl⟩
  go_wp2_with fail
  refine (put_core ad l n (206) (4) x _ HL.out HN.out HR.out (by decide) (by decide) HX.out).mono ?_
  rintro r w2 ⟨v,rfl,ho,hb⟩
  have O:=Lib.hid ho;have B:=Lib.hid hb
  clear ho hb
  go_wp2_with fail
  go_ret
  exact ⟨_,rfl,O.out,B.out⟩
theorem putUint_4 (ad:Option Addr) (l:List Nat) (n x:Nat) (w:World) (hl:l.length=n) (hn:n≤1000000) (hr:RdV w ad (bc l)) (hx:x<18446744073709551616) (h:¬ x<128) (hs:stepN x=3) :
    Calls Tryz.prog 171 #[.slice ad n n,.int .u64 (x:Int)] w (PutL (l++207::be 8 x) w):=by
  have HL:=Lib.hid hl;have HN:=Lib.hid hn;have HR:=Lib.hid hr
  have HX:=Lib.hid hx
  have e1:decide ((x:Int)≤127)=false:=decide_eq_false (by omega)
  have K:=Lib.hid (fun W=>show Calls Tryz.prog 200 #[.int .u64 (x:Int)] W fun e w'=>e=.returned (.int .u8 3)∧w'=W by have:=stepOf_any x W hx;rw [hs] at this;exact this)
  clear hs h hx
  clear hl hn hr
  go_enter Tryz.func171,Tryz.ntmps171
  go_wp2_with fail
  refine (K.out _).mono ?_
  rintro r w1 ⟨rfl,rfl⟩
  go_wp2_with fail
  refine (put_core ad l n (207) (8) x _ HL.out HN.out HR.out (by decide) (by decide) HX.out).mono ?_
  rintro r w2 ⟨v,rfl,ho,hb⟩
  have O:=Lib.hid ho;have B:=Lib.hid hb
  clear ho hb
  go_wp2_with fail
  go_ret
  exact ⟨_,rfl,O.out,B.out⟩
theorem putUint_any (ad:Option Addr) (l:List Nat) (n x:Nat) (w:World) (hl:l.length=n) (hn:n≤1000000) (hr:RdV w ad (bc l)) (hx:x<18446744073709551616) :
    Calls Tryz.prog 171 #[.slice ad n n,.int .u64 (x:Int)] w (PutL (l++(mlay 4 x).1::be (mlay 4 x).2 x) w):=by
  rw [show mlay 4 x=if x<128 then (x,0) else (204+stepN x,2 ^ stepN x) by simp [mlay]]
  by_cases h:x<128
  · rw [if_pos h];exact putUint_0 ad l n x w hl hn hr h
  rw [if_neg h]
  rcases stepN_cases x with hs | hs | hs | hs <;> rw [hs]
  · exact putUint_1 ad l n x w hl hn hr hx h hs
  · exact putUint_2 ad l n x w hl hn hr hx h hs
  · exact putUint_3 ad l n x w hl hn hr hx h hs
  · exact putUint_4 ad l n x w hl hn hr hx h hs
theorem xor_max (x:Nat) (hx:x<18446744073709551616):bits .xor .u64 IntKind.u64.max (x:Int)=18446744073709551615 - (x:Int):=by
  show IntKind.u64.wrap (((BitVec.ofInt 64 IntKind.u64.max ^^^ BitVec.ofInt 64 (x:Int)).toNat:Nat):Int)=_
  rw [show BitVec.ofInt 64 IntKind.u64.max=BitVec.allOnes 64 by decide,BitVec.allOnes_xor,BitVec.toNat_not,BitVec.toNat_ofInt,IntKind.wrap_u64]
  omega
theorem and_32 (x:Nat) (hx:x<18446744073709551616):bits .and .u64 (x:Int) 4294967295=((x % 4294967296:Nat):Int):=by
  have h7:(BitVec.ofInt 64 4294967295).toNat=2 ^ 32 - 1:=by decide
  have hx:(BitVec.ofInt 64 (x:Int)).toNat=x:=by rw [BitVec.toNat_ofInt];omega
  show IntKind.u64.wrap (((BitVec.ofInt 64 (x:Int) &&& BitVec.ofInt 64 4294967295).toNat:Nat):Int)=_
  rw [BitVec.toNat_and,h7,Nat.and_two_pow_sub_one_eq_mod,hx,show (2:Nat) ^ 32=4294967296 from rfl,IntKind.wrap_u64]
  omega
theorem i64_of (x:Nat) (h0:9223372036854775808≤x) (hx:x<18446744073709551616):IntKind.i64.wrap (x:Int)=(x:Int) - 18446744073709551616:=by rw [IntKind.wrap_i64];omega
theorem putBelow_0 (ad:Option Addr) (l:List Nat) (n x:Nat) (w:World) (hl:l.length=n) (hn:n≤1000000) (hr:RdV w ad (bc l)) (hx:x<18446744073709551616) (h:18446744073709551584≤x) :
    Calls Tryz.prog 170 #[.slice ad n n,.int .u64 (x:Int)] w (PutL (l++[x % 256]) w):=by
  have HL:=Lib.hid hl;have HN:=Lib.hid hn;have HR:=Lib.hid hr
  have e0:=i64_of x (by omega) hx
  have e1:decide ((-32:Int)≤(x:Int) - 18446744073709551616)=true:=decide_eq_true (by omega)
  clear hl hn hr
  go_enter Tryz.func170,Tryz.ntmps170
  go_wp2_with (at_builtin;refine wpl_one w _ rfl _ _ rfl ad n l rfl HL.out HR.out rfl (x % 256) (byte_val (by omega)) (by have:=HN.out;omega) ?_)
  intro v1 u1 ho hb
  have O:=Lib.hid ho;have B:=Lib.hid hb
  clear ho hb
  go_wp2
  go_ret
  refine ⟨_,rfl,?_,B.out⟩
  rw [List.length_append];exact O.out
theorem putBelow_1 (ad:Option Addr) (l:List Nat) (n x:Nat) (w:World) (hl:l.length=n) (hn:n≤1000000) (hr:RdV w ad (bc l)) (hx:x<18446744073709551616) (h5:9223372036854775808≤x) (h:¬ 18446744073709551584≤x) (hs:stepN ((18446744073709551615 - x)*2)=0) :
    Calls Tryz.prog 170 #[.slice ad n n,.int .u64 (x:Int)] w (PutL (l++208::be 1 x) w):=by
  have HL:=Lib.hid hl;have HN:=Lib.hid hn;have HR:=Lib.hid hr
  have HX:=Lib.hid hx
  have e0:=i64_of x (by omega) hx
  have e1:decide ((-32:Int)≤(x:Int) - 18446744073709551616)=false:=decide_eq_false (by omega)
  obtain ⟨y,hy⟩:∃ y:Nat,(18446744073709551615 - x)*2=y:=⟨_,rfl⟩
  rw [hy] at hs
  have K:=Lib.hid (fun W (z:Int) (hz:z=(y:Int))=>show Calls Tryz.prog 200 #[.int .u64 z] W fun e w'=>e=.returned (.int .u8 0)∧w'=W by have:=stepOf_any y W (by omega);rw [hs] at this;rw [hz];exact this)
  have HY:=Lib.hid hy;have H5:=Lib.hid h5
  clear hs h hx hy h5
  clear hl hn hr
  go_enter Tryz.func170,Tryz.ntmps170
  go_wp2_with fail
  refine (K.out _ _ ?hz).mono ?_
  case hz =>
    have:=HY.out;have:=HX.out;have:=H5.out
    rw [xor_max _ HX.out,IntKind.wrap_u64];omega
  rintro r w1 ⟨rfl,rfl⟩
  go_wp2_with fail
  refine (put_core ad l n (208) (1) x _ HL.out HN.out HR.out (by decide) (by decide) HX.out).mono ?_
  rintro r w2 ⟨v,rfl,ho,hb⟩
  have O:=Lib.hid ho;have B:=Lib.hid hb
  clear ho hb
  go_wp2_with fail
  go_ret
  exact ⟨_,rfl,O.out,B.out⟩
theorem putBelow_2 (ad:Option Addr) (l:List Nat) (n x:Nat) (w:World) (hl:l.length=n) (hn:n≤1000000) (hr:RdV w ad (bc l)) (hx:x<18446744073709551616) (h5:9223372036854775808≤x) (h:¬ 18446744073709551584≤x) (hs:stepN ((18446744073709551615 - x)*2)=1) :
    Calls Tryz.prog 170 #[.slice ad n n,.int .u64 (x:Int)] w (PutL (l++209::be 2 x) w):=by
  have HL:=Lib.hid hl;have HN:=Lib.hid hn;have HR:=Lib.hid hr
  have HX:=Lib.hid hx
  have e0:=i64_of x (by omega) hx
  have e1:decide ((-32:Int)≤(x:Int) - 18446744073709551616)=false:=decide_eq_false (by omega)
  obtain ⟨y,hy⟩:∃ y:Nat,(18446744073709551615 - x)*2=y:=⟨_,rfl⟩
  rw [hy] at hs
  have K:=Lib.hid (fun W (z:Int) (hz:z=(y:Int))=>show Calls Tryz.prog 200 #[.int .u64 z] W fun e w'=>e=.returned (.int .u8 1)∧w'=W by have:=stepOf_any y W (by omega);rw [hs] at this;rw [hz];exact this)
  have HY:=Lib.hid hy;have H5:=Lib.hid h5
  clear hs h hx hy h5
  clear hl hn hr
  go_enter Tryz.func170,Tryz.ntmps170
  go_wp2_with fail
  refine (K.out _ _ ?hz).mono ?_
  case hz =>
    have:=HY.out;have:=HX.out;have:=H5.out
    rw [xor_max _ HX.out,IntKind.wrap_u64];omega
  rintro r w1 ⟨rfl,rfl⟩
  go_wp2_with fail
  refine (put_core ad l n (209) (2) x _ HL.out HN.out HR.out (by decide) (by decide) HX.out).mono ?_
  rintro r w2 ⟨v,rfl,ho,hb⟩
  have O:=Lib.hid ho;have B:=Lib.hid hb
  clear ho hb
  go_wp2_with fail
  go_ret
  exact ⟨_,rfl,O.out,B.out⟩
theorem putBelow_3 (ad:Option Addr) (l:List Nat) (n x:Nat) (w:World) (hl:l.length=n) (hn:n≤1000000) (hr:RdV w ad (bc l)) (hx:x<18446744073709551616) (h5:9223372036854775808≤x) (h:¬ 18446744073709551584≤x) (hs:stepN ((18446744073709551615 - x)*2)=2) :
    Calls Tryz.prog 170 #[.slice ad n n,.int .u64 (x:Int)] w (PutL (l++210::be 4 x) w):=by
  have HL:=Lib.hid hl;have HN:=Lib.hid hn;have HR:=Lib.hid hr
  have HX:=Lib.hid hx
  have e0:=i64_of x (by omega) hx
  have e1:decide ((-32:Int)≤(x:Int) - 18446744073709551616)=false:=decide_eq_false (by omega)
  obtain ⟨y,hy⟩:∃ y:Nat,(18446744073709551615 - x)*2=y:=⟨_,rfl⟩
  rw [hy] at hs
  have K:=Lib.hid (fun W (z:Int) (hz:z=(y:Int))=>show Calls Tryz.prog 200 #[.int .u64 z] W fun e w'=>e=.returned (.int .u8 2)∧w'=W by have:=stepOf_any y W (by omega);rw [hs] at this;rw [hz];exact this)
  have HY:=Lib.hid hy;have H5:=Lib.hid h5
  clear hs h hx hy h5
  clear hl hn hr
  go_enter Tryz.func170,Tryz.ntmps170
  go_wp2_with fail
  refine (K.out _ _ ?hz).mono ?_
  case hz =>
    have:=HY.out;have:=HX.out;have:=H5.out
    rw [xor_max _ HX.out,IntKind.wrap_u64];omega
  rintro r w1 ⟨rfl,rfl⟩
  go_wp2_with fail
  refine (put_core ad l n (210) (4) x _ HL.out HN.out HR.out (by decide) (by decide) HX.out).mono ?_
  rintro r w2 ⟨v,rfl,ho,hb⟩
  have O:=Lib.hid ho;have B:=Lib.hid hb
  clear ho hb
  go_wp2_with fail
  go_ret
  exact ⟨_,rfl,O.out,B.out⟩
theorem putBelow_4 (ad:Option Addr) (l:List Nat) (n x:Nat) (w:World) (hl:l.length=n) (hn:n≤1000000) (hr:RdV w ad (bc l)) (hx:x<18446744073709551616) (h5:9223372036854775808≤x) (h:¬ 18446744073709551584≤x) (hs:stepN ((18446744073709551615 - x)*2)=3) :
    Calls Tryz.prog 170 #[.slice ad n n,.int .u64 (x:Int)] w (PutL (l++211::be 8 x) w):=by
  have HL:=Lib.hid hl;have HN:=Lib.hid hn;have HR:=Lib.hid hr
  have HX:=Lib.hid hx
  have e0:=i64_of x (by omega) hx
  have e1:decide ((-32:Int)≤(x:Int) - 18446744073709551616)=false:=decide_eq_false (by omega)
  obtain ⟨y,hy⟩:∃ y:Nat,(18446744073709551615 - x)*2=y:=⟨_,rfl⟩
  rw [hy] at hs
  have K:=Lib.hid (fun W (z:Int) (hz:z=(y:Int))=>show Calls Tryz.prog 200 #[.int .u64 z] W fun e w'=>e=.returned (.int .u8 3)∧w'=W by have:=stepOf_any y W (by omega);rw [hs] at this;rw [hz];exact this)
  have HY:=Lib.hid hy;have H5:=Lib.hid h5
  clear hs h hx hy h5
  clear hl hn hr
  go_enter Tryz.func170,Tryz.ntmps170
  go_wp2_with fail
  refine (K.out _ _ ?hz).mono ?_
  case hz =>
    have:=HY.out;have:=HX.out;have:=H5.out
    rw [xor_max _ HX.out,IntKind.wrap_u64];omega
  rintro r w1 ⟨rfl,rfl⟩
  go_wp2_with fail
  refine (put_core ad l n (211) (8) x _ HL.out HN.out HR.out (by decide) (by decide) HX.out).mono ?_
  rintro r w2 ⟨v,rfl,ho,hb⟩
  have O:=Lib.hid ho;have B:=Lib.hid hb
  clear ho hb
  go_wp2_with fail
  go_ret
  exact ⟨_,rfl,O.out,B.out⟩
theorem putBelow_any (ad:Option Addr) (l:List Nat) (n x:Nat) (w:World) (hl:l.length=n) (hn:n≤1000000) (hr:RdV w ad (bc l)) (hx:x<18446744073709551616) (h5:9223372036854775808≤x) :
    Calls Tryz.prog 170 #[.slice ad n n,.int .u64 (x:Int)] w (PutL (l++(mlay 5 x).1::be (mlay 5 x).2 x) w):=by
  rw [show mlay 5 x=if 18446744073709551584≤x then (x % 256,0) else (208+stepN ((18446744073709551615 - x)*2),2 ^ stepN ((18446744073709551615 - x)*2)) by simp [mlay,h5]]
  by_cases h:18446744073709551584≤x
  · rw [if_pos h];exact putBelow_0 ad l n x w hl hn hr hx h
  rw [if_neg h]
  rcases stepN_cases ((18446744073709551615 - x)*2) with hs | hs | hs | hs <;> rw [hs]
  · exact putBelow_1 ad l n x w hl hn hr hx h5 h hs
  · exact putBelow_2 ad l n x w hl hn hr hx h5 h hs
  · exact putBelow_3 ad l n x w hl hn hr hx h5 h hs
  · exact putBelow_4 ad l n x w hl hn hr hx h5 h hs
theorem putMany_7_s (ad:Option Addr) (l:List Nat) (n x:Nat) (w:World) (hl:l.length=n) (hn:n≤1000000) (hr:RdV w ad (bc l)) (hx:x<4294967296) (h:x<32) :
    Calls Tryz.prog 169 #[.slice ad n n,.int .i64 7,.int .u64 (x:Int)] w (PutL (l++[160+x]) w):=by
  have HL:=Lib.hid hl;have HN:=Lib.hid hn;have HR:=Lib.hid hr
  have HX:=Lib.hid (show x<18446744073709551616 by omega)
  have e2:(x:Int)≤31:=by omega
  have e3:x≤31:=by omega
  have e1:decide ((x:Int)≤31)=true:=decide_eq_true (by omega)
  obtain ⟨s,hs⟩:∃ s,stepN x=s:=⟨_,rfl⟩
  have hs3:s≤3:=by rw [← hs];exact stepN_le x
  have hs0:s=0:=by rw [← hs];exact stepN_0 (by omega)
  subst hs0
  have K:=Lib.hid (fun W=>show Calls Tryz.prog 200 #[.int .u64 (x:Int)] W fun e w'=>e=.returned (.int .u8 0)∧w'=W by have:=stepOf_any x W (by omega);rw [hs] at this;exact this)
  clear hs hs3 h
  clear hl hn hr
  go_enter Tryz.func169,Tryz.ntmps169
  go_wp2_with fail
  refine (K.out _).mono ?_
  rintro r w1 ⟨rfl,rfl⟩
  go_wp2_with (at_builtin;refine wpl_one w1 _ rfl _ _ rfl ad n l rfl HL.out HR.out rfl (160+x) (byte_val (by omega)) (by have:=HN.out;omega) ?_)
  intro v1 u1 ho hb
  have O:=Lib.hid ho;have B:=Lib.hid hb
  clear ho hb
  go_wp2
  go_ret
  refine ⟨_,rfl,?_,B.out⟩
  rw [List.length_append];exact O.out
theorem putMany_7_0 (ad:Option Addr) (l:List Nat) (n x:Nat) (w:World) (hl:l.length=n) (hn:n≤1000000) (hr:RdV w ad (bc l)) (hx:x<4294967296) (h:¬ x<32) (hs:stepN x=0) :
    Calls Tryz.prog 169 #[.slice ad n n,.int .i64 7,.int .u64 (x:Int)] w (PutL (l++217::be 1 x) w):=by
  have HL:=Lib.hid hl;have HN:=Lib.hid hn;have HR:=Lib.hid hr
  have HX:=Lib.hid (show x<18446744073709551616 by omega)
  have e2:¬ (x:Int)≤31:=by omega
  have e3:¬ x≤31:=by omega
  have e4:(31:Int)<(x:Int):=by omega
  have e1:decide ((x:Int)≤31)=false:=decide_eq_false (by omega)
  have K:=Lib.hid (fun W=>show Calls Tryz.prog 200 #[.int .u64 (x:Int)] W fun e w'=>e=.returned (.int .u8 0)∧w'=W by have:=stepOf_any x W (by omega);rw [hs] at this;exact this)
  have mx0:(max 0 1:Int)=1:=rfl
  have mx2:(max 2 1:Int)=2:=rfl
  clear hs h
  clear hl hn hr
  go_enter Tryz.func169,Tryz.ntmps169
  go_wp2_with fail
  refine (K.out _).mono ?_
  rintro r w1 ⟨rfl,rfl⟩
  go_wp2_with fail
  refine (put_core ad l n (217) (1) x _ HL.out HN.out HR.out (by decide) (by decide) HX.out).mono ?_
  rintro r w2 ⟨v,rfl,ho,hb⟩
  have O:=Lib.hid ho;have B:=Lib.hid hb
  clear ho hb
  go_wp2_with fail
  go_ret
  exact ⟨_,rfl,O.out,B.out⟩
theorem putMany_7_1 (ad:Option Addr) (l:List Nat) (n x:Nat) (w:World) (hl:l.length=n) (hn:n≤1000000) (hr:RdV w ad (bc l)) (hx:x<4294967296) (h:¬ x<32) (hs:stepN x=1) :
    Calls Tryz.prog 169 #[.slice ad n n,.int .i64 7,.int .u64 (x:Int)] w (PutL (l++218::be 2 x) w):=by
  have HL:=Lib.hid hl;have HN:=Lib.hid hn;have HR:=Lib.hid hr
  have HX:=Lib.hid (show x<18446744073709551616 by omega)
  have e2:¬ (x:Int)≤31:=by omega
  have e3:¬ x≤31:=by omega
  have e4:(31:Int)<(x:Int):=by omega
  have e1:decide ((x:Int)≤31)=false:=decide_eq_false (by omega)
  have K:=Lib.hid (fun W=>show Calls Tryz.prog 200 #[.int .u64 (x:Int)] W fun e w'=>e=.returned (.int .u8 1)∧w'=W by have:=stepOf_any x W (by omega);rw [hs] at this;exact this)
  have mx0:(max 0 1:Int)=1:=rfl
  have mx2:(max 2 1:Int)=2:=rfl
  clear hs h
  clear hl hn hr
  go_enter Tryz.func169,Tryz.ntmps169
  go_wp2_with fail
  refine (K.out _).mono ?_
  rintro r w1 ⟨rfl,rfl⟩
  go_wp2_with fail
  refine (put_core ad l n (218) (2) x _ HL.out HN.out HR.out (by decide) (by decide) HX.out).mono ?_
  rintro r w2 ⟨v,rfl,ho,hb⟩
  have O:=Lib.hid ho;have B:=Lib.hid hb
  clear ho hb
  go_wp2_with fail
  go_ret
  exact ⟨_,rfl,O.out,B.out⟩
theorem putMany_7_2 (ad:Option Addr) (l:List Nat) (n x:Nat) (w:World) (hl:l.length=n) (hn:n≤1000000) (hr:RdV w ad (bc l)) (hx:x<4294967296) (h:¬ x<32) (hs:stepN x=2) :
    Calls Tryz.prog 169 #[.slice ad n n,.int .i64 7,.int .u64 (x:Int)] w (PutL (l++219::be 4 x) w):=by
  have HL:=Lib.hid hl;have HN:=Lib.hid hn;have HR:=Lib.hid hr
  have HX:=Lib.hid (show x<18446744073709551616 by omega)
  have e2:¬ (x:Int)≤31:=by omega
  have e3:¬ x≤31:=by omega
  have e4:(31:Int)<(x:Int):=by omega
  have e1:decide ((x:Int)≤31)=false:=decide_eq_false (by omega)
  have K:=Lib.hid (fun W=>show Calls Tryz.prog 200 #[.int .u64 (x:Int)] W fun e w'=>e=.returned (.int .u8 2)∧w'=W by have:=stepOf_any x W (by omega);rw [hs] at this;exact this)
  have mx0:(max 0 1:Int)=1:=rfl
  have mx2:(max 2 1:Int)=2:=rfl
  clear hs h
  clear hl hn hr
  go_enter Tryz.func169,Tryz.ntmps169
  go_wp2_with fail
  refine (K.out _).mono ?_
  rintro r w1 ⟨rfl,rfl⟩
  go_wp2_with fail
  refine (put_core ad l n (219) (4) x _ HL.out HN.out HR.out (by decide) (by decide) HX.out).mono ?_
  rintro r w2 ⟨v,rfl,ho,hb⟩
  have O:=Lib.hid ho;have B:=Lib.hid hb
  clear ho hb
  go_wp2_with fail
  go_ret
  exact ⟨_,rfl,O.out,B.out⟩
theorem putMany_8_0 (ad:Option Addr) (l:List Nat) (n x:Nat) (w:World) (hl:l.length=n) (hn:n≤1000000) (hr:RdV w ad (bc l)) (hx:x<4294967296) (hs:stepN x=0) :
    Calls Tryz.prog 169 #[.slice ad n n,.int .i64 8,.int .u64 (x:Int)] w (PutL (l++196::be 1 x) w):=by
  have HL:=Lib.hid hl;have HN:=Lib.hid hn;have HR:=Lib.hid hr
  have HX:=Lib.hid (show x<18446744073709551616 by omega)
  have K:=Lib.hid (fun W=>show Calls Tryz.prog 200 #[.int .u64 (x:Int)] W fun e w'=>e=.returned (.int .u8 0)∧w'=W by have:=stepOf_any x W (by omega);rw [hs] at this;exact this)
  clear hs
  clear hl hn hr
  go_enter Tryz.func169,Tryz.ntmps169
  go_wp2_with fail
  refine (K.out _).mono ?_
  rintro r w1 ⟨rfl,rfl⟩
  go_wp2_with fail
  refine (put_core ad l n (196) (1) x _ HL.out HN.out HR.out (by decide) (by decide) HX.out).mono ?_
  rintro r w2 ⟨v,rfl,ho,hb⟩
  have O:=Lib.hid ho;have B:=Lib.hid hb
  clear ho hb
  go_wp2_with fail
  go_ret
  exact ⟨_,rfl,O.out,B.out⟩
theorem putMany_8_1 (ad:Option Addr) (l:List Nat) (n x:Nat) (w:World) (hl:l.length=n) (hn:n≤1000000) (hr:RdV w ad (bc l)) (hx:x<4294967296) (hs:stepN x=1) :
    Calls Tryz.prog 169 #[.slice ad n n,.int .i64 8,.int .u64 (x:Int)] w (PutL (l++197::be 2 x) w):=by
  have HL:=Lib.hid hl;have HN:=Lib.hid hn;have HR:=Lib.hid hr
  have HX:=Lib.hid (show x<18446744073709551616 by omega)
  have K:=Lib.hid (fun W=>show Calls Tryz.prog 200 #[.int .u64 (x:Int)] W fun e w'=>e=.returned (.int .u8 1)∧w'=W by have:=stepOf_any x W (by omega);rw [hs] at this;exact this)
  clear hs
  clear hl hn hr
  go_enter Tryz.func169,Tryz.ntmps169
  go_wp2_with fail
  refine (K.out _).mono ?_
  rintro r w1 ⟨rfl,rfl⟩
  go_wp2_with fail
  refine (put_core ad l n (197) (2) x _ HL.out HN.out HR.out (by decide) (by decide) HX.out).mono ?_
  rintro r w2 ⟨v,rfl,ho,hb⟩
  have O:=Lib.hid ho;have B:=Lib.hid hb
  clear ho hb
  go_wp2_with fail
  go_ret
  exact ⟨_,rfl,O.out,B.out⟩
theorem putMany_8_2 (ad:Option Addr) (l:List Nat) (n x:Nat) (w:World) (hl:l.length=n) (hn:n≤1000000) (hr:RdV w ad (bc l)) (hx:x<4294967296) (hs:stepN x=2) :
    Calls Tryz.prog 169 #[.slice ad n n,.int .i64 8,.int .u64 (x:Int)] w (PutL (l++198::be 4 x) w):=by
  have HL:=Lib.hid hl;have HN:=Lib.hid hn;have HR:=Lib.hid hr
  have HX:=Lib.hid (show x<18446744073709551616 by omega)
  have K:=Lib.hid (fun W=>show Calls Tryz.prog 200 #[.int .u64 (x:Int)] W fun e w'=>e=.returned (.int .u8 2)∧w'=W by have:=stepOf_any x W (by omega);rw [hs] at this;exact this)
  clear hs
  clear hl hn hr
  go_enter Tryz.func169,Tryz.ntmps169
  go_wp2_with fail
  refine (K.out _).mono ?_
  rintro r w1 ⟨rfl,rfl⟩
  go_wp2_with fail
  refine (put_core ad l n (198) (4) x _ HL.out HN.out HR.out (by decide) (by decide) HX.out).mono ?_
  rintro r w2 ⟨v,rfl,ho,hb⟩
  have O:=Lib.hid ho;have B:=Lib.hid hb
  clear ho hb
  go_wp2_with fail
  go_ret
  exact ⟨_,rfl,O.out,B.out⟩
theorem putMany_9_s (ad:Option Addr) (l:List Nat) (n x:Nat) (w:World) (hl:l.length=n) (hn:n≤1000000) (hr:RdV w ad (bc l)) (hx:x<4294967296) (h:x<16) :
    Calls Tryz.prog 169 #[.slice ad n n,.int .i64 9,.int .u64 (x:Int)] w (PutL (l++[144+x]) w):=by
  have HL:=Lib.hid hl;have HN:=Lib.hid hn;have HR:=Lib.hid hr
  have HX:=Lib.hid (show x<18446744073709551616 by omega)
  have e2:(x:Int)≤15:=by omega
  have e3:x≤15:=by omega
  have e1:decide ((x:Int)≤15)=true:=decide_eq_true (by omega)
  obtain ⟨s,hs⟩:∃ s,stepN x=s:=⟨_,rfl⟩
  have hs3:s≤3:=by rw [← hs];exact stepN_le x
  have hs0:s=0:=by rw [← hs];exact stepN_0 (by omega)
  subst hs0
  have K:=Lib.hid (fun W=>show Calls Tryz.prog 200 #[.int .u64 (x:Int)] W fun e w'=>e=.returned (.int .u8 0)∧w'=W by have:=stepOf_any x W (by omega);rw [hs] at this;exact this)
  clear hs hs3 h
  clear hl hn hr
  go_enter Tryz.func169,Tryz.ntmps169
  go_wp2_with fail
  refine (K.out _).mono ?_
  rintro r w1 ⟨rfl,rfl⟩
  go_wp2_with (at_builtin;refine wpl_one w1 _ rfl _ _ rfl ad n l rfl HL.out HR.out rfl (144+x) (byte_val (by omega)) (by have:=HN.out;omega) ?_)
  intro v1 u1 ho hb
  have O:=Lib.hid ho;have B:=Lib.hid hb
  clear ho hb
  go_wp2
  go_ret
  refine ⟨_,rfl,?_,B.out⟩
  rw [List.length_append];exact O.out
theorem putMany_9_0 (ad:Option Addr) (l:List Nat) (n x:Nat) (w:World) (hl:l.length=n) (hn:n≤1000000) (hr:RdV w ad (bc l)) (hx:x<4294967296) (h:¬ x<16) (hs:stepN x=0) :
    Calls Tryz.prog 169 #[.slice ad n n,.int .i64 9,.int .u64 (x:Int)] w (PutL (l++220::be 2 x) w):=by
  have HL:=Lib.hid hl;have HN:=Lib.hid hn;have HR:=Lib.hid hr
  have HX:=Lib.hid (show x<18446744073709551616 by omega)
  have e2:¬ (x:Int)≤15:=by omega
  have e3:¬ x≤15:=by omega
  have e4:(15:Int)<(x:Int):=by omega
  have e1:decide ((x:Int)≤15)=false:=decide_eq_false (by omega)
  have K:=Lib.hid (fun W=>show Calls Tryz.prog 200 #[.int .u64 (x:Int)] W fun e w'=>e=.returned (.int .u8 0)∧w'=W by have:=stepOf_any x W (by omega);rw [hs] at this;exact this)
  have mx0:(max 0 1:Int)=1:=rfl
  have mx2:(max 2 1:Int)=2:=rfl
  clear hs h
  clear hl hn hr
  go_enter Tryz.func169,Tryz.ntmps169
  go_wp2_with fail
  refine (K.out _).mono ?_
  rintro r w1 ⟨rfl,rfl⟩
  go_wp2_with fail
  refine (put_core ad l n (220) (2) x _ HL.out HN.out HR.out (by decide) (by decide) HX.out).mono ?_
  rintro r w2 ⟨v,rfl,ho,hb⟩
  have O:=Lib.hid ho;have B:=Lib.hid hb
  clear ho hb
  go_wp2_with fail
  go_ret
  exact ⟨_,rfl,O.out,B.out⟩
theorem putMany_9_1 (ad:Option Addr) (l:List Nat) (n x:Nat) (w:World) (hl:l.length=n) (hn:n≤1000000) (hr:RdV w ad (bc l)) (hx:x<4294967296) (h:¬ x<16) (hs:stepN x=1) :
    Calls Tryz.prog 169 #[.slice ad n n,.int .i64 9,.int .u64 (x:Int)] w (PutL (l++220::be 2 x) w):=by
  have HL:=Lib.hid hl;have HN:=Lib.hid hn;have HR:=Lib.hid hr
  have HX:=Lib.hid (show x<18446744073709551616 by omega)
  have e2:¬ (x:Int)≤15:=by omega
  have e3:¬ x≤15:=by omega
  have e4:(15:Int)<(x:Int):=by omega
  have e1:decide ((x:Int)≤15)=false:=decide_eq_false (by omega)
  have K:=Lib.hid (fun W=>show Calls Tryz.prog 200 #[.int .u64 (x:Int)] W fun e w'=>e=.returned (.int .u8 1)∧w'=W by have:=stepOf_any x W (by omega);rw [hs] at this;exact this)
  have mx0:(max 0 1:Int)=1:=rfl
  have mx2:(max 2 1:Int)=2:=rfl
  clear hs h
  clear hl hn hr
  go_enter Tryz.func169,Tryz.ntmps169
  go_wp2_with fail
  refine (K.out _).mono ?_
  rintro r w1 ⟨rfl,rfl⟩
  go_wp2_with fail
  refine (put_core ad l n (220) (2) x _ HL.out HN.out HR.out (by decide) (by decide) HX.out).mono ?_
  rintro r w2 ⟨v,rfl,ho,hb⟩
  have O:=Lib.hid ho;have B:=Lib.hid hb
  clear ho hb
  go_wp2_with fail
  go_ret
  exact ⟨_,rfl,O.out,B.out⟩
theorem putMany_9_2 (ad:Option Addr) (l:List Nat) (n x:Nat) (w:World) (hl:l.length=n) (hn:n≤1000000) (hr:RdV w ad (bc l)) (hx:x<4294967296) (h:¬ x<16) (hs:stepN x=2) :
    Calls Tryz.prog 169 #[.slice ad n n,.int .i64 9,.int .u64 (x:Int)] w (PutL (l++221::be 4 x) w):=by
  have HL:=Lib.hid hl;have HN:=Lib.hid hn;have HR:=Lib.hid hr
  have HX:=Lib.hid (show x<18446744073709551616 by omega)
  have e2:¬ (x:Int)≤15:=by omega
  have e3:¬ x≤15:=by omega
  have e4:(15:Int)<(x:Int):=by omega
  have e1:decide ((x:Int)≤15)=false:=decide_eq_false (by omega)
  have K:=Lib.hid (fun W=>show Calls Tryz.prog 200 #[.int .u64 (x:Int)] W fun e w'=>e=.returned (.int .u8 2)∧w'=W by have:=stepOf_any x W (by omega);rw [hs] at this;exact this)
  have mx0:(max 0 1:Int)=1:=rfl
  have mx2:(max 2 1:Int)=2:=rfl
  clear hs h
  clear hl hn hr
  go_enter Tryz.func169,Tryz.ntmps169
  go_wp2_with fail
  refine (K.out _).mono ?_
  rintro r w1 ⟨rfl,rfl⟩
  go_wp2_with fail
  refine (put_core ad l n (221) (4) x _ HL.out HN.out HR.out (by decide) (by decide) HX.out).mono ?_
  rintro r w2 ⟨v,rfl,ho,hb⟩
  have O:=Lib.hid ho;have B:=Lib.hid hb
  clear ho hb
  go_wp2_with fail
  go_ret
  exact ⟨_,rfl,O.out,B.out⟩
theorem putMany_10_s (ad:Option Addr) (l:List Nat) (n x:Nat) (w:World) (hl:l.length=n) (hn:n≤1000000) (hr:RdV w ad (bc l)) (hx:x<4294967296) (h:x<16) :
    Calls Tryz.prog 169 #[.slice ad n n,.int .i64 10,.int .u64 (x:Int)] w (PutL (l++[128+x]) w):=by
  have HL:=Lib.hid hl;have HN:=Lib.hid hn;have HR:=Lib.hid hr
  have HX:=Lib.hid (show x<18446744073709551616 by omega)
  have e2:(x:Int)≤15:=by omega
  have e3:x≤15:=by omega
  have e1:decide ((x:Int)≤15)=true:=decide_eq_true (by omega)
  obtain ⟨s,hs⟩:∃ s,stepN x=s:=⟨_,rfl⟩
  have hs3:s≤3:=by rw [← hs];exact stepN_le x
  have hs0:s=0:=by rw [← hs];exact stepN_0 (by omega)
  subst hs0
  have K:=Lib.hid (fun W=>show Calls Tryz.prog 200 #[.int .u64 (x:Int)] W fun e w'=>e=.returned (.int .u8 0)∧w'=W by have:=stepOf_any x W (by omega);rw [hs] at this;exact this)
  clear hs hs3 h
  clear hl hn hr
  go_enter Tryz.func169,Tryz.ntmps169
  go_wp2_with fail
  refine (K.out _).mono ?_
  rintro r w1 ⟨rfl,rfl⟩
  go_wp2_with (at_builtin;refine wpl_one w1 _ rfl _ _ rfl ad n l rfl HL.out HR.out rfl (128+x) (byte_val (by omega)) (by have:=HN.out;omega) ?_)
  intro v1 u1 ho hb
  have O:=Lib.hid ho;have B:=Lib.hid hb
  clear ho hb
  go_wp2
  go_ret
  refine ⟨_,rfl,?_,B.out⟩
  rw [List.length_append];exact O.out
theorem putMany_10_0 (ad:Option Addr) (l:List Nat) (n x:Nat) (w:World) (hl:l.length=n) (hn:n≤1000000) (hr:RdV w ad (bc l)) (hx:x<4294967296) (h:¬ x<16) (hs:stepN x=0) :
    Calls Tryz.prog 169 #[.slice ad n n,.int .i64 10,.int .u64 (x:Int)] w (PutL (l++222::be 2 x) w):=by
  have HL:=Lib.hid hl;have HN:=Lib.hid hn;have HR:=Lib.hid hr
  have HX:=Lib.hid (show x<18446744073709551616 by omega)
  have e2:¬ (x:Int)≤15:=by omega
  have e3:¬ x≤15:=by omega
  have e4:(15:Int)<(x:Int):=by omega
  have e1:decide ((x:Int)≤15)=false:=decide_eq_false (by omega)
  have K:=Lib.hid (fun W=>show Calls Tryz.prog 200 #[.int .u64 (x:Int)] W fun e w'=>e=.returned (.int .u8 0)∧w'=W by have:=stepOf_any x W (by omega);rw [hs] at this;exact this)
  have mx0:(max 0 1:Int)=1:=rfl
  have mx2:(max 2 1:Int)=2:=rfl
  clear hs h
  clear hl hn hr
  go_enter Tryz.func169,Tryz.ntmps169
  go_wp2_with fail
  refine (K.out _).mono ?_
  rintro r w1 ⟨rfl,rfl⟩
  go_wp2_with fail
  refine (put_core ad l n (222) (2) x _ HL.out HN.out HR.out (by decide) (by decide) HX.out).mono ?_
  rintro r w2 ⟨v,rfl,ho,hb⟩
  have O:=Lib.hid ho;have B:=Lib.hid hb
  clear ho hb
  go_wp2_with fail
  go_ret
  exact ⟨_,rfl,O.out,B.out⟩
theorem putMany_10_1 (ad:Option Addr) (l:List Nat) (n x:Nat) (w:World) (hl:l.length=n) (hn:n≤1000000) (hr:RdV w ad (bc l)) (hx:x<4294967296) (h:¬ x<16) (hs:stepN x=1) :
    Calls Tryz.prog 169 #[.slice ad n n,.int .i64 10,.int .u64 (x:Int)] w (PutL (l++222::be 2 x) w):=by
  have HL:=Lib.hid hl;have HN:=Lib.hid hn;have HR:=Lib.hid hr
  have HX:=Lib.hid (show x<18446744073709551616 by omega)
  have e2:¬ (x:Int)≤15:=by omega
  have e3:¬ x≤15:=by omega
  have e4:(15:Int)<(x:Int):=by omega
  have e1:decide ((x:Int)≤15)=false:=decide_eq_false (by omega)
  have K:=Lib.hid (fun W=>show Calls Tryz.prog 200 #[.int .u64 (x:Int)] W fun e w'=>e=.returned (.int .u8 1)∧w'=W by have:=stepOf_any x W (by omega);rw [hs] at this;exact this)
  have mx0:(max 0 1:Int)=1:=rfl
  have mx2:(max 2 1:Int)=2:=rfl
  clear hs h
  clear hl hn hr
  go_enter Tryz.func169,Tryz.ntmps169
  go_wp2_with fail
  refine (K.out _).mono ?_
  rintro r w1 ⟨rfl,rfl⟩
  go_wp2_with fail
  refine (put_core ad l n (222) (2) x _ HL.out HN.out HR.out (by decide) (by decide) HX.out).mono ?_
  rintro r w2 ⟨v,rfl,ho,hb⟩
  have O:=Lib.hid ho;have B:=Lib.hid hb
  clear ho hb
  go_wp2_with fail
  go_ret
  exact ⟨_,rfl,O.out,B.out⟩
theorem putMany_10_2 (ad:Option Addr) (l:List Nat) (n x:Nat) (w:World) (hl:l.length=n) (hn:n≤1000000) (hr:RdV w ad (bc l)) (hx:x<4294967296) (h:¬ x<16) (hs:stepN x=2) :
    Calls Tryz.prog 169 #[.slice ad n n,.int .i64 10,.int .u64 (x:Int)] w (PutL (l++223::be 4 x) w):=by
  have HL:=Lib.hid hl;have HN:=Lib.hid hn;have HR:=Lib.hid hr
  have HX:=Lib.hid (show x<18446744073709551616 by omega)
  have e2:¬ (x:Int)≤15:=by omega
  have e3:¬ x≤15:=by omega
  have e4:(15:Int)<(x:Int):=by omega
  have e1:decide ((x:Int)≤15)=false:=decide_eq_false (by omega)
  have K:=Lib.hid (fun W=>show Calls Tryz.prog 200 #[.int .u64 (x:Int)] W fun e w'=>e=.returned (.int .u8 2)∧w'=W by have:=stepOf_any x W (by omega);rw [hs] at this;exact this)
  have mx0:(max 0 1:Int)=1:=rfl
  have mx2:(max 2 1:Int)=2:=rfl
  clear hs h
  clear hl hn hr
  go_enter Tryz.func169,Tryz.ntmps169
  go_wp2_with fail
  refine (K.out _).mono ?_
  rintro r w1 ⟨rfl,rfl⟩
  go_wp2_with fail
  refine (put_core ad l n (223) (4) x _ HL.out HN.out HR.out (by decide) (by decide) HX.out).mono ?_
  rintro r w2 ⟨v,rfl,ho,hb⟩
  have O:=Lib.hid ho;have B:=Lib.hid hb
  clear ho hb
  go_wp2_with fail
  go_ret
  exact ⟨_,rfl,O.out,B.out⟩
theorem putMany_7 (ad:Option Addr) (l:List Nat) (n x:Nat) (w:World) (hl:l.length=n) (hn:n≤1000000) (hr:RdV w ad (bc l)) (hx:x<4294967296) :
    Calls Tryz.prog 169 #[.slice ad n n,.int .i64 7,.int .u64 (x:Int)] w (PutL (l++(mlay 7 x).1::be (mlay 7 x).2 x) w):=by
  have h2:=step32 x hx
  rw [show mlay 7 x=if x<32 then (160+x,0) else (217+stepN x,2 ^ stepN x) by simp [mlay,Nat.mod_eq_of_lt hx]]
  by_cases h:x<32
  · rw [if_pos h];exact putMany_7_s ad l n x w hl hn hr hx h
  rw [if_neg h]
  rcases stepN_cases x with hs | hs | hs | hs
  · rw [hs];exact putMany_7_0 ad l n x w hl hn hr hx h hs
  · rw [hs];exact putMany_7_1 ad l n x w hl hn hr hx h hs
  · rw [hs];exact putMany_7_2 ad l n x w hl hn hr hx h hs
  · omega
theorem putMany_8 (ad:Option Addr) (l:List Nat) (n x:Nat) (w:World) (hl:l.length=n) (hn:n≤1000000) (hr:RdV w ad (bc l)) (hx:x<4294967296) :
    Calls Tryz.prog 169 #[.slice ad n n,.int .i64 8,.int .u64 (x:Int)] w (PutL (l++(mlay 8 x).1::be (mlay 8 x).2 x) w):=by
  have h2:=step32 x hx
  rw [show mlay 8 x=(196+stepN x,2 ^ stepN x) by simp [mlay,Nat.mod_eq_of_lt hx]]
  rcases stepN_cases x with hs | hs | hs | hs
  · rw [hs];exact putMany_8_0 ad l n x w hl hn hr hx hs
  · rw [hs];exact putMany_8_1 ad l n x w hl hn hr hx hs
  · rw [hs];exact putMany_8_2 ad l n x w hl hn hr hx hs
  · omega
theorem putMany_9 (ad:Option Addr) (l:List Nat) (n x:Nat) (w:World) (hl:l.length=n) (hn:n≤1000000) (hr:RdV w ad (bc l)) (hx:x<4294967296) :
    Calls Tryz.prog 169 #[.slice ad n n,.int .i64 9,.int .u64 (x:Int)] w (PutL (l++(mlay 9 x).1::be (mlay 9 x).2 x) w):=by
  have h2:=step32 x hx
  rw [show mlay 9 x=if x<16 then (144+x,0) else (219+max (stepN x) 1,2 ^ (max (stepN x) 1)) by simp [mlay,Nat.mod_eq_of_lt hx]]
  by_cases h:x<16
  · rw [if_pos h];exact putMany_9_s ad l n x w hl hn hr hx h
  rw [if_neg h]
  rcases stepN_cases x with hs | hs | hs | hs
  · rw [hs];exact putMany_9_0 ad l n x w hl hn hr hx h hs
  · rw [hs];exact putMany_9_1 ad l n x w hl hn hr hx h hs
  · rw [hs];exact putMany_9_2 ad l n x w hl hn hr hx h hs
  · omega
theorem putMany_10 (ad:Option Addr) (l:List Nat) (n x:Nat) (w:World) (hl:l.length=n) (hn:n≤1000000) (hr:RdV w ad (bc l)) (hx:x<4294967296) :
    Calls Tryz.prog 169 #[.slice ad n n,.int .i64 10,.int .u64 (x:Int)] w (PutL (l++(mlay 10 x).1::be (mlay 10 x).2 x) w):=by
  have h2:=step32 x hx
  rw [show mlay 10 x=if x<16 then (128+x,0) else (221+max (stepN x) 1,2 ^ (max (stepN x) 1)) by simp [mlay,Nat.mod_eq_of_lt hx]]
  by_cases h:x<16
  · rw [if_pos h];exact putMany_10_s ad l n x w hl hn hr hx h
  rw [if_neg h]
  rcases stepN_cases x with hs | hs | hs | hs
  · rw [hs];exact putMany_10_0 ad l n x w hl hn hr hx h hs
  · rw [hs];exact putMany_10_1 ad l n x w hl hn hr hx h hs
  · rw [hs];exact putMany_10_2 ad l n x w hl hn hr hx h hs
  · omega
theorem mput_1 (ad:Option Addr) (l:List Nat) (n cap x:Nat) (w:World) (hl:l.length=n) (hn:n≤1000000) (hc:n≤cap) (hr:RdV w ad (bc l)) (hx:x<18446744073709551616) :
    Calls Tryz.prog 132 #[.slice ad n cap,.int .i64 1,.int .u64 (x:Int)] w (PutL (l++[192]) w):=by
  have K1:=Lib.hid (clip_any ad n cap w hc)
  have HL:=Lib.hid hl;have HN:=Lib.hid hn;have HR:=Lib.hid hr;have HX:=Lib.hid hx
  clear hl hn hr hx hc
  go_enter Tryz.func132,Tryz.ntmps132
  go_wp2_with fail
  refine K1.out.mono ?_
  rintro r w1 ⟨rfl,rfl⟩
  go_wp2_with (at_builtin;refine wpl_one w1 _ rfl _ _ rfl ad n l rfl HL.out HR.out rfl (192) (byte_val (by rfl)) (by have:=HN.out;omega) ?_)
  intro v1 u1 ho hb
  have O:=Lib.hid ho;have B:=Lib.hid hb
  clear ho hb
  go_wp2
  go_ret
  refine ⟨_,rfl,?_,B.out⟩
  rw [List.length_append];exact O.out
theorem mput_2 (ad:Option Addr) (l:List Nat) (n cap x:Nat) (w:World) (hl:l.length=n) (hn:n≤1000000) (hc:n≤cap) (hr:RdV w ad (bc l)) (hx:x<18446744073709551616) :
    Calls Tryz.prog 132 #[.slice ad n cap,.int .i64 2,.int .u64 (x:Int)] w (PutL (l++[194]) w):=by
  have K1:=Lib.hid (clip_any ad n cap w hc)
  have HL:=Lib.hid hl;have HN:=Lib.hid hn;have HR:=Lib.hid hr;have HX:=Lib.hid hx
  clear hl hn hr hx hc
  go_enter Tryz.func132,Tryz.ntmps132
  go_wp2_with fail
  refine K1.out.mono ?_
  rintro r w1 ⟨rfl,rfl⟩
  go_wp2_with (at_builtin;refine wpl_one w1 _ rfl _ _ rfl ad n l rfl HL.out HR.out rfl (194) (byte_val (by rfl)) (by have:=HN.out;omega) ?_)
  intro v1 u1 ho hb
  have O:=Lib.hid ho;have B:=Lib.hid hb
  clear ho hb
  go_wp2
  go_ret
  refine ⟨_,rfl,?_,B.out⟩
  rw [List.length_append];exact O.out
theorem mput_3 (ad:Option Addr) (l:List Nat) (n cap x:Nat) (w:World) (hl:l.length=n) (hn:n≤1000000) (hc:n≤cap) (hr:RdV w ad (bc l)) (hx:x<18446744073709551616) :
    Calls Tryz.prog 132 #[.slice ad n cap,.int .i64 3,.int .u64 (x:Int)] w (PutL (l++[195]) w):=by
  have K1:=Lib.hid (clip_any ad n cap w hc)
  have HL:=Lib.hid hl;have HN:=Lib.hid hn;have HR:=Lib.hid hr;have HX:=Lib.hid hx
  clear hl hn hr hx hc
  go_enter Tryz.func132,Tryz.ntmps132
  go_wp2_with fail
  refine K1.out.mono ?_
  rintro r w1 ⟨rfl,rfl⟩
  go_wp2_with (at_builtin;refine wpl_one w1 _ rfl _ _ rfl ad n l rfl HL.out HR.out rfl (195) (byte_val (by rfl)) (by have:=HN.out;omega) ?_)
  intro v1 u1 ho hb
  have O:=Lib.hid ho;have B:=Lib.hid hb
  clear ho hb
  go_wp2
  go_ret
  refine ⟨_,rfl,?_,B.out⟩
  rw [List.length_append];exact O.out
theorem mput_12 (ad:Option Addr) (l:List Nat) (n cap x:Nat) (w:World) (hl:l.length=n) (hn:n≤1000000) (hc:n≤cap) (hr:RdV w ad (bc l)) (hx:x<18446744073709551616) :
    Calls Tryz.prog 132 #[.slice ad n cap,.int .i64 12,.int .u64 (x:Int)] w (PutL (l++202::be 4 x) w):=by
  have K1:=Lib.hid (clip_any ad n cap w hc)
  have HL:=Lib.hid hl;have HN:=Lib.hid hn;have HR:=Lib.hid hr;have HX:=Lib.hid hx
  clear hl hn hr hx hc
  go_enter Tryz.func132,Tryz.ntmps132
  go_wp2_with fail
  refine K1.out.mono ?_
  rintro r w1 ⟨rfl,rfl⟩
  go_wp2_with fail
  refine (put_core ad l n 202 4 x _ HL.out HN.out HR.out (by decide) (by decide) HX.out).mono ?_
  rintro r w2 ⟨v,rfl,ho,hb⟩
  have O:=Lib.hid ho;have B:=Lib.hid hb
  clear ho hb
  go_wp2_with fail
  go_ret
  exact ⟨_,rfl,O.out,B.out⟩
theorem mput_6 (ad:Option Addr) (l:List Nat) (n cap x:Nat) (w:World) (hl:l.length=n) (hn:n≤1000000) (hc:n≤cap) (hr:RdV w ad (bc l)) (hx:x<18446744073709551616) :
    Calls Tryz.prog 132 #[.slice ad n cap,.int .i64 6,.int .u64 (x:Int)] w (PutL (l++203::be 8 x) w):=by
  have K1:=Lib.hid (clip_any ad n cap w hc)
  have HL:=Lib.hid hl;have HN:=Lib.hid hn;have HR:=Lib.hid hr;have HX:=Lib.hid hx
  clear hl hn hr hx hc
  go_enter Tryz.func132,Tryz.ntmps132
  go_wp2_with fail
  refine K1.out.mono ?_
  rintro r w1 ⟨rfl,rfl⟩
  go_wp2_with fail
  refine (put_core ad l n 203 8 x _ HL.out HN.out HR.out (by decide) (by decide) HX.out).mono ?_
  rintro r w2 ⟨v,rfl,ho,hb⟩
  have O:=Lib.hid ho;have B:=Lib.hid hb
  clear ho hb
  go_wp2_with fail
  go_ret
  exact ⟨_,rfl,O.out,B.out⟩
theorem mput_7 (ad:Option Addr) (l:List Nat) (n cap x:Nat) (w:World) (hl:l.length=n) (hn:n≤1000000) (hc:n≤cap) (hr:RdV w ad (bc l)) (hx:x<18446744073709551616) :
    Calls Tryz.prog 132 #[.slice ad n cap,.int .i64 7,.int .u64 (x:Int)] w (PutL (l++(mlay 7 (x % 4294967296)).1::be (mlay 7 (x % 4294967296)).2 (x % 4294967296)) w):=by
  have E:=Lib.hid (and_32 x hx)
  have K1:=Lib.hid (clip_any ad n cap w hc)
  have HL:=Lib.hid hl;have HN:=Lib.hid hn;have HR:=Lib.hid hr;have HX:=Lib.hid hx
  clear hl hn hr hx hc
  go_enter Tryz.func132,Tryz.ntmps132
  go_wp2_with fail
  refine K1.out.mono ?_
  rintro r w1 ⟨rfl,rfl⟩
  go_wp2_with fail
  rw [E.out]
  refine (putMany_7 ad l n (x % 4294967296) _ HL.out HN.out HR.out (Nat.mod_lt _ (by decide))).mono ?_
  rintro r w2 ⟨v,rfl,ho,hb⟩
  have O:=Lib.hid ho;have B:=Lib.hid hb
  clear ho hb
  go_wp2_with fail
  go_ret
  exact ⟨_,rfl,O.out,B.out⟩
theorem mput_8 (ad:Option Addr) (l:List Nat) (n cap x:Nat) (w:World) (hl:l.length=n) (hn:n≤1000000) (hc:n≤cap) (hr:RdV w ad (bc l)) (hx:x<18446744073709551616) :
    Calls Tryz.prog 132 #[.slice ad n cap,.int .i64 8,.int .u64 (x:Int)] w (PutL (l++(mlay 8 (x % 4294967296)).1::be (mlay 8 (x % 4294967296)).2 (x % 4294967296)) w):=by
  have E:=Lib.hid (and_32 x hx)
  have K1:=Lib.hid (clip_any ad n cap w hc)
  have HL:=Lib.hid hl;have HN:=Lib.hid hn;have HR:=Lib.hid hr;have HX:=Lib.hid hx
  clear hl hn hr hx hc
  go_enter Tryz.func132,Tryz.ntmps132
  go_wp2_with fail
  refine K1.out.mono ?_
  rintro r w1 ⟨rfl,rfl⟩
  go_wp2_with fail
  rw [E.out]
  refine (putMany_8 ad l n (x % 4294967296) _ HL.out HN.out HR.out (Nat.mod_lt _ (by decide))).mono ?_
  rintro r w2 ⟨v,rfl,ho,hb⟩
  have O:=Lib.hid ho;have B:=Lib.hid hb
  clear ho hb
  go_wp2_with fail
  go_ret
  exact ⟨_,rfl,O.out,B.out⟩
theorem mput_9 (ad:Option Addr) (l:List Nat) (n cap x:Nat) (w:World) (hl:l.length=n) (hn:n≤1000000) (hc:n≤cap) (hr:RdV w ad (bc l)) (hx:x<18446744073709551616) :
    Calls Tryz.prog 132 #[.slice ad n cap,.int .i64 9,.int .u64 (x:Int)] w (PutL (l++(mlay 9 (x % 4294967296)).1::be (mlay 9 (x % 4294967296)).2 (x % 4294967296)) w):=by
  have E:=Lib.hid (and_32 x hx)
  have K1:=Lib.hid (clip_any ad n cap w hc)
  have HL:=Lib.hid hl;have HN:=Lib.hid hn;have HR:=Lib.hid hr;have HX:=Lib.hid hx
  clear hl hn hr hx hc
  go_enter Tryz.func132,Tryz.ntmps132
  go_wp2_with fail
  refine K1.out.mono ?_
  rintro r w1 ⟨rfl,rfl⟩
  go_wp2_with fail
  rw [E.out]
  refine (putMany_9 ad l n (x % 4294967296) _ HL.out HN.out HR.out (Nat.mod_lt _ (by decide))).mono ?_
  rintro r w2 ⟨v,rfl,ho,hb⟩
  have O:=Lib.hid ho;have B:=Lib.hid hb
  clear ho hb
  go_wp2_with fail
  go_ret
  exact ⟨_,rfl,O.out,B.out⟩
theorem mput_10 (ad:Option Addr) (l:List Nat) (n cap x:Nat) (w:World) (hl:l.length=n) (hn:n≤1000000) (hc:n≤cap) (hr:RdV w ad (bc l)) (hx:x<18446744073709551616) :
    Calls Tryz.prog 132 #[.slice ad n cap,.int .i64 10,.int .u64 (x:Int)] w (PutL (l++(mlay 10 (x % 4294967296)).1::be (mlay 10 (x % 4294967296)).2 (x % 4294967296)) w):=by
  have E:=Lib.hid (and_32 x hx)
  have K1:=Lib.hid (clip_any ad n cap w hc)
  have HL:=Lib.hid hl;have HN:=Lib.hid hn;have HR:=Lib.hid hr;have HX:=Lib.hid hx
  clear hl hn hr hx hc
  go_enter Tryz.func132,Tryz.ntmps132
  go_wp2_with fail
  refine K1.out.mono ?_
  rintro r w1 ⟨rfl,rfl⟩
  go_wp2_with fail
  rw [E.out]
  refine (putMany_10 ad l n (x % 4294967296) _ HL.out HN.out HR.out (Nat.mod_lt _ (by decide))).mono ?_
  rintro r w2 ⟨v,rfl,ho,hb⟩
  have O:=Lib.hid ho;have B:=Lib.hid hb
  clear ho hb
  go_wp2_with fail
  go_ret
  exact ⟨_,rfl,O.out,B.out⟩
theorem mput_5b (ad:Option Addr) (l:List Nat) (n cap x:Nat) (w:World) (hl:l.length=n) (hn:n≤1000000) (hc:n≤cap) (hr:RdV w ad (bc l)) (hx:x<18446744073709551616) (h5:9223372036854775808≤x) :
    Calls Tryz.prog 132 #[.slice ad n cap,.int .i64 5,.int .u64 (x:Int)] w (PutL (l++(mlay 5 x).1::be (mlay 5 x).2 x) w):=by
  have e0:=i64_of x (by omega) hx
  have e1:decide ((x:Int) - 18446744073709551616<0)=true:=decide_eq_true (by omega)
  have H5:=Lib.hid h5
  clear h5
  have K1:=Lib.hid (clip_any ad n cap w hc)
  have HL:=Lib.hid hl;have HN:=Lib.hid hn;have HR:=Lib.hid hr;have HX:=Lib.hid hx
  clear hl hn hr hx hc
  go_enter Tryz.func132,Tryz.ntmps132
  go_wp2_with fail
  refine K1.out.mono ?_
  rintro r w1 ⟨rfl,rfl⟩
  go_wp2_with fail
  refine (putBelow_any ad l n x _ HL.out HN.out HR.out HX.out H5.out).mono ?_
  rintro r w2 ⟨v,rfl,ho,hb⟩
  have O:=Lib.hid ho;have B:=Lib.hid hb
  clear ho hb
  go_wp2_with fail
  go_ret
  exact ⟨_,rfl,O.out,B.out⟩
theorem mput_5a (ad:Option Addr) (l:List Nat) (n cap x:Nat) (w:World) (hl:l.length=n) (hn:n≤1000000) (hc:n≤cap) (hr:RdV w ad (bc l)) (hx:x<18446744073709551616) (h5:¬ 9223372036854775808≤x) :
    Calls Tryz.prog 132 #[.slice ad n cap,.int .i64 5,.int .u64 (x:Int)] w (PutL (l++(mlay 4 x).1::be (mlay 4 x).2 x) w):=by
  have e0:IntKind.i64.wrap (x:Int)=(x:Int):=by rw [IntKind.wrap_i64];omega
  have e1:decide ((x:Int)<0)=false:=decide_eq_false (by omega)
  clear h5
  have K1:=Lib.hid (clip_any ad n cap w hc)
  have HL:=Lib.hid hl;have HN:=Lib.hid hn;have HR:=Lib.hid hr;have HX:=Lib.hid hx
  clear hl hn hr hx hc
  go_enter Tryz.func132,Tryz.ntmps132
  go_wp2_with fail
  refine K1.out.mono ?_
  rintro r w1 ⟨rfl,rfl⟩
  go_wp2_with fail
  refine (putUint_any ad l n x _ HL.out HN.out HR.out HX.out).mono ?_
  rintro r w2 ⟨v,rfl,ho,hb⟩
  have O:=Lib.hid ho;have B:=Lib.hid hb
  clear ho hb
  go_wp2_with fail
  go_ret
  exact ⟨_,rfl,O.out,B.out⟩
theorem mput_4 (ad:Option Addr) (l:List Nat) (n cap x:Nat) (w:World) (hl:l.length=n) (hn:n≤1000000) (hc:n≤cap) (hr:RdV w ad (bc l)) (hx:x<18446744073709551616) :
    Calls Tryz.prog 132 #[.slice ad n cap,.int .i64 4,.int .u64 (x:Int)] w (PutL (l++(mlay 4 x).1::be (mlay 4 x).2 x) w):=by
  have K1:=Lib.hid (clip_any ad n cap w hc)
  have HL:=Lib.hid hl;have HN:=Lib.hid hn;have HR:=Lib.hid hr;have HX:=Lib.hid hx
  clear hl hn hr hx hc
  go_enter Tryz.func132,Tryz.ntmps132
  go_wp2_with fail
  refine K1.out.mono ?_
  rintro r w1 ⟨rfl,rfl⟩
  go_wp2_with fail
  refine (putUint_any ad l n x _ HL.out HN.out HR.out HX.out).mono ?_
  rintro r w2 ⟨v,rfl,ho,hb⟩
  have O:=Lib.hid ho;have B:=Lib.hid hb
  clear ho hb
  go_wp2_with fail
  go_ret
  exact ⟨_,rfl,O.out,B.out⟩
def ViewM (l:List Nat) (w:World) (e:Ending) (w':World):Prop:=∃ ad cap,e=.returned (.slice ad l.length cap)∧l.length≤cap∧RdV w' ad (bc l)∧Below w.heap.size w w'
theorem PutL.viewM {l:List Nat} {w w':World} {e:Ending} (h:PutL l w e w'):ViewM l w e w':=by
  obtain ⟨ad,cap,h1,h2,h3,h4,_⟩:=h.view
  exact ⟨ad,cap,h1,h2,h3,h4⟩
theorem mput_no (ad:Option Addr) (l:List Nat) (n cap x:Nat) (w:World) (hl:l.length=n) (hn:n≤1000000) (hc:n≤cap) (hr:RdV w ad (bc l)) (hx:x<18446744073709551616) (k:Int) (hk:k=11∨k<1∨12<k) :
    Calls Tryz.prog 132 #[.slice ad n cap,.int .i64 k,.int .u64 (x:Int)] w (ViewM l w):=by
  have z1:decide (k=1)=false:=decide_eq_false (by omega)
  have y1:(k == 1)=false:=by rw [beq_eq_false_iff_ne];omega
  have z2:decide (k=2)=false:=decide_eq_false (by omega)
  have y2:(k == 2)=false:=by rw [beq_eq_false_iff_ne];omega
  have z3:decide (k=3)=false:=decide_eq_false (by omega)
  have y3:(k == 3)=false:=by rw [beq_eq_false_iff_ne];omega
  have z12:decide (k=12)=false:=decide_eq_false (by omega)
  have y12:(k == 12)=false:=by rw [beq_eq_false_iff_ne];omega
  have z6:decide (k=6)=false:=decide_eq_false (by omega)
  have y6:(k == 6)=false:=by rw [beq_eq_false_iff_ne];omega
  have z7:decide (k=7)=false:=decide_eq_false (by omega)
  have y7:(k == 7)=false:=by rw [beq_eq_false_iff_ne];omega
  have z8:decide (k=8)=false:=decide_eq_false (by omega)
  have y8:(k == 8)=false:=by rw [beq_eq_false_iff_ne];omega
  have z9:decide (k=9)=false:=decide_eq_false (by omega)
  have y9:(k == 9)=false:=by rw [beq_eq_false_iff_ne];omega
  have z10:decide (k=10)=false:=decide_eq_false (by omega)
  have y10:(k == 10)=false:=by rw [beq_eq_false_iff_ne];omega
  have z5:decide (k=5)=false:=decide_eq_false (by omega)
  have y5:(k == 5)=false:=by rw [beq_eq_false_iff_ne];omega
  have z4:decide (k=4)=false:=decide_eq_false (by omega)
  have y4:(k == 4)=false:=by rw [beq_eq_false_iff_ne];omega
  clear hk
  have K1:=Lib.hid (clip_any ad n cap w hc)
  have HL:=Lib.hid hl;have HN:=Lib.hid hn;have HR:=Lib.hid hr;have HX:=Lib.hid hx
  clear hl hn hr hx hc
  go_enter Tryz.func132,Tryz.ntmps132
  go_wp2_with fail
  refine K1.out.mono ?_
  rintro r w1 ⟨rfl,rfl⟩
  go_wp2_with fail
  go_ret
  have:=HL.out
  subst this
  exact ⟨_,_,rfl,Nat.le_refl _,HR.out,Below.refl _ _⟩
theorem be_32 (x S:Nat) (h:S≤4):be S (x % 4294967296)=be S x:=be_mod S x 4 h
theorem mlay_32 (k x:Nat) (hk:k=7∨k=8∨k=9∨k=10):mlay k (x % 4294967296)=mlay k x∧(mlay k x).2≤4:=by
  have h2:=step32 (x % 4294967296) (Nat.mod_lt _ (by decide))
  have hm:x % 4294967296 % 4294967296=x % 4294967296:=Nat.mod_mod _ _
  have hp:2 ^ stepN (x % 4294967296)≤4:=Nat.le_trans (Nat.pow_le_pow_right (n:=2) (by decide) h2) (by decide)
  have hp2:2 ^ max (stepN (x % 4294967296)) 1≤4:=Nat.le_trans (Nat.pow_le_pow_right (n:=2) (by decide) (show max (stepN (x % 4294967296)) 1≤2 by omega)) (by decide)
  rcases hk with rfl | rfl | rfl | rfl
  · simp only [mlay,hm,Nat.reduceEqDiff,if_false,if_true]
    refine ⟨trivial,?_⟩
    split <;> simp <;> omega
  · simp only [mlay,hm,Nat.reduceEqDiff,if_false,if_true]
    exact ⟨trivial,hp⟩
  iterate 2
    · simp only [mlay,hm,Nat.reduceEqDiff,if_false,if_true]
      refine ⟨trivial,?_⟩
      split <;> simp <;> omega
theorem mput_any (ad:Option Addr) (l:List Nat) (n cap x:Nat) (w:World) (hl:l.length=n) (hn:n≤1000000) (hc:n≤cap) (hr:RdV w ad (bc l)) (hx:x<18446744073709551616) (k:Int) :
    Calls Tryz.prog 132 #[.slice ad n cap,.int .i64 k,.int .u64 (x:Int)] w (ViewM (l++mput k x) w):=by
  by_cases hk:k=11∨k<1∨12<k
  · have:=mput_no ad l n cap x w hl hn hc hr hx k hk
    unfold mput;rw [if_pos hk,List.append_nil];exact this
  have hm:mput k x=(mlay k.toNat x).1::be (mlay k.toNat x).2 x:=by unfold mput;rw [if_neg hk]
  rw [hm]
  have hc2:k=1∨k=2∨k=3∨k=12∨k=6∨k=7∨k=8∨k=9∨k=10∨k=5∨k=4:=by omega
  rcases hc2 with rfl | rfl | rfl | rfl | rfl | rfl | rfl | rfl | rfl | rfl | rfl
  · rw [show mlay (Int.toNat 1) x=(192,0) by simp [mlay]];exact (mput_1 ad l n cap x w hl hn hc hr hx).mono fun _ _ h=>h.viewM
  · rw [show mlay (Int.toNat 2) x=(194,0) by simp [mlay]];exact (mput_2 ad l n cap x w hl hn hc hr hx).mono fun _ _ h=>h.viewM
  · rw [show mlay (Int.toNat 3) x=(195,0) by simp [mlay]];exact (mput_3 ad l n cap x w hl hn hc hr hx).mono fun _ _ h=>h.viewM
  · rw [show mlay (Int.toNat 12) x=(202,4) by simp [mlay]];exact (mput_12 ad l n cap x w hl hn hc hr hx).mono fun _ _ h=>h.viewM
  · rw [show mlay (Int.toNat 6) x=(203,8) by simp [mlay]];exact (mput_6 ad l n cap x w hl hn hc hr hx).mono fun _ _ h=>h.viewM
  · have h:=mlay_32 7 x (by omega)
    have:=mput_7 ad l n cap x w hl hn hc hr hx
    rw [h.1,be_32 _ _ h.2] at this
    exact this.mono fun _ _ h=>h.viewM
  · have h:=mlay_32 8 x (by omega)
    have:=mput_8 ad l n cap x w hl hn hc hr hx
    rw [h.1,be_32 _ _ h.2] at this
    exact this.mono fun _ _ h=>h.viewM
  · have h:=mlay_32 9 x (by omega)
    have:=mput_9 ad l n cap x w hl hn hc hr hx
    rw [h.1,be_32 _ _ h.2] at this
    exact this.mono fun _ _ h=>h.viewM
  · have h:=mlay_32 10 x (by omega)
    have:=mput_10 ad l n cap x w hl hn hc hr hx
    rw [h.1,be_32 _ _ h.2] at this
    exact this.mono fun _ _ h=>h.viewM
  · by_cases h5:9223372036854775808≤x
    · exact (mput_5b ad l n cap x w hl hn hc hr hx h5).mono fun _ _ h=>h.viewM
    · rw [show mlay (Int.toNat 5) x=mlay 4 x by simp [mlay,h5]]
      exact (mput_5a ad l n cap x w hl hn hc hr hx h5).mono fun _ _ h=>h.viewM
  · exact (mput_4 ad l n cap x w hl hn hc hr hx).mono fun _ _ h=>h.viewM
end Go.Proofs.YtnacbakcalcgaaaGreatDoor
