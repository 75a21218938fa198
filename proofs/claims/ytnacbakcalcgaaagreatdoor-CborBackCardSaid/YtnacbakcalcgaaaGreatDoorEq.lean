/- Texts of the claim. -/
import Derived.Test.YtnacbakcalcgaaaGreatDoorEp
import Derived.Deep.QuietTactic
import Derived.BigQuiet
import Derived.Lib.EndianBits
import Derived.Test.YtnacbakcalcgaaaGreatDoorRows
import Derived.Below
import Derived.WalkKit
import Derived.WalkSpells
import Derived.WalkLawsBesides
set_option linter.unusedVariables false
set_option linter.unusedSimpArgs false
set_option maxHeartbeats 2000000
set_option maxRecDepth 100000
namespace Go.Proofs.YtnacbakcalcgaaaGreatDoor
open Go.RowKit Go.Lib
theorem wpl_put (W:World) (news:List Value) {ops:Array Oper} {rest:List Oper} {o:Oper} {a:Act} {Q:Exit→Act→World→Prop}
    (hg:o.guard=none) (s x:Operand) (hop:o.op=.call { callee:=.builtin .append,args:=#[s,x],argTypes:=#[22,22] })
    (w0:World) (v:Value) (n:Nat) (xs:List Nat) (hs:a.eval s=v) (hown:W.ownsRow w0.heap.size 5 1 v n (bc xs)) (hb:Below w0.heap.size w0 W) (k:Nat) (hx:a.eval x=.slice (some ⟨W.heap.size,0,none⟩) k k) (hk:news.length=k)
    (ys:List Nat) (hy:news=bc ys) (zs:List Nat) (hz:xs++ys=zs) (hn:n+k≤1000000000)
    (h:∀ v' w',w'.ownsRow w0.heap.size 5 1 v' (n+k) (bc zs)→Below w0.heap.size w0 w'→wpList Tryz.prog ops Q rest (a.put o.dst v') w') :
    wpList Tryz.prog ops Q (o::rest) a (W.alloc (.cells news.toArray 5)):=by
  have hbs:=hb.size
  refine wpl_appV Tryz.underlying22 info_u8 rfl (by decide) (by decide) _ hg s x hop w0.heap.size v n (bc xs) hs (hown.alloc _) _ k k news hx (by omega) (rd_newH _ _ _) (by rw [hy];exact bc_one _) (fun h=>by cases h) hn (by simp;omega) ?_
  intro v' w' h1 h2
  refine h v' w' (by rw [← hz,bc_app,← hy];exact h1) ((hb.alloc hbs _).grown h2 (by simp;omega) (fun g hg=>(hown.lt g hg).1))
theorem head_or (Mi:Int) (i:Nat) (hi:i<32):bits .or .u8 (Mi % 256*32 % 256) (i:Int)=(((Mi % 8).toNat*32+i:Nat):Int):=by
  rw [bits_join .u8 8 (by decide) wraps_u8 5 (Mi % 256*32 % 256) (i:Int) (by omega) (by omega) (by omega) (by omega) (by omega) (by omega)]
  omega
def PutL (l:List Nat) (w:World) (e:Ending) (w':World):Prop:=∃ v,e=.returned v∧w'.ownsRow w.heap.size 5 1 v l.length (bc l)∧Below w.heap.size w w'
theorem hd_0 (m n:Nat) (h:n<24):hd m n=[m*32+n]:=by unfold hd infoN tailN;rw [if_pos h,if_pos h]
theorem hd_1 (m n:Nat) (h0:24≤n) (h:n<256):hd m n=[m*32+24,n]:=by
  unfold hd infoN tailN;rw [if_neg (show ¬ n<24 by omega),if_neg (show ¬ n<24 by omega),if_pos h,if_pos h]
theorem hd_2 (m n:Nat) (h0:256≤n) (h:n<65536):hd m n=[m*32+25,n / 256,n % 256]:=by
  unfold hd infoN tailN;rw [if_neg (show ¬ n<24 by omega),if_neg (show ¬ n<24 by omega),if_neg (show ¬ n<256 by omega),if_neg (show ¬ n<256 by omega),if_pos h,if_pos h]
theorem hd_4 (m n:Nat) (h0:65536≤n) (h:n<4294967296):hd m n=[m*32+26,n / 16777216,n / 65536 % 256,n / 256 % 256,n % 256]:=by
  unfold hd infoN tailN;rw [if_neg (show ¬ n<24 by omega),if_neg (show ¬ n<24 by omega),if_neg (show ¬ n<256 by omega),if_neg (show ¬ n<256 by omega),if_neg (show ¬ n<65536 by omega),if_neg (show ¬ n<65536 by omega),if_pos h,if_pos h]
theorem hd_8 (m n:Nat) (h0:4294967296≤n):hd m n=[m*32+27,n / 72057594037927936,n / 281474976710656 % 256,n / 1099511627776 % 256,n / 4294967296 % 256,n / 16777216 % 256,n / 65536 % 256,n / 256 % 256,n % 256]:=by
  unfold hd infoN tailN;rw [if_neg (show ¬ n<24 by omega),if_neg (show ¬ n<24 by omega),if_neg (show ¬ n<256 by omega),if_neg (show ¬ n<256 by omega),if_neg (show ¬ n<65536 by omega),if_neg (show ¬ n<65536 by omega),if_neg (show ¬ n<4294967296 by omega),if_neg (show ¬ n<4294967296 by omega)]
theorem put_0 (ad:Option Addr) (l:List Nat) (n cap N:Nat) (Mi:Int) (w:World) (hl:l.length=n) (hn:n≤1000000) (hc:n≤cap) (hr:RdV w ad (bc l)) (h2:N<24) :
    Calls Tryz.prog 52 #[.slice ad n cap,.int .i64 Mi,.int .u64 (N:Int)] w (PutL (l++hd (Mi % 8).toNat N) w):=by
  have K1:=Lib.hid (clip_any ad n cap w hc)
  have K2:=Lib.hid (grow_any ad l n w hl (by omega) hr)
  have K3:=Lib.hid (fun W=>infoOf_any N W (by omega))
  have hi:infoN N=N:=by unfold infoN;rw [if_pos h2]
  rw [hi] at K3
  have HD:=Lib.hid (hd_0 (Mi % 8).toNat N h2)
  have HL:=Lib.hid hl
  have HN:=Lib.hid hn
  have HQ:=Lib.hid (show (Mi % 8).toNat<8 by omega)
  clear hl hr hi hc hn
  go_enter Tryz.func52,Tryz.ntmps52
  go_wp2_with fail
  refine K1.out.mono ?_
  rintro x w1 ⟨rfl,rfl⟩
  go_wp2_with fail
  refine K2.out.mono ?_
  rintro x w2 ⟨v0,rfl,ho,hb⟩
  have O0:=Lib.hid ho;have B0:=Lib.hid hb
  clear ho hb
  go_wp2_with fail
  refine (K3.out _).mono ?_
  rintro x w3 ⟨rfl,rfl⟩
  have z1:decide ((N:Int)=27)=false:=decide_eq_false (by omega)
  have z2:decide ((N:Int)=26)=false:=decide_eq_false (by omega)
  have z3:decide ((N:Int)=25)=false:=decide_eq_false (by omega)
  have z4:decide ((N:Int)=24)=false:=decide_eq_false (by omega)
  have y1:((N:Int) == 27)=false:=by rw [beq_eq_false_iff_ne];omega
  have y2:((N:Int) == 26)=false:=by rw [beq_eq_false_iff_ne];omega
  have y3:((N:Int) == 25)=false:=by rw [beq_eq_false_iff_ne];omega
  have y4:((N:Int) == 24)=false:=by rw [beq_eq_false_iff_ne];omega
  go_wp2_with (at_builtin;refine wpl_put _ _ rfl _ _ rfl w1 v0 (l.length) (l) rfl O0.out B0.out 1 rfl rfl [(Mi % 8).toNat*32+N] (by rw [head_or Mi N (by omega)];rfl) (l++[(Mi % 8).toNat*32+N]) (by simp) (by have:=HN.out;have:=HL.out;omega) ?_)
  intro v1 u1 ho hb
  have O1:=Lib.hid ho;have B1:=Lib.hid hb
  clear ho hb O0 B0
  go_wp2
  go_ret
  have O:=O1.out
  refine ⟨_,rfl,?_,B1.out⟩
  have e2:(l++hd (Mi % 8).toNat N).length=l.length+1:=by rw [HD.out];simp
  rw [e2,HD.out]
  first | exact O | simpa using O
theorem put_1 (ad:Option Addr) (l:List Nat) (n cap N:Nat) (Mi:Int) (w:World) (hl:l.length=n) (hn:n≤1000000) (hc:n≤cap) (hr:RdV w ad (bc l)) (h1:24≤N) (h2:N<256) :
    Calls Tryz.prog 52 #[.slice ad n cap,.int .i64 Mi,.int .u64 (N:Int)] w (PutL (l++hd (Mi % 8).toNat N) w):=by
  have K1:=Lib.hid (clip_any ad n cap w hc)
  have K2:=Lib.hid (grow_any ad l n w hl (by omega) hr)
  have K3:=Lib.hid (fun W=>infoOf_any N W (by omega))
  have hi:infoN N=24:=by unfold infoN;rw [if_neg (by omega),if_pos (by omega)]
  rw [hi] at K3
  have HD:=Lib.hid (hd_1 (Mi % 8).toNat N h1 h2)
  have HL:=Lib.hid hl
  have HN:=Lib.hid hn
  have HQ:=Lib.hid (show (Mi % 8).toNat<8 by omega)
  clear hl hr hi hc hn
  go_enter Tryz.func52,Tryz.ntmps52
  go_wp2_with fail
  refine K1.out.mono ?_
  rintro x w1 ⟨rfl,rfl⟩
  go_wp2_with fail
  refine K2.out.mono ?_
  rintro x w2 ⟨v0,rfl,ho,hb⟩
  have O0:=Lib.hid ho;have B0:=Lib.hid hb
  clear ho hb
  go_wp2_with fail
  refine (K3.out _).mono ?_
  rintro x w3 ⟨rfl,rfl⟩
  go_wp2_with (at_builtin;refine wpl_put _ _ rfl _ _ rfl w1 v0 (l.length) (l) rfl O0.out B0.out 1 rfl rfl [(Mi % 8).toNat*32+24] (by rw [show (24:Int)=((24:Nat):Int) from rfl,head_or Mi 24 (by decide)];rfl) (l++[(Mi % 8).toNat*32+24]) (by simp) (by have:=HN.out;have:=HL.out;omega) ?_)
  intro v1 u1 ho hb
  have O1:=Lib.hid ho;have B1:=Lib.hid hb
  clear ho hb O0 B0
  go_wp2_with (at_builtin;refine wpl_put _ _ rfl _ _ rfl w1 v1 (l.length+1) (l++[(Mi % 8).toNat*32+24]) rfl O1.out B1.out 1 rfl rfl [N] (by simp only [bc,List.map_cons,List.map_nil,List.cons.injEq,Value.int.injEq,true_and,and_true] <;> omega) (l++[(Mi % 8).toNat*32+24,N]) (by simp) (by have:=HN.out;have:=HL.out;omega) ?_)
  intro v2 u2 ho hb
  have O2:=Lib.hid ho;have B2:=Lib.hid hb
  clear ho hb O1 B1
  go_wp2
  go_ret
  have O:=O2.out
  refine ⟨_,rfl,?_,B2.out⟩
  have e2:(l++hd (Mi % 8).toNat N).length=l.length+1+1:=by rw [HD.out];simp
  rw [e2,HD.out]
  first | exact O | simpa using O
theorem put_2 (ad:Option Addr) (l:List Nat) (n cap N:Nat) (Mi:Int) (w:World) (hl:l.length=n) (hn:n≤1000000) (hc:n≤cap) (hr:RdV w ad (bc l)) (h1:256≤N) (h2:N<65536) :
    Calls Tryz.prog 52 #[.slice ad n cap,.int .i64 Mi,.int .u64 (N:Int)] w (PutL (l++hd (Mi % 8).toNat N) w):=by
  have K1:=Lib.hid (clip_any ad n cap w hc)
  have K2:=Lib.hid (grow_any ad l n w hl (by omega) hr)
  have K3:=Lib.hid (fun W=>infoOf_any N W (by omega))
  have hi:infoN N=25:=by unfold infoN;rw [if_neg (by omega),if_neg (by omega),if_pos (by omega)]
  rw [hi] at K3
  have HD:=Lib.hid (hd_2 (Mi % 8).toNat N h1 h2)
  have HL:=Lib.hid hl
  have HN:=Lib.hid hn
  have HQ:=Lib.hid (show (Mi % 8).toNat<8 by omega)
  clear hl hr hi hc hn
  go_enter Tryz.func52,Tryz.ntmps52
  go_wp2_with fail
  refine K1.out.mono ?_
  rintro x w1 ⟨rfl,rfl⟩
  go_wp2_with fail
  refine K2.out.mono ?_
  rintro x w2 ⟨v0,rfl,ho,hb⟩
  have O0:=Lib.hid ho;have B0:=Lib.hid hb
  clear ho hb
  go_wp2_with fail
  refine (K3.out _).mono ?_
  rintro x w3 ⟨rfl,rfl⟩
  go_wp2_with (at_builtin;refine wpl_put _ _ rfl _ _ rfl w1 v0 (l.length) (l) rfl O0.out B0.out 1 rfl rfl [(Mi % 8).toNat*32+25] (by rw [show (25:Int)=((25:Nat):Int) from rfl,head_or Mi 25 (by decide)];rfl) (l++[(Mi % 8).toNat*32+25]) (by simp) (by have:=HN.out;have:=HL.out;omega) ?_)
  intro v1 u1 ho hb
  have O1:=Lib.hid ho;have B1:=Lib.hid hb
  clear ho hb O0 B0
  go_wp2_with (at_builtin;refine wpl_put _ _ rfl _ _ rfl w1 v1 (l.length+1) (l++[(Mi % 8).toNat*32+25]) rfl O1.out B1.out 1 rfl rfl [N / 256] (by simp only [bc,List.map_cons,List.map_nil,List.cons.injEq,Value.int.injEq,true_and,and_true] <;> omega) (l++[(Mi % 8).toNat*32+25,N / 256]) (by simp) (by have:=HN.out;have:=HL.out;omega) ?_)
  intro v2 u2 ho hb
  have O2:=Lib.hid ho;have B2:=Lib.hid hb
  clear ho hb O1 B1
  go_wp2_with (at_builtin;refine wpl_put _ _ rfl _ _ rfl w1 v2 (l.length+1+1) (l++[(Mi % 8).toNat*32+25,N / 256]) rfl O2.out B2.out 1 rfl rfl [N % 256] (by simp only [bc,List.map_cons,List.map_nil,List.cons.injEq,Value.int.injEq,true_and,and_true] <;> omega) (l++[(Mi % 8).toNat*32+25,N / 256,N % 256]) (by simp) (by have:=HN.out;have:=HL.out;omega) ?_)
  intro v3 u3 ho hb
  have O3:=Lib.hid ho;have B3:=Lib.hid hb
  clear ho hb O2 B2
  go_wp2
  go_ret
  have O:=O3.out
  refine ⟨_,rfl,?_,B3.out⟩
  have e2:(l++hd (Mi % 8).toNat N).length=l.length+1+1+1:=by rw [HD.out];simp
  rw [e2,HD.out]
  first | exact O | simpa using O
theorem put_4 (ad:Option Addr) (l:List Nat) (n cap N:Nat) (Mi:Int) (w:World) (hl:l.length=n) (hn:n≤1000000) (hc:n≤cap) (hr:RdV w ad (bc l)) (h1:65536≤N) (h2:N<4294967296) :
    Calls Tryz.prog 52 #[.slice ad n cap,.int .i64 Mi,.int .u64 (N:Int)] w (PutL (l++hd (Mi % 8).toNat N) w):=by
  have K1:=Lib.hid (clip_any ad n cap w hc)
  have K2:=Lib.hid (grow_any ad l n w hl (by omega) hr)
  have K3:=Lib.hid (fun W=>infoOf_any N W (by omega))
  have hi:infoN N=26:=by unfold infoN;rw [if_neg (by omega),if_neg (by omega),if_neg (by omega),if_pos (by omega)]
  rw [hi] at K3
  have HD:=Lib.hid (hd_4 (Mi % 8).toNat N h1 h2)
  have HL:=Lib.hid hl
  have HN:=Lib.hid hn
  have HQ:=Lib.hid (show (Mi % 8).toNat<8 by omega)
  clear hl hr hi hc hn
  go_enter Tryz.func52,Tryz.ntmps52
  go_wp2_with fail
  refine K1.out.mono ?_
  rintro x w1 ⟨rfl,rfl⟩
  go_wp2_with fail
  refine K2.out.mono ?_
  rintro x w2 ⟨v0,rfl,ho,hb⟩
  have O0:=Lib.hid ho;have B0:=Lib.hid hb
  clear ho hb
  go_wp2_with fail
  refine (K3.out _).mono ?_
  rintro x w3 ⟨rfl,rfl⟩
  go_wp2_with (at_builtin;refine wpl_put _ _ rfl _ _ rfl w1 v0 (l.length) (l) rfl O0.out B0.out 1 rfl rfl [(Mi % 8).toNat*32+26] (by rw [show (26:Int)=((26:Nat):Int) from rfl,head_or Mi 26 (by decide)];rfl) (l++[(Mi % 8).toNat*32+26]) (by simp) (by have:=HN.out;have:=HL.out;omega) ?_)
  intro v1 u1 ho hb
  have O1:=Lib.hid ho;have B1:=Lib.hid hb
  clear ho hb O0 B0
  go_wp2_with (at_builtin;refine wpl_put _ _ rfl _ _ rfl w1 v1 (l.length+1) (l++[(Mi % 8).toNat*32+26]) rfl O1.out B1.out 2 rfl rfl [N / 16777216,N / 65536 % 256] (by simp only [bc,List.map_cons,List.map_nil,List.cons.injEq,Value.int.injEq,true_and,and_true] <;> omega) (l++[(Mi % 8).toNat*32+26,N / 16777216,N / 65536 % 256]) (by simp) (by have:=HN.out;have:=HL.out;omega) ?_)
  intro v2 u2 ho hb
  have O2:=Lib.hid ho;have B2:=Lib.hid hb
  clear ho hb O1 B1
  go_wp2_with (at_builtin;refine wpl_put _ _ rfl _ _ rfl w1 v2 (l.length+1+2) (l++[(Mi % 8).toNat*32+26,N / 16777216,N / 65536 % 256]) rfl O2.out B2.out 1 rfl rfl [N / 256 % 256] (by simp only [bc,List.map_cons,List.map_nil,List.cons.injEq,Value.int.injEq,true_and,and_true] <;> omega) (l++[(Mi % 8).toNat*32+26,N / 16777216,N / 65536 % 256,N / 256 % 256]) (by simp) (by have:=HN.out;have:=HL.out;omega) ?_)
  intro v3 u3 ho hb
  have O3:=Lib.hid ho;have B3:=Lib.hid hb
  clear ho hb O2 B2
  go_wp2_with (at_builtin;refine wpl_put _ _ rfl _ _ rfl w1 v3 (l.length+1+2+1) (l++[(Mi % 8).toNat*32+26,N / 16777216,N / 65536 % 256,N / 256 % 256]) rfl O3.out B3.out 1 rfl rfl [N % 256] (by simp only [bc,List.map_cons,List.map_nil,List.cons.injEq,Value.int.injEq,true_and,and_true] <;> omega) (l++[(Mi % 8).toNat*32+26,N / 16777216,N / 65536 % 256,N / 256 % 256,N % 256]) (by simp) (by have:=HN.out;have:=HL.out;omega) ?_)
  intro v4 u4 ho hb
  have O4:=Lib.hid ho;have B4:=Lib.hid hb
  clear ho hb O3 B3
  go_wp2
  go_ret
  have O:=O4.out
  refine ⟨_,rfl,?_,B4.out⟩
  have e2:(l++hd (Mi % 8).toNat N).length=l.length+1+2+1+1:=by rw [HD.out];simp
  rw [e2,HD.out]
  first | exact O | simpa using O
theorem put_8 (ad:Option Addr) (l:List Nat) (n cap N:Nat) (Mi:Int) (w:World) (hl:l.length=n) (hn:n≤1000000) (hc:n≤cap) (hr:RdV w ad (bc l)) (h1:4294967296≤N) (h2:N<18446744073709551616) :
    Calls Tryz.prog 52 #[.slice ad n cap,.int .i64 Mi,.int .u64 (N:Int)] w (PutL (l++hd (Mi % 8).toNat N) w):=by
  have K1:=Lib.hid (clip_any ad n cap w hc)
  have K2:=Lib.hid (grow_any ad l n w hl (by omega) hr)
  have K3:=Lib.hid (fun W=>infoOf_any N W (by omega))
  have hi:infoN N=27:=by unfold infoN;rw [if_neg (by omega),if_neg (by omega),if_neg (by omega),if_neg (by omega)]
  rw [hi] at K3
  have HD:=Lib.hid (hd_8 (Mi % 8).toNat N h1)
  have HL:=Lib.hid hl
  have HN:=Lib.hid hn
  have HQ:=Lib.hid (show (Mi % 8).toNat<8 by omega)
  clear hl hr hi hc hn
  go_enter Tryz.func52,Tryz.ntmps52
  go_wp2_with fail
  refine K1.out.mono ?_
  rintro x w1 ⟨rfl,rfl⟩
  go_wp2_with fail
  refine K2.out.mono ?_
  rintro x w2 ⟨v0,rfl,ho,hb⟩
  have O0:=Lib.hid ho;have B0:=Lib.hid hb
  clear ho hb
  go_wp2_with fail
  refine (K3.out _).mono ?_
  rintro x w3 ⟨rfl,rfl⟩
  go_wp2_with (at_builtin;refine wpl_put _ _ rfl _ _ rfl w1 v0 (l.length) (l) rfl O0.out B0.out 1 rfl rfl [(Mi % 8).toNat*32+27] (by rw [show (27:Int)=((27:Nat):Int) from rfl,head_or Mi 27 (by decide)];rfl) (l++[(Mi % 8).toNat*32+27]) (by simp) (by have:=HN.out;have:=HL.out;omega) ?_)
  intro v1 u1 ho hb
  have O1:=Lib.hid ho;have B1:=Lib.hid hb
  clear ho hb O0 B0
  go_wp2_with (at_builtin;refine wpl_put _ _ rfl _ _ rfl w1 v1 (l.length+1) (l++[(Mi % 8).toNat*32+27]) rfl O1.out B1.out 4 rfl rfl [N / 72057594037927936,N / 281474976710656 % 256,N / 1099511627776 % 256,N / 4294967296 % 256] (by simp only [bc,List.map_cons,List.map_nil,List.cons.injEq,Value.int.injEq,true_and,and_true] <;> omega) (l++[(Mi % 8).toNat*32+27,N / 72057594037927936,N / 281474976710656 % 256,N / 1099511627776 % 256,N / 4294967296 % 256]) (by simp) (by have:=HN.out;have:=HL.out;omega) ?_)
  intro v2 u2 ho hb
  have O2:=Lib.hid ho;have B2:=Lib.hid hb
  clear ho hb O1 B1
  go_wp2_with (at_builtin;refine wpl_put _ _ rfl _ _ rfl w1 v2 (l.length+1+4) (l++[(Mi % 8).toNat*32+27,N / 72057594037927936,N / 281474976710656 % 256,N / 1099511627776 % 256,N / 4294967296 % 256]) rfl O2.out B2.out 2 rfl rfl [N / 16777216 % 256,N / 65536 % 256] (by simp only [bc,List.map_cons,List.map_nil,List.cons.injEq,Value.int.injEq,true_and,and_true] <;> omega) (l++[(Mi % 8).toNat*32+27,N / 72057594037927936,N / 281474976710656 % 256,N / 1099511627776 % 256,N / 4294967296 % 256,N / 16777216 % 256,N / 65536 % 256]) (by simp) (by have:=HN.out;have:=HL.out;omega) ?_)
  intro v3 u3 ho hb
  have O3:=Lib.hid ho;have B3:=Lib.hid hb
  clear ho hb O2 B2
  go_wp2_with (at_builtin;refine wpl_put _ _ rfl _ _ rfl w1 v3 (l.length+1+4+2) (l++[(Mi % 8).toNat*32+27,N / 72057594037927936,N / 281474976710656 % 256,N / 1099511627776 % 256,N / 4294967296 % 256,N / 16777216 % 256,N / 65536 % 256]) rfl O3.out B3.out 1 rfl rfl [N / 256 % 256] (by simp only [bc,List.map_cons,List.map_nil,List.cons.injEq,Value.int.injEq,true_and,and_true] <;> omega) (l++[(Mi % 8).toNat*32+27,N / 72057594037927936,N / 281474976710656 % 256,N / 1099511627776 % 256,N / 4294967296 % 256,N / 16777216 % 256,N / 65536 % 256,N / 256 % 256]) (by simp) (by have:=HN.out;have:=HL.out;omega) ?_)
  intro v4 u4 ho hb
  have O4:=Lib.hid ho;have B4:=Lib.hid hb
  clear ho hb O3 B3
  go_wp2_with (at_builtin;refine wpl_put _ _ rfl _ _ rfl w1 v4 (l.length+1+4+2+1) (l++[(Mi % 8).toNat*32+27,N / 72057594037927936,N / 281474976710656 % 256,N / 1099511627776 % 256,N / 4294967296 % 256,N / 16777216 % 256,N / 65536 % 256,N / 256 % 256]) rfl O4.out B4.out 1 rfl rfl [N % 256] (by simp only [bc,List.map_cons,List.map_nil,List.cons.injEq,Value.int.injEq,true_and,and_true] <;> omega) (l++[(Mi % 8).toNat*32+27,N / 72057594037927936,N / 281474976710656 % 256,N / 1099511627776 % 256,N / 4294967296 % 256,N / 16777216 % 256,N / 65536 % 256,N / 256 % 256,N % 256]) (by simp) (by have:=HN.out;have:=HL.out;omega) ?_)
  intro v5 u5 ho hb
  have O5:=Lib.hid ho;have B5:=Lib.hid hb
  clear ho hb O4 B4
  go_wp2
  go_ret
  have O:=O5.out
  refine ⟨_,rfl,?_,B5.out⟩
  have e2:(l++hd (Mi % 8).toNat N).length=l.length+1+4+2+1+1:=by rw [HD.out];simp
  rw [e2,HD.out]
  first | exact O | simpa using O
theorem hput_any (ad:Option Addr) (l:List Nat) (n cap N:Nat) (Mi:Int) (w:World) (hl:l.length=n) (hn:n≤1000000) (hc:n≤cap) (hr:RdV w ad (bc l)) (h2:N<18446744073709551616) :
    Calls Tryz.prog 52 #[.slice ad n cap,.int .i64 Mi,.int .u64 (N:Int)] w (PutL (l++hd (Mi % 8).toNat N) w):=by
  by_cases g1:N<24
  · exact put_0 ad l n cap N Mi w hl hn hc hr g1
  by_cases g2:N<256
  · exact put_1 ad l n cap N Mi w hl hn hc hr (by omega) g2
  by_cases g3:N<65536
  · exact put_2 ad l n cap N Mi w hl hn hc hr (by omega) g3
  by_cases g4:N<4294967296
  · exact put_4 ad l n cap N Mi w hl hn hc hr (by omega) g4
  exact put_8 ad l n cap N Mi w hl hn hc hr (by omega) h2
def strB (l:List Nat):ByteArray:=⟨(l.map fun x=>UInt8.ofNat x).toArray⟩
theorem strB_nums (l:List Nat):strOfNums (l.map fun (x:Nat)=>(x:Int))=strB l:=by
  unfold strOfNums strB;simp
theorem conv_bv (w:World) (ad:Option Addr) (n c:Nat) (l:List Nat) (hl:l.length=n) (hr:RdV w ad (bc l)) :
    Sem.run Tryz.prog (convert 22 9 (.slice ad n c)) w=.ok (.string (strB l)) w:=by
  rw [← strB_nums]
  cases ad with
  | none =>
    have h0:l=[]:=by
      rcases Nat.eq_zero_or_pos (bc l).length with h0 | h0
      · rw [bc_len] at h0;exact List.eq_nil_of_length_eq_zero h0
      · obtain ⟨_,_,e,_⟩:=hr 0 h0
        cases e
    subst h0
    exact run_convert_bytes_nil w 22 5 Tryz.underlying22 Tryz.underlying5 _ _ 9 Tryz.underlying9
  | some a =>
    have hsp:∀ i,i<n→w.cell? ⟨a.block,a.off+i,none⟩=some (.int .u8 ((l.map fun (x:Nat)=>(x:Int)).getD i 0))∧a.spot=none:=by
      intro i hi
      obtain ⟨b,o,e,_,hc⟩:=hr i (by rw [bc_len];omega)
      cases e
      refine ⟨?_,rfl⟩
      rw [hc,bc_get l i (by omega)]
      simp [List.getD,show i<l.length by omega]
    rcases Nat.eq_zero_or_pos n with h0 | h0
    · subst h0
      have:l=[]:=List.eq_nil_of_length_eq_zero hl
      subst this
      rw [run_convert_bytes_string w 22 9 5 _ _ _ Tryz.underlying22 Tryz.underlying5 Tryz.underlying9]
      simp [Conv.bytesToString,loadCells,strOfNums]
      rfl
    · obtain ⟨_,hs⟩:=hsp 0 h0
      obtain ⟨b,o,sp⟩:=a
      simp at hs;subst hs
      exact run_convert_bytes_arg w 22 5 Tryz.underlying22 Tryz.underlying5 b o n c _ (by simpa using hl) (fun i hi=>(hsp i hi).1) 9 Tryz.underlying9
theorem PutL.view {l:List Nat} {w w':World} {e:Ending} (h:PutL l w e w'):∃ ad cap,e=.returned (.slice ad l.length cap)∧l.length≤cap∧RdV w' ad (bc l)∧Below w.heap.size w w'∧(ad=none→cap=0):=by
  obtain ⟨v,rfl,ho,hb⟩:=h
  obtain ⟨ad,cap,rfl,hc,hr,_,_,h0⟩:=own_viewN ho
  exact ⟨ad,cap,rfl,hc,hr,hb,fun h=>(h0 h).1⟩
theorem sizeOf_0 (i:Nat) (w:World) (hi:i<24∨i=31):Calls Tryz.prog 157 #[.int .i64 (i:Int)] w fun e w'=>e=.returned (.tuple #[.int .i64 0,.bool true])∧w'=w:=by
  rcases hi with h | rfl
  · have e1:decide ((i:Int)≤23)=true:=decide_eq_true (by omega)
    go_enter Tryz.func157,Tryz.ntmps157
    go_wp2_with fail
    go_ret2
    exact ⟨rfl,rfl⟩
  · go_enter Tryz.func157,Tryz.ntmps157
    go_wp2_with fail
    go_ret2
    exact ⟨rfl,rfl⟩
theorem sizeOf_1 (i:Nat) (w:World) (h0:24≤i) (hi:i≤27):Calls Tryz.prog 157 #[.int .i64 (i:Int)] w fun e w'=>e=.returned (.tuple #[.int .i64 ((2 ^ (i - 24):Nat):Int),.bool true])∧w'=w:=by
  have:i=24∨i=25∨i=26∨i=27:=by omega
  clear h0 hi
  rcases this with rfl | rfl | rfl | rfl
  iterate 4
    · go_enter Tryz.func157,Tryz.ntmps157
      go_wp2_with fail
      go_ret2
      exact ⟨rfl,rfl⟩
theorem sizeOf_no (i:Nat) (w:World) (h0:28≤i) (hi:i≤30):Calls Tryz.prog 157 #[.int .i64 (i:Int)] w fun e w'=>e=.returned (.tuple #[.int .i64 0,.bool false])∧w'=w:=by
  have:i=28∨i=29∨i=30:=by omega
  clear h0 hi
  rcases this with rfl | rfl | rfl
  iterate 3
    · go_enter Tryz.func157,Tryz.ntmps157
      go_wp2_with fail
      go_ret2
      exact ⟨rfl,rfl⟩
theorem results_tmp5 {fn:Func} {t u v x y:Tmp} (h:fn.results=#[.tmp t,.tmp u,.tmp v,.tmp x,.tmp y]) (tmps:Array Value) (P:Program) (w:World) :
    (results fn tmps).run P w=.ok (.tuple #[tmps.getD t undef,tmps.getD u undef,tmps.getD v undef,tmps.getD x undef,tmps.getD y undef]) w:=by
  simp [results,h]
theorem orJ (i:Nat) (x y:Int) (h0:0≤x) (h1:x % 2 ^ i=0) (h2:x<18446744073709551616) (h3:0≤y) (h4:y<2 ^ i) (h5:y<18446744073709551616):bits .or .u64 x y=x+y :=
  bits_join .u64 64 (by decide) wraps_u64 i x y h0 h1 h2 h3 h4 h5
theorem or0 (y:Int) (h3:0≤y) (h5:y<18446744073709551616):bits .or .u64 0 y=y:=by
  rw [bits_join .u64 64 (by decide) wraps_u64 64 0 y (by decide) (by decide) (by decide) h3 h5 h5];omega
theorem number_short (i:Nat) (s:Value) (w:World) (hi:i<24):Calls Tryz.prog 158 #[.int .i64 (i:Int),s] w fun e w'=>e=.returned (.int .u64 (i:Int))∧Below w.heap.size w w':=by
  have e1:decide ((i:Int)≤23)=true:=decide_eq_true (by omega)
  go_enter Tryz.func158,Tryz.ntmps158
  go_wp2_with fail
  go_ret
  exact ⟨rfl,Below.refl _ _⟩
theorem number_open (ad:Option Addr) (c:Nat) (w:World):Calls Tryz.prog 158 #[.int .i64 31,.slice ad 0 c] w fun e w'=>e=.returned (.int .u64 0)∧Below w.heap.size w w':=by
  go_enter Tryz.func158,Tryz.ntmps158
  go_wp2_with fail
  go_ret
  exact ⟨rfl,Below.refl _ _⟩
theorem num1 (x0:Nat) (b0:x0<256):(bits .or .u64 0 (x0:Int))=((natB [x0]:Nat):Int):=by
  rw [or0 ((x0:Int)) (by omega) (by omega)]
  simp only [natB,List.foldl]
  omega
theorem number_1 (b o c:Nat) (x0:Nat) (w:World) (h:RdV w (some ⟨b,o,none⟩) (bc [x0])) (b0:x0<256) :
    Calls Tryz.prog 158 #[.int .i64 24,.slice (some ⟨b,o,none⟩) 1 c] w fun e w'=>e=.returned (.int .u64 ((natB [x0]:Nat):Int))∧Below w.heap.size w w':=by
  have c0:w.cell? ⟨b,o,none⟩=some (.int .u8 (x0:Int)):=h.at 0 (by simp [bc])
  have E:=Lib.hid (num1 x0 b0)
  clear h
  go_enter Tryz.func158,Tryz.ntmps158
  go_wp2_with fail
  go_ret
  exact ⟨congrArg (fun z=>Ending.returned (Value.int .u64 z)) E.out,Below.refl _ _⟩
theorem num2 (x0 x1:Nat) (b0:x0<256) (b1:x1<256):(bits .or .u64 (bits .or .u64 0 ((x0:Int)*256)) (x1:Int))=((natB [x0,x1]:Nat):Int):=by
  rw [or0 (((x0:Int)*256)) (by omega) (by omega),orJ 8 (((x0:Int)*256)) ((x1:Int)) (by omega) (by omega) (by omega) (by omega) (by omega) (by omega)]
  simp only [natB,List.foldl]
  omega
theorem number_2 (b o c:Nat) (x0 x1:Nat) (w:World) (h:RdV w (some ⟨b,o,none⟩) (bc [x0,x1])) (b0:x0<256) (b1:x1<256) :
    Calls Tryz.prog 158 #[.int .i64 25,.slice (some ⟨b,o,none⟩) 2 c] w fun e w'=>e=.returned (.int .u64 ((natB [x0,x1]:Nat):Int))∧Below w.heap.size w w':=by
  have c0:w.cell? ⟨b,o,none⟩=some (.int .u8 (x0:Int)):=h.at 0 (by simp [bc])
  have c1:w.cell? ⟨b,o+1,none⟩=some (.int .u8 (x1:Int)):=h.at 1 (by simp [bc])
  have E:=Lib.hid (num2 x0 x1 b0 b1)
  clear h
  go_enter Tryz.func158,Tryz.ntmps158
  go_wp2_with fail
  go_ret
  exact ⟨congrArg (fun z=>Ending.returned (Value.int .u64 z)) E.out,Below.refl _ _⟩
theorem num4 (x0 x1 x2 x3:Nat) (b0:x0<256) (b1:x1<256) (b2:x2<256) (b3:x3<256):(bits .or .u64 (bits .or .u64 (bits .or .u64 0 (bits .or .u64 ((x0:Int)*16777216) ((x1:Int)*65536))) ((x2:Int)*256)) (x3:Int))=((natB [x0,x1,x2,x3]:Nat):Int):=by
  rw [orJ 24 (((x0:Int)*16777216)) (((x1:Int)*65536)) (by omega) (by omega) (by omega) (by omega) (by omega) (by omega),or0 (((x0:Int)*16777216)+((x1:Int)*65536)) (by omega) (by omega),orJ 16 (((x0:Int)*16777216)+((x1:Int)*65536)) (((x2:Int)*256)) (by omega) (by omega) (by omega) (by omega) (by omega) (by omega),orJ 8 (((x0:Int)*16777216)+((x1:Int)*65536)+((x2:Int)*256)) ((x3:Int)) (by omega) (by omega) (by omega) (by omega) (by omega) (by omega)]
  simp only [natB,List.foldl]
  omega
theorem number_4 (b o c:Nat) (x0 x1 x2 x3:Nat) (w:World) (h:RdV w (some ⟨b,o,none⟩) (bc [x0,x1,x2,x3])) (b0:x0<256) (b1:x1<256) (b2:x2<256) (b3:x3<256) :
    Calls Tryz.prog 158 #[.int .i64 26,.slice (some ⟨b,o,none⟩) 4 c] w fun e w'=>e=.returned (.int .u64 ((natB [x0,x1,x2,x3]:Nat):Int))∧Below w.heap.size w w':=by
  have c0:w.cell? ⟨b,o,none⟩=some (.int .u8 (x0:Int)):=h.at 0 (by simp [bc])
  have c1:w.cell? ⟨b,o+1,none⟩=some (.int .u8 (x1:Int)):=h.at 1 (by simp [bc])
  have c2:w.cell? ⟨b,o+2,none⟩=some (.int .u8 (x2:Int)):=h.at 2 (by simp [bc])
  have c3:w.cell? ⟨b,o+3,none⟩=some (.int .u8 (x3:Int)):=h.at 3 (by simp [bc])
  have E:=Lib.hid (num4 x0 x1 x2 x3 b0 b1 b2 b3)
  clear h
  go_enter Tryz.func158,Tryz.ntmps158
  go_wp2_with fail
  go_quiet (fail)
  go_wp2_with fail
  go_ret
  exact ⟨congrArg (fun z=>Ending.returned (Value.int .u64 z)) E.out,below_drewN (Below.refl _ _) _⟩
theorem num8 (x0 x1 x2 x3 x4 x5 x6 x7:Nat) (b0:x0<256) (b1:x1<256) (b2:x2<256) (b3:x3<256) (b4:x4<256) (b5:x5<256) (b6:x6<256) (b7:x7<256):(bits .or .u64 (bits .or .u64 (bits .or .u64 (bits .or .u64 0 (bits .or .u64 (bits .or .u64 (bits .or .u64 ((x0:Int)*72057594037927936) ((x1:Int)*281474976710656)) ((x2:Int)*1099511627776)) ((x3:Int)*4294967296))) (bits .or .u64 ((x4:Int)*16777216) ((x5:Int)*65536))) ((x6:Int)*256)) (x7:Int))=((natB [x0,x1,x2,x3,x4,x5,x6,x7]:Nat):Int):=by
  rw [orJ 56 (((x0:Int)*72057594037927936)) (((x1:Int)*281474976710656)) (by omega) (by omega) (by omega) (by omega) (by omega) (by omega),orJ 48 (((x0:Int)*72057594037927936)+((x1:Int)*281474976710656)) (((x2:Int)*1099511627776)) (by omega) (by omega) (by omega) (by omega) (by omega) (by omega),orJ 40 (((x0:Int)*72057594037927936)+((x1:Int)*281474976710656)+((x2:Int)*1099511627776)) (((x3:Int)*4294967296)) (by omega) (by omega) (by omega) (by omega) (by omega) (by omega),or0 (((x0:Int)*72057594037927936)+((x1:Int)*281474976710656)+((x2:Int)*1099511627776)+((x3:Int)*4294967296)) (by omega) (by omega),orJ 24 (((x4:Int)*16777216)) (((x5:Int)*65536)) (by omega) (by omega) (by omega) (by omega) (by omega) (by omega),orJ 32 (((x0:Int)*72057594037927936)+((x1:Int)*281474976710656)+((x2:Int)*1099511627776)+((x3:Int)*4294967296)) (((x4:Int)*16777216)+((x5:Int)*65536)) (by omega) (by omega) (by omega) (by omega) (by omega) (by omega),orJ 16 (((x0:Int)*72057594037927936)+((x1:Int)*281474976710656)+((x2:Int)*1099511627776)+((x3:Int)*4294967296)+(((x4:Int)*16777216)+((x5:Int)*65536))) (((x6:Int)*256)) (by omega) (by omega) (by omega) (by omega) (by omega) (by omega),orJ 8 (((x0:Int)*72057594037927936)+((x1:Int)*281474976710656)+((x2:Int)*1099511627776)+((x3:Int)*4294967296)+(((x4:Int)*16777216)+((x5:Int)*65536))+((x6:Int)*256)) ((x7:Int)) (by omega) (by omega) (by omega) (by omega) (by omega) (by omega)]
  simp only [natB,List.foldl]
  omega
theorem number_8 (b o c:Nat) (x0 x1 x2 x3 x4 x5 x6 x7:Nat) (w:World) (h:RdV w (some ⟨b,o,none⟩) (bc [x0,x1,x2,x3,x4,x5,x6,x7])) (b0:x0<256) (b1:x1<256) (b2:x2<256) (b3:x3<256) (b4:x4<256) (b5:x5<256) (b6:x6<256) (b7:x7<256) :
    Calls Tryz.prog 158 #[.int .i64 27,.slice (some ⟨b,o,none⟩) 8 c] w fun e w'=>e=.returned (.int .u64 ((natB [x0,x1,x2,x3,x4,x5,x6,x7]:Nat):Int))∧Below w.heap.size w w':=by
  have c0:w.cell? ⟨b,o,none⟩=some (.int .u8 (x0:Int)):=h.at 0 (by simp [bc])
  have c1:w.cell? ⟨b,o+1,none⟩=some (.int .u8 (x1:Int)):=h.at 1 (by simp [bc])
  have c2:w.cell? ⟨b,o+2,none⟩=some (.int .u8 (x2:Int)):=h.at 2 (by simp [bc])
  have c3:w.cell? ⟨b,o+3,none⟩=some (.int .u8 (x3:Int)):=h.at 3 (by simp [bc])
  have c4:w.cell? ⟨b,o+4,none⟩=some (.int .u8 (x4:Int)):=h.at 4 (by simp [bc])
  have c5:w.cell? ⟨b,o+5,none⟩=some (.int .u8 (x5:Int)):=h.at 5 (by simp [bc])
  have c6:w.cell? ⟨b,o+6,none⟩=some (.int .u8 (x6:Int)):=h.at 6 (by simp [bc])
  have c7:w.cell? ⟨b,o+7,none⟩=some (.int .u8 (x7:Int)):=h.at 7 (by simp [bc])
  have E:=Lib.hid (num8 x0 x1 x2 x3 x4 x5 x6 x7 b0 b1 b2 b3 b4 b5 b6 b7)
  clear h
  go_enter Tryz.func158,Tryz.ntmps158
  go_wp2_with fail
  go_quiet (fail)
  go_wp2_with fail
  go_quiet (fail)
  go_wp2_with fail
  go_ret
  exact ⟨congrArg (fun z=>Ending.returned (Value.int .u64 z)) E.out,below_drewN (Below.refl _ _) _⟩
theorem hnum_any (i s:Nat) (ad:Option Addr) (c:Nat) (L:List Nat) (w:World) (hs:sizeH i=some s) (hl:L.length=s) (hb:∀ x∈L,x<256) (hr:RdV w ad (bc L)) :
    Calls Tryz.prog 158 #[.int .i64 (i:Int),.slice ad s c] w fun e w'=>e=.returned (.int .u64 ((if i<24 then i else natB L:Nat):Int))∧Below w.heap.size w w':=by
  unfold sizeH at hs
  by_cases h1:i<24
  · rw [if_pos h1];exact number_short i _ w h1
  rw [if_neg h1]
  by_cases h2:i=31
  · subst h2
    simp at hs
    subst hs
    obtain rfl:L=[]:=List.eq_nil_of_length_eq_zero hl
    exact number_open ad c w
  by_cases h3:i≤27
  · rw [if_neg (by omega),if_pos h3] at hs
    have hq:i=24∨i=25∨i=26∨i=27:=by omega
    rcases hq with rfl | rfl | rfl | rfl <;> simp at hs <;> subst hs
    · match L,hl with
      | [x0],_ =>
        obtain ⟨b,o,rfl,_⟩:=hr.shape (by simp [bc])
        exact number_1 b o c x0 w hr (hb _ (by simp))
    · match L,hl with
      | [x0,x1],_ =>
        obtain ⟨b,o,rfl,_⟩:=hr.shape (by simp [bc])
        exact number_2 b o c x0 x1 w hr (hb _ (by simp)) (hb _ (by simp))
    · match L,hl with
      | [x0,x1,x2,x3],_ =>
        obtain ⟨b,o,rfl,_⟩:=hr.shape (by simp [bc])
        exact number_4 b o c x0 x1 x2 x3 w hr (hb _ (by simp)) (hb _ (by simp)) (hb _ (by simp)) (hb _ (by simp))
    · match L,hl with
      | [x0,x1,x2,x3,x4,x5,x6,x7],_ =>
        obtain ⟨b,o,rfl,_⟩:=hr.shape (by simp [bc])
        exact number_8 b o c x0 x1 x2 x3 x4 x5 x6 x7 w hr (hb _ (by simp)) (hb _ (by simp)) (hb _ (by simp)) (hb _ (by simp)) (hb _ (by simp)) (hb _ (by simp)) (hb _ (by simp)) (hb _ (by simp))
  · rw [if_neg (by omega),if_neg h3] at hs;cases hs
def GetR (l:List Nat) (k:Int) (w:World) (e:Ending) (w':World):Prop:=e=.returned (tup (getN l k))∧Below w.heap.size w w'
theorem get_arg (ad:Option Addr) (n cap:Nat) (l:List Nat) (k:Int) (w:World) (hl:l.length=n) (hn:n≤1000000) (hk:-9223372036854775808≤k∧k≤9223372036854775807) (h:k<0∨(n:Int)<k) :
    Calls Tryz.prog 115 #[.slice ad n cap,.int .i64 k] w (GetR l k w):=by
  have e:getN l k=(0,0,0,0,1):=by unfold getN;rw [if_pos (by omega)]
  have E:=Lib.hid e
  clear e hl
  rcases h with h | h
  · have e1:decide (k<0)=true:=decide_eq_true h
    go_enter Tryz.func115,Tryz.ntmps115
    go_wp2_with fail
    refine bodyPost_ret (results_tmp5 rfl _ _ _) rfl ?_
    exact ⟨by rw [E.out];rfl,Below.refl _ _⟩
  · have e1:decide (k<0)=false:=decide_eq_false (by omega)
    have e2:decide ((n:Int)<k)=true:=decide_eq_true h
    go_enter Tryz.func115,Tryz.ntmps115
    go_wp2_with fail
    refine bodyPost_ret (results_tmp5 rfl _ _ _) rfl ?_
    exact ⟨by rw [E.out];rfl,Below.refl _ _⟩
theorem get_end (ad:Option Addr) (n cap:Nat) (l:List Nat) (w:World) (hl:l.length=n) (hn:n≤1000000) :
    Calls Tryz.prog 115 #[.slice ad n cap,.int .i64 (n:Int)] w (GetR l (n:Int) w):=by
  have e:getN l (n:Int)=(0,0,0,0,2):=by unfold getN;rw [if_neg (by omega),if_pos (by omega)]
  have E:=Lib.hid e
  clear e hl
  have e1:decide ((n:Int)<0)=false:=decide_eq_false (by omega)
  have e2:decide ((n:Int)<(n:Int))=false:=decide_eq_false (by omega)
  go_enter Tryz.func115,Tryz.ntmps115
  go_wp2_with fail
  refine bodyPost_ret (results_tmp5 rfl _ _ _) rfl ?_
  exact ⟨by rw [E.out];rfl,Below.refl _ _⟩
theorem getN_in (l:List Nat) (k f:Nat) (hk:k<l.length) (hf:l.getD k 0=f):getN l (k:Int)=match sizeH (f % 32) with
    | none=>(0,0,0,0,2)
    | some s=>if l.length - k - 1<s then (0,0,0,0,2)
      else (f / 32,f % 32,if f % 32<24 then f % 32 else natB ((l.drop (k+1)).take s),k+1+s,0):=by
  unfold getN
  rw [if_neg (by omega),if_neg (by omega)]
  simp only [Int.toNat_natCast,hf]
  rfl
theorem get_none (b o n cap k f : Nat) (l : List Nat) (w : World) (hl : l.length = n) (hn : n ≤ 1000000) (hc : n ≤ cap) (hk : k < n) (hf : l.getD k 0 = f) (hf2 : f < 256) (hr : RdV w (some ⟨b, o, none⟩) (bc l)) (hs : sizeH (f % 32) = none) :
    Calls Tryz.prog 115 #[.slice (some ⟨b, o, none⟩) n cap, .int .i64 (k : Int)] w (GetR l (k : Int) w) := by
  have E := Lib.hid (getN_in l k f (by omega) hf)
  rw [hs] at E
  have c0 : w.cell? ⟨b, o + k, none⟩ = some (.int .u8 (f : Int)) := by rw [hr.at k (by rw [bc_len]; omega), bc_get l k (by omega), hf]
  have e31 : bits .and .u8 (f : Int) 31 = ((f % 32 : Nat) : Int) := by rw [u8_and31 (x := (f : Int)) (by omega) (by omega)]; omega
  have hi : 28 ≤ f % 32 ∧ f % 32 ≤ 30 := by unfold sizeH at hs; split at hs <;> try cases hs
                                            split at hs <;> try cases hs
                                            omega
  have KS := Lib.hid (fun W => sizeOf_no (f % 32) W hi.1 hi.2)
  have e1 : decide ((k : Int) < 0) = false := decide_eq_false (by omega)
  have e2 : ¬ n < k := by omega
  have e3 : ((k : Int) == (n : Int)) = false := by rw [beq_eq_false_iff_ne]; omega
  clear hr hf hs hi hl
  go_enter Tryz.func115, Tryz.ntmps115
  go_wp2_with fail
  go_quiet (fail)
  try simp only [e31]
  go_wp2_with fail
  refine (KS.out _).mono ?_
  rintro x w1 ⟨rfl, rfl⟩
  go_wp2_with fail
  all_goals
    refine bodyPost_ret (results_tmp5 rfl _ _ _) rfl ?_
    exact ⟨by rw [E.out]; rfl, below_drewN (Below.refl _ _) _⟩
theorem sizeOf_some (i s:Nat) (w:World) (hs:sizeH i=some s):Calls Tryz.prog 157 #[.int .i64 (i:Int)] w fun e w'=>e=.returned (.tuple #[.int .i64 (s:Int),.bool true])∧w'=w:=by
  unfold sizeH at hs
  split at hs
  · next h=>cases hs;exact sizeOf_0 i w h
  · next h =>
    split at hs
    · next h2=>cases hs;exact sizeOf_1 i w (by omega) h2
    · cases hs
theorem sizeH_le {i s:Nat} (hs:sizeH i=some s):s≤8:=by
  unfold sizeH at hs
  split at hs
  · cases hs;omega
  · split at hs
    · next h2 =>
      cases hs
      exact Nat.le_trans (Nat.pow_le_pow_right (n:=2) (by decide) (show i - 24≤3 by omega)) (by decide)
    · cases hs
theorem get_short (b o n cap k f s:Nat) (l:List Nat) (w:World) (hl:l.length=n) (hn:n≤1000000) (hc:n≤cap) (hk:k<n) (hf:l.getD k 0=f) (hf2:f<256) (hr:RdV w (some ⟨b,o,none⟩) (bc l)) (hs:sizeH (f % 32)=some s) (hg:n - k - 1<s) :
    Calls Tryz.prog 115 #[.slice (some ⟨b,o,none⟩) n cap,.int .i64 (k:Int)] w (GetR l (k:Int) w):=by
  have E:=Lib.hid (show getN l (k:Int)=(0,0,0,0,2) by rw [getN_in l k f (by omega) hf,hs];simp only [];rw [if_pos (by omega)])
  have c0:w.cell? ⟨b,o+k,none⟩=some (.int .u8 (f:Int)):=by rw [hr.at k (by rw [bc_len];omega),bc_get l k (by omega),hf]
  have e31:bits .and .u8 (f:Int) 31=((f % 32:Nat):Int):=by rw [u8_and31 (x:=(f:Int)) (by omega) (by omega)];omega
  have KS:=Lib.hid (fun W=>sizeOf_some (f % 32) s W hs)
  have hs8:=sizeH_le hs
  have e1:decide ((k:Int)<0)=false:=decide_eq_false (by omega)
  have e2:¬ n<k:=by omega
  have e3:((k:Int) == (n:Int))=false:=by rw [beq_eq_false_iff_ne];omega
  have e4:n - (k+1)<s:=by omega
  have e5:((n - (k+1):Nat):Int)<(s:Int):=by omega
  clear hr hf hs hl
  go_enter Tryz.func115,Tryz.ntmps115
  go_wp2_with fail
  go_quiet (fail)
  try simp only [e31]
  go_wp2_with fail
  refine (KS.out _).mono ?_
  rintro x w1 ⟨rfl,rfl⟩
  go_wp2_with fail
  all_goals
    refine bodyPost_ret (results_tmp5 rfl _ _ _) rfl ?_
    exact ⟨by rw [E.out];rfl,below_drewN (Below.refl _ _) _⟩
theorem get_ok (b o n cap k f s : Nat) (l : List Nat) (w : World) (hl : l.length = n) (hn : n ≤ 1000000) (hc : n ≤ cap) (hk : k < n) (hf : l.getD k 0 = f) (hf2 : f < 256) (hb : ∀ x ∈ l, x < 256) (hr : RdV w (some ⟨b, o, none⟩) (bc l)) (hs : sizeH (f % 32) = some s) (hg : ¬ n - k - 1 < s) :
    Calls Tryz.prog 115 #[.slice (some ⟨b, o, none⟩) n cap, .int .i64 (k : Int)] w (GetR l (k : Int) w) := by
  have E := Lib.hid (show getN l (k : Int) = (f / 32, f % 32, (if f % 32 < 24 then f % 32 else natB ((l.drop (k + 1)).take s)), k + 1 + s, 0) by rw [getN_in l k f (by omega) hf, hs]; simp only []; rw [if_neg (by omega)])
  have c0 : w.cell? ⟨b, o + k, none⟩ = some (.int .u8 (f : Int)) := by rw [hr.at k (by rw [bc_len]; omega), bc_get l k (by omega), hf]
  have e31 : bits .and .u8 (f : Int) 31 = ((f % 32 : Nat) : Int) := by rw [u8_and31 (x := (f : Int)) (by omega) (by omega)]; omega
  have KS := Lib.hid (fun W => sizeOf_some (f % 32) s W hs)
  have hs8 := sizeH_le hs
  have KN := Lib.hid (fun W c ad (h : RdV W ad (bc ((l.drop (k + 1)).take s))) => hnum_any (f % 32) s ad c ((l.drop (k + 1)).take s) W hs (by rw [List.length_take, List.length_drop]; omega) (fun x hx => hb x (List.mem_of_mem_drop (List.mem_of_mem_take hx))) h)
  have HR := Lib.hid hr
  generalize (if f % 32 < 24 then f % 32 else natB ((l.drop (k + 1)).take s)) = V at E KN
  have e1 : decide ((k : Int) < 0) = false := decide_eq_false (by omega)
  have e2 : ¬ n < k := by omega
  have e3 : ((k : Int) == (n : Int)) = false := by rw [beq_eq_false_iff_ne]; omega
  have e4 : ¬ n - (k + 1) < s := by omega
  have e5 : ¬ ((n - (k + 1) : Nat) : Int) < (s : Int) := by omega
  have e6 : s ≤ cap - (k + 1) := by omega
  clear hr hf hs hl hb
  go_enter Tryz.func115, Tryz.ntmps115
  go_wp2_with fail
  go_quiet (fail)
  try simp only [e31]
  go_wp2_with fail
  refine (KS.out _).mono ?_
  rintro x w1 ⟨rfl, rfl⟩
  go_wp2_with fail
  all_goals
    refine (KN.out _ _ _ ?_).mono ?_
    · first
      | (have h := (HR.out.drop (k + 1)).take s
         rw [bc_drop, bc_take] at h
         exact h)
      | (rw [show (l.drop (k + 1)).take s = [] from by rw [show s = 0 by omega]; rfl]; exact RdV.nil _ _)
    rintro x w2 ⟨rfl, h2⟩
    have B2 := Lib.hid h2
    clear h2
    go_wp2_with fail
    refine bodyPost_ret (results_tmp5 rfl _ _ _) rfl ?_
    exact ⟨by rw [E.out]; rfl, below_on (below_drewN (Below.refl _ _) _) B2.out⟩
theorem get_any (ad:Option Addr) (n cap:Nat) (l:List Nat) (k:Int) (w:World) (hl:l.length=n) (hn:n≤1000000) (hc:n≤cap) (hb:∀ x∈l,x<256) (hr:RdV w ad (bc l)) (hk:-9223372036854775808≤k∧k≤9223372036854775807) :
    Calls Tryz.prog 115 #[.slice ad n cap,.int .i64 k] w (GetR l k w):=by
  by_cases h1:k<0∨(n:Int)<k
  · exact get_arg ad n cap l k w hl hn hk h1
  by_cases h2:k=(n:Int)
  · subst h2;exact get_end ad n cap l w hl hn
  obtain ⟨j,rfl⟩:∃ j:Nat,k=j:=⟨k.toNat,by omega⟩
  have hj:j<n:=by omega
  obtain ⟨b,o,rfl,_⟩:=hr.shape (by rw [bc_len];omega)
  have hf2:l.getD j 0<256:=by
    rw [List.getD_eq_getElem?_getD,List.getElem?_eq_getElem (by omega)]
    exact hb _ (List.getElem_mem _)
  cases hs:sizeH (l.getD j 0 % 32) with
  | none=>exact get_none b o n cap j _ l w hl hn hc hj rfl hf2 hr hs
  | some s =>
    by_cases hg:n - j - 1<s
    · exact get_short b o n cap j _ s l w hl hn hc hj rfl hf2 hr hs hg
    · exact get_ok b o n cap j _ s l w hl hn hc hj rfl hf2 hb hr hs hg
end Go.Proofs.YtnacbakcalcgaaaGreatDoor
namespace Go.Proofs.YtnacbakcalcgaaaGreatDoor
open Go.RowKit

end Go.Proofs.YtnacbakcalcgaaaGreatDoor
