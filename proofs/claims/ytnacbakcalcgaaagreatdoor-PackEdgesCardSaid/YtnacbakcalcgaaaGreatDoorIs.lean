/- Texts of the claim. -/
import Derived.Test.YtnacbakcalcgaaaGreatDoorIr
set_option linter.unusedVariables false
set_option linter.unusedSimpArgs false
set_option maxHeartbeats 4000000
set_option maxRecDepth 100000
namespace Go.Proofs.YtnacbakcalcgaaaGreatDoor
open Go.RowKit Go.Lib Go.Sort
theorem assert_errnoC (x:Int) (W:World):(Instr.typeAssert (.iface 32 (.int .i64 x)) 20 32 false).run Tryz.prog W=.ok (.int .i64 x) W:=by kernel_rfl
def DecC (r:MT ⊕ Int) (w:World) (e:Ending) (w':World):Prop :=
  match r with
  | .inl t=>∃ t':MT,e=.returned (.tuple #[t'.c.val,.int .i64 0])∧t'.bare=t∧Rep w' t'∧Below w.heap.size w w'
  | .inr x=>e=.returned (.tuple #[.agg #[.int .i64 0,.bool false,.bool false,.slice none 0 0,.int .i64 0,.string ⟨#[]⟩,.slice none 0 0,.slice none 0 0],.int .i64 x])∧Below w.heap.size w w'
theorem DecC.no {r:MT ⊕ Int} {w w':World} {e:Ending} {x:Int} (h:r=.inr x) (he:e=.returned (.tuple #[.agg #[.int .i64 0,.bool false,.bool false,.slice none 0 0,.int .i64 0,.string ⟨#[]⟩,.slice none 0 0,.slice none 0 0],.int .i64 x])) (hb:Below w.heap.size w w'):DecC r w e w':=by
  subst h;exact ⟨he,hb⟩
def finC (R:RC MT):MT ⊕ Int:=match R with
  | .inr x=>.inr x
  | .inl (t,r,_)=>if r=[] then .inl t else .inr 2

theorem lt_bits (N:Nat):N<2 ^ bitsN N:=by
  rcases Nat.eq_zero_or_pos N with rfl | h
  · exact Nat.pow_pos (by decide)
  · obtain ⟨t,h1,_,h3⟩:=bitsN_bounds (Nat.ne_of_gt h)
    rw [h1];exact h3

theorem wpl_putR (W:World) {ops:Array Oper} {rest:List Oper} {o:Oper} {a:Act} {Q:Exit→Act→World→Prop}
    (hg:o.guard=none) (s x:Operand) (hop:o.op=.call { callee:=.builtin .append,args:=#[s,x],argTypes:=#[22,22] })
    (B:Nat) (v:Value) (n:Nat) (xs:List Nat) (hs:a.eval s=v) (hown:W.ownsRow B 5 1 v n (bc xs)) (hB:B≤W.heap.size) (ad:Option Addr) (k c:Nat) (hx:a.eval x=.slice ad k c)
    (ys:List Nat) (hk:ys.length=k) (hr:RdV W ad (bc ys)) (h0:ad=none→c=0) (hn:n+k≤1000000000)
    (h:∀ v' w',w'.ownsRow B 5 1 v' (n+k) (bc (xs++ys))→W.grownBy w' v.ownBlock→wpList Tryz.prog ops Q rest (a.put o.dst v') w') :
    wpList Tryz.prog ops Q (o::rest) a W:=by
  refine wpl_appV Tryz.underlying22 info_u8 rfl (by decide) (by decide) _ hg s x hop B v n (bc xs) hs hown ad k c (bc ys) hx (by rw [bc_len];omega) hr (bc_one _) h0 hn hB ?_
  intro v' w' h1 h2
  exact h v' w' (by rw [bc_app];exact h1) h2
theorem own_monoB {w:World} {B B':Nat} {e:TypeId} {size:Nat} {v:Value} {n:Nat} {vs:List Value} (h:w.ownsRow B e size v n vs) (hB:B'≤B):w.ownsRow B' e size v n vs:=by
  refine ⟨h.1,?_⟩
  rcases h.2 with h2 | ⟨g,cap,cur,e,h3,h4⟩
  · exact .inl h2
  · exact .inr ⟨g,cap,cur,e,Nat.le_trans hB h3,h4⟩

end Go.Proofs.YtnacbakcalcgaaaGreatDoor
namespace Go.Proofs.YtnacbakcalcgaaaGreatDoor
open Go.RowKit Go.Sort
def DB (w:World):Prop:=∀ j,j<32→w.cell? ⟨0,j,none⟩=some (.int .u8 ((Lib.deBruijn32tab.getD j 0:Nat):Int))
theorem cell_lt {w:World} {a:Addr} {v:Value} (h:w.cell? a=some v):a.block<w.heap.size:=by
  rcases Nat.lt_or_ge a.block w.heap.size with h1 | h1
  · exact h1
  · simp [World.cell?,Array.getElem?_eq_none h1] at h
theorem DB.below {w w':World} (h:DB w) (hb:Below w.heap.size w w'):DB w':=fun j hj=>(hb.cell (cell_lt (h j hj))).trans (h j hj)
theorem u32_and_nat (a b:Nat) (ha:a<4294967296) (hb:b<4294967296):bits BinOp.and IntKind.u32 (a:Int) (b:Int)=((a &&& b:Nat):Int):=by
  have hx:a &&& b<2 ^ 32:=Nat.and_lt_two_pow _ (by omega)
  have h1:(BitVec.ofInt 32 (a:Int)).toNat=a:=by rw [BitVec.ofInt_natCast,BitVec.toNat_ofNat];exact Nat.mod_eq_of_lt (by omega)
  have h2:(BitVec.ofInt 32 (b:Int)).toNat=b:=by rw [BitVec.ofInt_natCast,BitVec.toNat_ofNat];exact Nat.mod_eq_of_lt (by omega)
  show IntKind.u32.wrap ((BitVec.ofInt 32 (a:Int) &&& BitVec.ofInt 32 (b:Int)).toNat:Int)=_
  rw [BitVec.toNat_and,h1,h2,IntWalk.u32_in _ (by omega)]
theorem tz_ctz {x:Nat} (h0:x ≠ 0) (hx:x<4294967296):Lib.ctz 32 x=tz x:=by
  obtain ⟨m,hm,_⟩:=Lib.ctzFrom_spec 32 x (by omega) hx
  have e:Lib.ctz 32 x=Lib.ctzFrom 32 x:=by simp [Lib.ctz,h0]
  rw [e]
  exact (tz_unique (o:=2*m+1) (by rw [Nat.mul_comm];exact hm) (by omega)).1.symm
theorem tz32_core (x k idx:Nat) (w:World) (hx0:((x:Int) == 0)=false)
    (key:bits BinOp.and IntKind.u32 (x:Int) (-(x:Int) % 4294967296)*125613361 % 4294967296 / 134217728=(idx:Int))
    (hi:idx<32) (hk:k<32) (hcell:w.cell? ⟨0,idx,none⟩=some (.int .u8 (k:Int))) :
    Calls Tryz.prog 199 #[.int .u32 (x:Int)] w fun e w'=>e=.returned (.int .i64 (k:Int))∧w'=w:=by
  go_enter Tryz.func199,Tryz.ntmps199
  go_wp2_with (simp only [key])
  go_ret
  exact ⟨rfl,rfl⟩
theorem tz32_any (x:Nat) (w:World) (h0:x ≠ 0) (hx:x<4294967296) (hT:DB w) :
    Calls Tryz.prog 199 #[.int .u32 (x:Int)] w fun e w'=>e=.returned (.int .i64 ((tz x:Nat):Int))∧w'=w:=by
  obtain ⟨hlow,hk⟩:=Lib.lowest_bit 32 x h0 hx
  obtain ⟨hi,htab⟩:=Lib.deBruijn32_at _ hk
  have hcell:=hT _ hi
  rw [htab] at hcell
  rw [tz_ctz h0 hx] at *
  have e1:-(x:Int) % 4294967296=((4294967296 - x:Nat):Int):=by omega
  refine tz32_core x _ _ w (by rw [beq_eq_false_iff_ne];omega) ?_ hi hk hcell
  have h2:x &&& (4294967296 - x)=2 ^ tz x:=hlow
  have hlt:2 ^ tz x<4294967296:=by rw [← h2];exact Nat.lt_of_le_of_lt Nat.and_le_left hx
  rw [e1,u32_and_nat x _ hx (by omega),h2]
  generalize 2 ^ tz x=a
  rw [Int.natCast_ediv,Int.natCast_emod,Int.natCast_mul]
  rfl
theorem zeroBits_any (ad:Option Addr) (n cap:Nat) (xs:List Nat) (w:World) (hn:xs.length=n) (hcap:n≤cap) (hm:n≤1000000) (ho:Okl xs) (hr:Rd w ad xs) (hv:val xs ≠ 0) (hT:DB w) :
    Calls Tryz.prog 164 #[.slice ad n cap] w fun e w'=>e=.returned (.int .i64 ((tz (val xs):Nat):Int))∧w'=w:=by
  have HN:=Lib.hid hn;clear hn
  have HV:=Lib.hid hv;clear hv
  have HT:=Lib.hid hT;clear hT
  go_enter Tryz.func164,Tryz.ntmps164
  go_wp2
  go_loop [3] (fun i=>∃ k:Nat,i=.int .i64 (k:Int)∧k<n∧∀ j,j<k→xs.getD j 0=0) (fun i=>n - (intOf i).toNat)
  case atStart =>
    refine ⟨0,rfl,?_,fun j hj=>by omega⟩
    rcases Nat.eq_zero_or_pos n with h0 | h0
    · have hx:xs=[]:=List.eq_nil_of_length_eq_zero (by rw [HN.out];exact h0)
      exact absurd (by rw [hx];rfl) HV.out
    · exact h0
  case round =>
    obtain ⟨k,rfl,hk,hz⟩:=hrel
    obtain ⟨b,o,rfl,_,hc⟩:=hr k (by rw [HN.out];exact hk)
    have hxb:=ho.getD k
    have HZ:=Lib.hid hz;clear hz
    generalize hx:xs.getD k 0=x at *
    have HX:=Lib.hid hx;clear hx
    by_cases h0:x=0
    · have hnext:Hid (k+1<n∧∀ j,j<k+1→xs.getD j 0=0):=by
        have hz2:∀ j,j<k+1→xs.getD j 0=0:=fun j hj=>by
          by_cases h:j=k
          · rw [h,HX.out,h0]
          · exact HZ.out j (by omega)
        refine ⟨?_,hz2⟩
        apply Classical.byContradiction
        intro hc2
        apply HV.out
        have:val (xs.take n)=0:=by
          have key:∀ i,i≤n→val (xs.take i)=0:=by
            intro i
            induction i with
            | zero=>intro _;rfl
            | succ i ih =>
              intro hi
              rw [val_take_succ xs i (by rw [HN.out];omega),ih (by omega),hz2 i (by omega)];simp
          exact key n (Nat.le_refl _)
        rw [← HN.out,List.take_length] at this
        exact this
      subst h0
      go_wp2
      go_round
      case rel=>exact ⟨k+1,by go_num,hnext.out.1,hnext.out.2⟩
      case measure=>simp [intOf];omega
    · have hxB:x<4294967296:=hxb
      have h0b:((x:Int) == 0)=false:=by rw [beq_eq_false_iff_ne];omega
      have HTZ:=Lib.hid (tz_limb HZ.out HX.out h0 hxb)
      have KT:=Lib.hid (tz32_any x w h0 hxB HT.out)
      have htb:=HTZ.out.2
      generalize tz x=q at *
      go_wp2_with fail
      refine KT.out.mono ?_
      rintro r w1 ⟨rfl,rfl⟩
      go_wp2
      go_ret
      exact ⟨ret1_eq (by rw [HTZ.out.1];push_cast;rfl),rfl⟩
theorem or_low {a y k:Nat} (h:a<2 ^ k) (hs:a+y*2 ^ k<18446744073709551616):bits BinOp.or IntKind.u64 (a:Int) ((y*2 ^ k:Nat):Int)=((a+y*2 ^ k:Nat):Int):=by
  rw [bits_or_u64_nat a _ (by omega) (by omega),Nat.or_comm,nat_join k _ a (Nat.mul_mod_left _ _) h,Nat.add_comm]
theorem or_zero (a:Nat) (h:a<18446744073709551616):bits BinOp.or IntKind.u64 0 (a:Int)=(a:Int):=by
  have:=bits_or_u64_nat 0 a (by omega) h
  rw [Nat.zero_or] at this
  exact this
theorem min_shift {x d:Nat} (h:x*2 ^ d<18446744073709551616):x*2 ^ min d 64=x*2 ^ d:=by
  rcases Nat.le_total d 64 with h1 | h1
  · rw [Nat.min_eq_left h1]
  · have h2:2 ^ 64≤2 ^ d:=Nat.pow_le_pow_right (by decide) h1
    have h3:x=0:=by
      rcases Nat.eq_zero_or_pos x with h3 | h3
      · exact h3
      · have:=Nat.le_mul_of_pos_left (2 ^ d) h3
        omega
    rw [h3,Nat.zero_mul,Nat.zero_mul]
def WFRel (n m:Nat) (xs:List Nat) (w:World) (v i:Value) (wr:World):Prop :=
  ∃ k:Nat,i=.int .i64 (k:Int)∧m / 32≤k∧k≤n∧v=.int .u64 ((val (xs.take k) / 2 ^ m:Nat):Int)∧wr=w
theorem wordFrom_any (ad:Option Addr) (n cap:Nat) (xs:List Nat) (m:Nat) (w:World) (hn:xs.length=n) (hcap:n≤cap) (hm:n≤1000000) (ho:Okl xs) (hr:Rd w ad xs) (h64:val xs / 2 ^ m<18446744073709551616) (hmn:m / 32≤n) :
    Calls Tryz.prog 165 #[.slice ad n cap,.int .i64 (m:Int)] w fun e w'=>e=.returned (.int .u64 ((val xs / 2 ^ m:Nat):Int))∧w'=w:=by
  have HN:=Lib.hid hn;clear hn
  have HS:=Lib.hid (fun i (hi:i<n) (hmi:m / 32≤i)=>from_step (n:=m) (x:=xs.getD i 0) ho (show i<xs.length by rw [HN.out];exact hi) rfl (by omega))
  have HLE:=Lib.hid (fun i (hi:i≤n)=>Nat.lt_of_le_of_lt (from_le (xs:=xs) m (show i≤xs.length by rw [HN.out];exact hi)) h64)
  have hst:=from_start ho m
  have HST:=Lib.hid hst;clear hst
  go_enter Tryz.func165,Tryz.ntmps165
  go_wp2
  go_loopw [4,5] (fun v i wr=>WFRel n m xs w v i wr) (fun _ i _=>n - (intOf i).toNat)
  case atStart=>exact ⟨m / 32,by push_cast;rfl,Nat.le_refl _,hmn,by rw [HST.out];rfl,rfl⟩
  case round =>
    obtain ⟨k,rfl,hmk,hk,rfl,rfl⟩:=hrel
    by_cases hkn:k<n
    · obtain ⟨b,o,rfl,_,hc⟩:=hr k (by rw [HN.out];exact hkn)
      have hxb:=ho.getD k
      rw [B32_eq] at hxb
      have hs:=HS.out k hkn hmk
      have hle:=HLE.out (k+1) hkn
      generalize xs.getD k 0=x at *
      have hlt':(k:Int)<(n:Int):=by omega
      have hw1:IntKind.i64.wrap (32*(k:Int))=32*(k:Int):=IntWalk.i64_in _ (by omega)
      by_cases hat:32*k<m
      · obtain ⟨hz,hnx⟩:=hs.1 hat
        rw [hz]
        obtain ⟨d,hd⟩:∃ d,m=32*k+d:=⟨m - 32*k,by omega⟩
        have hneg:32*(k:Int) - (m:Int)<0:=by omega
        have hsub:-(32*(k:Int) - (m:Int))=(d:Int):=by omega
        have hx2:x / 2 ^ (m - 32*k)≤x:=Nat.div_le_self _ _
        rw [show m - 32*k=d by omega] at hnx hx2
        have HNX:=Lib.hid hnx
        have hsh:(x:Int) / 2 ^ d=((x / 2 ^ d:Nat):Int):=by push_cast;rfl
        have HOZ:=Lib.hid (or_zero (x / 2 ^ d) (by omega))
        clear hnx hs hz
        go_wp2_with fail
        go_roundw
        case rel=>exact ⟨k+1,by go_num,by omega,by omega,by rw [HNX.out,show (-(32*(k:Int) - (32*(k:Int)+(d:Int)))).toNat=d by omega,hsh,HOZ.out],rfl⟩
        case measure=>simp [intOf];omega
      · obtain ⟨hl,hnx⟩:=hs.2 (by omega)
        obtain ⟨d,hd⟩:∃ d,32*k=m+d:=⟨32*k - m,by omega⟩
        have hdi:32*(k:Int) - (m:Int)=(d:Int):=by omega
        rw [show 32*k - m=d by omega] at hnx hl
        have HNX:=Lib.hid hnx
        have hsum:val (xs.take k) / 2 ^ m+x*2 ^ d<18446744073709551616:=by rw [← hnx];exact hle
        have HOZ:=Lib.hid (or_low hl hsum)
        have hsh:IntKind.u64.wrap ((x:Int)*2 ^ min d 64)=((x*2 ^ d:Nat):Int):=by
          have e1:x*2 ^ min d 64=x*2 ^ d:=min_shift (Nat.lt_of_le_of_lt (Nat.le_add_left _ _) hsum)
          have e:(x:Int)*2 ^ min d 64=((x*2 ^ d:Nat):Int):=by rw [← e1];push_cast;rfl
          rw [e]
          have h2:x*2 ^ d<18446744073709551616:=Nat.lt_of_le_of_lt (Nat.le_add_left _ _) hsum
          generalize x*2 ^ d=Y at *
          exact IntWalk.u64_in _ (by omega)
        have HSH:=Lib.hid hsh
        have HD:=Lib.hid hd
        clear hnx hs hsum hsh hl hd
        have hvb:val (xs.take k) / 2 ^ m<18446744073709551616:=HLE.out k hk
        generalize val (xs.take k) / 2 ^ m=V at *
        go_wp2_with fail
        go_roundw
        case rel=>exact ⟨k+1,by go_num,by omega,by omega,by rw [HNX.out,HSH.out,HOZ.out],rfl⟩
        case measure=>simp [intOf];omega
    · have hlt':¬ (k:Int)<(n:Int):=by omega
      obtain rfl:k=n:=by omega
      have HX:Hid (xs.take k=xs):=by rw [← HN.out];exact List.take_length
      go_wp2
      go_ret
      exact ⟨by rw [HX.out];rfl,rfl⟩
end Go.Proofs.YtnacbakcalcgaaaGreatDoor
