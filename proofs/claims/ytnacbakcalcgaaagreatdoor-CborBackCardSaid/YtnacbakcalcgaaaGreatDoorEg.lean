/- Texts of the claim. -/
import Derived.Test.YtnacbakcalcgaaaGreatDoorEf
import Derived.Laws.OwnMore
set_option linter.unusedVariables false
set_option linter.unusedSimpArgs false
set_option maxHeartbeats 2000000
set_option maxRecDepth 100000
namespace Go.Proofs.YtnacbakcalcgaaaGreatDoor
open Go.RowKit
open Go.RowKit
open Go.RowKit
theorem run_append_none {P:Program} {w:World} (base:Nat) (t ty e:TypeId) (i:TypeInfo) (size:Nat) (ht:P.underlying t=some (.slice e)) (hi:P.info? e=some i)
    (v:Value) (n c:Nat) (xs:List Value) (hown:w.ownsRow base e size v n xs) :
    (Builtin.append_ #[t,t] ty #[v,.slice none 0 c]).run P w=.ok v w:=by
  rcases hown.2 with ⟨rfl,rfl⟩ | ⟨g,cap,cur,rfl,_,_,hnc,_⟩
  · simp [Builtin.append_,run_underlying ht,sizeOf,typeInfo,hi,Builtin.lenOf,Builtin.firstCells]
  · simp [Builtin.append_,run_underlying ht,sizeOf,typeInfo,hi,Builtin.lenOf,Builtin.firstCells,hnc,storeCells]
theorem wpl_append_none {P:Program} {w:World} {ops:Array Oper} {rest:List Oper} {o:Oper} {a:Act} {Q:Exit→Act→World→Prop} (hgd:o.guard=none) (s x:Operand) (t:TypeId)
    (ho:o.op=.call { callee:=.builtin .append,args:=#[s,x],argTypes:=#[t,t] })
    (base:Nat) (e:TypeId) (i:TypeInfo) (size:Nat) (ht:P.underlying t=some (.slice e)) (hi:P.info? e=some i)
    (v:Value) (n c:Nat) (xs:List Value) (hs:a.eval s=v) (hown:w.ownsRow base e size v n xs) (hx:a.eval x=.slice none 0 c)
    (h:wpList P ops Q rest (a.put o.dst v) w):wpList P ops Q (o::rest) a w:=by
  refine wpList_plain hgd fun K hK=>?_
  have hrun:=run_append_none (P:=P) (w:=w) base t o.type e i size ht hi v n c xs hown
  unfold Oper.wp
  simp [execOp,ho,resolve,invoke,builtin,hs,hx,hrun,Result.andThen]
  exact hK _ _ h
theorem wpl_append_rd {w:World} {ops:Array Oper} {rest:List Oper} {o:Oper} {a:Act} {Q:Exit→Act→World→Prop} (hgd:o.guard=none) (s x:Operand)
    (ho:o.op=.call { callee:=.builtin .append,args:=#[s,x],argTypes:=#[23,23] }) (B:Nat) (v:Value) (xs:List Nat) (hs:a.eval s=v) (hown:Own B w v xs)
    (ad:Option Addr) (m c:Nat) (ys:List Nat) (hx:a.eval x=.slice ad m c) (hy:Okl ys) (hyl:ys.length=m) (hr:Rd w ad ys) (hl:xs.length+m≤1000000000) (hB:B≤w.heap.size)
    (h:∀ v' w',Own B w' v' (xs++ys)→Below B w w'→wpList Tryz.prog ops Q rest (a.put o.dst v') w'):wpList Tryz.prog ops Q (o::rest) a w:=by
  obtain ⟨i0,hi,hz0,hz1,hz2⟩:=info_parts info_u32
  cases ad with
  | none =>
    have hm:m=0:=by
      rcases Nat.eq_zero_or_pos m with h0 | h0
      · exact h0
      · obtain ⟨b,o',e,_⟩:=hr 0 (by omega)
        cases e
    subst hm
    obtain rfl:ys=[]:=List.eq_nil_of_length_eq_zero hyl
    refine wpl_append_none hgd s x 23 ho B 51 i0 1 Tryz.underlying23 hi v xs.length c (xs.map lv) hs hown.row hx ?_
    exact h v w (by rw [List.append_nil];exact hown) (Below.refl _ _)
  | some ad =>
    refine wpList_append_own w hgd s x 23 ho B 51 i0 (.int .u32 0) 1 4 Tryz.underlying23 hi hz0 hz1 hz2 rfl (by decide) v xs.length (xs.map lv) hs hown.row ad m c (ys.map lv) hx (by simp [hyl]) ?_ ?_ (by unfold maxLen;omega) (by omega) hB ?_
    · intro j u hj
      have hjl:j<ys.length:=by
        rcases Nat.lt_or_ge j ys.length with h1 | h1
        · exact h1
        · rw [List.getElem?_eq_none (by simpa using h1)] at hj;cases hj
      obtain ⟨b,o',e,hlt,hc⟩:=hr j hjl
      cases e
      have e2:(Addr.add ⟨b,o',none⟩ j)=⟨b,o'+j,none⟩:=by unfold Addr.add;split <;> simp_all
      rw [e2,hc]
      rw [List.getElem?_map,List.getElem?_eq_getElem hjl] at hj
      simp only [Option.map_some,Option.some.injEq] at hj
      rw [← hj];simp [lv,List.getD,hjl]
    · intro u hu
      obtain ⟨y,_,rfl⟩:=List.mem_map.1 hu
      rfl
    · intro v' w' hown' hgr _
      refine h v' w' ?_ ((Below.refl _ _).grown hgr hB hown.blockGe)
      have e:xs.map lv++ys.map lv=(xs++ys).map lv:=by simp
      rw [e] at hown'
      have hl2:xs.length+m=(xs++ys).length:=by simp [hyl]
      exact own_of_row hown' (hown.1.append hy)
def SameRel (n:Nat) (w:World) (i:Value) (wr:World):Prop:=∃ (k q:Nat),k≤n∧i=.int .i64 (k:Int)∧wr=w.drewN q
theorem same_any (ad:Option Addr) (n cap:Nat) (xs:List Nat) (ad':Option Addr) (cap':Nat) (w:World) (hn:xs.length=n) (hcap:n≤cap) (hcap':n≤cap') (hm:n≤1000000000) (hr:Rd w ad xs) (hr':Rd w ad' xs) :
    Calls Tryz.prog 63 #[.slice ad n cap,.slice ad' n cap'] w fun e w'=>e=.returned (.bool true)∧∃ q,w'=w.drewN q:=by
  have HN:=Lib.hid hn;clear hn
  go_enter Tryz.func63,Tryz.ntmps63
  go_wp2_with fail
  go_loopw [5] (fun i wr=>SameRel n w i wr) (fun i _=>n - (intOf i).toNat)
  case atStart=>exact ⟨0,0,Nat.zero_le _,rfl,rfl⟩
  case round =>
    obtain ⟨k,q,hk,rfl,rfl⟩:=hrel
    by_cases hkn:k<n
    · obtain ⟨g1,o1,rfl,_,hc1⟩:=hr k (by rw [HN.out];exact hkn)
      obtain ⟨g2,o2,rfl,_,hc2⟩:=hr' k (by rw [HN.out];exact hkn)
      generalize xs.getD k 0=x at *
      have hkn':(k:Int)<(n:Int):=by omega
      go_wp2
      go_quiet (fail)
      go_wp2
      go_roundw
      case rel=>exact ⟨k+1,_,hkn,by go_num,rfl⟩
      case measure=>simp [intOf];omega
    · have hkn':¬ ((k:Int)<(n:Int)):=by omega
      go_wp2
      go_ret
      exact ⟨rfl,q,rfl⟩
theorem val_zeros (k:Nat):val (List.replicate k 0)=0:=by
  induction k with
  | zero=>rfl
  | succ k ih=>rw [List.replicate_succ];simp [val,ih]
theorem val_behind (xs:List Nat) (k:Nat):val (xs++List.replicate k 0)=val xs:=by rw [val_append,val_zeros];simp
section
variable {w0 w : World} {l : List Ent} {v1 v2 : Value} {L1 L2 N1 N2 : Nat} {xs ys : List Nat}
end
theorem bitsN_bounds {N:Nat} (h:N ≠ 0):∃ t,bitsN N=t+1∧2 ^ t≤N∧N<2 ^ (t+1):=by
  have hl:(limbs N).length ≠ 0:=fun h0=>h ((limbs_nil_iff N).1 (List.eq_nil_of_length_eq_zero h0))
  obtain ⟨t,ht⟩:∃ t,(limbs N).length=t+1:=⟨(limbs N).length - 1,by omega⟩
  have hx:=(limbs_ok N).getD t
  rw [bitsN_top ht]
  have h1:=limbs_top ht
  have hv:=val_limbs N
  have hs:val (limbs N)=val ((limbs N).take t)+B32 ^ t*(limbs N).getD t 0:=by
    have:=val_take_succ (limbs N) t (by omega)
    rw [← ht,List.take_length] at this
    exact this
  have hlow:=val_lt ((limbs_ok N).take t)
  rw [List.length_take,Nat.min_eq_left (by omega)] at hlow
  rw [hv] at hs
  generalize (limbs N).getD t 0=d at *
  generalize val ((limbs N).take t)=lo at *
  rw [B32_eq] at hx
  have hb:=bitLen_bounds d d (Nat.le_refl _) (by omega) h1
  have e1:B32 ^ t=2 ^ (32*t):=by rw [Nat.pow_mul];rfl
  rw [e1] at hlow hs
  unfold blen
  generalize Lib.bitLen d=c at *
  obtain ⟨c',rfl⟩:∃ c',c=c'+1:=⟨c - 1,by omega⟩
  rw [Nat.add_sub_cancel] at hb
  refine ⟨32*t+c',by omega,?_,?_⟩
  · rw [Nat.pow_add,hs]
    have:=Nat.mul_le_mul_left (2 ^ (32*t)) hb.2.1
    exact Nat.le_trans this (Nat.le_add_left _ _)
  · rw [show 32*t+c'+1=32*t+(c'+1) by omega,Nat.pow_add,hs]
    have:=Nat.mul_le_mul_left (2 ^ (32*t)) (show d+1≤2 ^ (c'+1) from hb.2.2)
    rw [Nat.mul_add,Nat.mul_one] at this
    exact Nat.lt_of_lt_of_le (Nat.add_lt_add_right hlow _) (by rw [Nat.add_comm];exact this)
theorem Okd.append {l m:List Nat} (h:Okd l) (k:Okd m):Okd (l++m):=by
  intro y hy;rcases List.mem_append.1 hy with hy | hy
  · exact h y hy
  · exact k y hy
theorem tenN_ne (n:Nat):tenN n ≠ 0:=Nat.pos_iff_ne_zero.1 (Nat.pow_pos (by decide))
end Go.Proofs.YtnacbakcalcgaaaGreatDoor
