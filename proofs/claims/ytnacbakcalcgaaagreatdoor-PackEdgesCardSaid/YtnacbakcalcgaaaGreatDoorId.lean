/- Texts of the claim. -/
import Derived.Test.YtnacbakcalcgaaaGreatDoorIc
import Derived.Lib.Repeat
import Derived.Deep.RegionHeld3
import Derived.Deep.DeepCutAuto
import Derived.Test.YtnacbakcalcgaaaGreatDoorShelf
import Derived.Lib.QuietBelow
import Derived.Lib.AppendIntMem
set_option linter.unusedVariables false
set_option linter.unusedSimpArgs false
set_option maxHeartbeats 4000000
set_option maxRecDepth 100000
namespace Go.Proofs.YtnacbakcalcgaaaGreatDoor
open Go.RowKit
open Go.RowKit
open Go.RowKit
open Go.RowKit
def chkB (neg:Bool) (xs:List Nat) (e:Int):Bool :=
  if xs.length=0 then !neg && decide (e=0) else decide (xs.length≤90∧xs.getD (xs.length - 1) 0 ≠ 0∧-1200≤e∧e≤1200∧val xs % 10 ≠ 0)
theorem chkB_nil {neg:Bool} {e:Int}:chkB neg [] e=(!neg && decide (e=0)):=rfl
theorem chkB_zero {neg:Bool} {e:Int} (h:chkB neg [] e=true):neg=false∧e=0:=by
  simpa [chkB] using h
theorem chkB_some {neg:Bool} {xs:List Nat} {e:Int} (h0:xs ≠ []) (h:chkB neg xs e=true):xs.length≤90∧xs.getD (xs.length - 1) 0 ≠ 0∧-1200≤e∧e≤1200∧val xs % 10 ≠ 0:=by
  unfold chkB at h
  rw [if_neg (fun h1=>h0 (List.eq_nil_of_length_eq_zero h1))] at h
  exact of_decide_eq_true h
theorem chkB_bounds {neg:Bool} {xs:List Nat} {e:Int} (h:chkB neg xs e=true):xs.length≤90∧-1200≤e∧e≤1200:=by
  by_cases h0:xs=[]
  · subst h0;obtain ⟨_,rfl⟩:=chkB_zero h;exact ⟨by simp,by omega,by omega⟩
  · obtain ⟨a,_,b,c,_⟩:=chkB_some h0 h;exact ⟨a,b,c⟩
theorem chkB_limbs {neg:Bool} {xs:List Nat} {e:Int} (ho:Okl xs) (h:chkB neg xs e=true):limbs (val xs)=xs:=by
  by_cases h0:xs=[]
  · subst h0;exact limbs_zero
  · refine limbs_val ho fun n hn=>?_
    have:=(chkB_some h0 h).2.1
    rw [hn] at this
    exact this
theorem chkB_mk {neg:Bool} {N:Nat} {e:Int} (h0:N % 10 ≠ 0) (h1:(limbs N).length≤90) (h2:-1200≤e) (h3:e≤1200):chkB neg (limbs N) e=true:=by
  have hne:N ≠ 0:=by intro h;rw [h] at h0;exact h0 rfl
  have hl:(limbs N).length ≠ 0:=fun h=>hne ((limbs_nil_iff N).1 (List.eq_nil_of_length_eq_zero h))
  unfold chkB
  rw [if_neg hl]
  refine decide_eq_true ⟨h1,?_,h2,h3,by rw [val_limbs];exact h0⟩
  obtain ⟨t,ht⟩:∃ t,(limbs N).length=t+1:=⟨(limbs N).length - 1,by omega⟩
  rw [ht]
  exact limbs_top ht
def trimF:Nat→Nat→Nat
  | 0,_=>0
  | f+1,N=>if N % 10=0 then trimF f (N / 10)+1 else 0
def trimK (N:Nat):Nat:=trimF N N
def trimM (N:Nat):Nat:=N / tenN (trimK N)
theorem trimF_spec:∀ (f N:Nat),N≤f→N ≠ 0→N=N / tenN (trimF f N)*tenN (trimF f N)∧N / tenN (trimF f N) % 10 ≠ 0
  | 0,N,h,h0=>by omega
  | f+1,N,h,h0=>by
    unfold trimF
    by_cases h1:N % 10=0
    · rw [if_pos h1]
      obtain ⟨a,b⟩:=trimF_spec f (N / 10) (by omega) (by omega)
      have e:tenN (trimF f (N / 10)+1)=10*tenN (trimF f (N / 10)):=by rw [tenN_succ,Nat.mul_comm]
      rw [e,← Nat.div_div_eq_div_mul]
      refine ⟨?_,b⟩
      generalize N / 10 / tenN (trimF f (N / 10))=Q at *
      have h2:N=10*(N / 10):=by omega
      rw [Nat.mul_left_comm,← a]
      exact h2
    · rw [if_neg h1,tenN_zero]
      exact ⟨by simp,by simpa using h1⟩
theorem trim_spec {N:Nat} (h:N ≠ 0):N=trimM N*tenN (trimK N)∧trimM N % 10 ≠ 0:=trimF_spec N N (Nat.le_refl _) h
theorem trim_unique {N m k:Nat} (h:N=m*tenN k) (hm:m % 10 ≠ 0):trimM N=m∧trimK N=k:=by
  have hne:N ≠ 0:=by
    rw [h];exact Nat.mul_ne_zero (fun h0=>by rw [h0] at hm;exact hm rfl) (tenN_ne _)
  obtain ⟨a,b⟩:=trim_spec hne
  exact ten_unique (by rw [← a];exact h) b hm
def takes (l:List Nat) (c:Nat):Bool:=l.head? == some c
def rest (l:List Nat) (c:Nat):List Nat:=if takes l c then l.tail else l
def wholeBad (d:List Nat):Prop:=d=[]∨(1<d.length∧d.head? = some 48)
instance (d : List Nat) : Decidable (wholeBad d) := by unfold wholeBad; infer_instance
end Go.Proofs.YtnacbakcalcgaaaGreatDoor
namespace Go.Proofs.YtnacbakcalcgaaaGreatDoor
open Go.RowKit
open Go.RowKit
open Go.RowKit
theorem int_beq0 (q:Nat):((q:Int) == 0)=decide (q=0):=by
  by_cases h:q=0
  · subst h;rfl
  · rw [decide_eq_false h,beq_eq_false_iff_ne];omega
def TDRel (n:Nat) (xs:List Nat) (r i:Value):Prop :=
  ∃ (k q:Nat),k≤n∧i=.int .i64 ((k:Int) - 1)∧r=.int .u64 (q:Int)∧q<10∧q=val (xs.drop k) % 10
theorem td_step {V q x j n:Nat} {xs:List Nat} (hj:j<n) (hn:xs.length=n) (hq:q=val (xs.drop (j+1)) % 10) (hx:xs.getD j 0=x):wd q x % 10=val (xs.drop j) % 10:=by
  rw [val_drop_succ xs j (by omega),hx]
  unfold wd
  rw [B32_eq]
  generalize val (xs.drop (j+1))=V at *
  omega
theorem tenDivides_any (ad:Option Addr) (n cap:Nat) (xs:List Nat) (w:World) (hn:xs.length=n) (hcap:n≤cap) (hm:n≤1000000000) (ho:Okl xs) (hr:Rd w ad xs) :
    Calls Tryz.prog 142 #[.slice ad n cap] w fun e w'=>e=.returned (.bool (decide (val xs % 10=0)))∧w=w':=by
  have HN:=Lib.hid hn;clear hn
  go_enter Tryz.func142,Tryz.ntmps142
  go_wp2
  go_loop [3,4] (fun r i=>TDRel n xs r i) (fun _ i=>(intOf i+1).toNat)
  case atStart=>exact ⟨n,0,Nat.le_refl _,rfl,rfl,by omega,by rw [List.drop_of_length_le (by rw [HN.out];exact Nat.le_refl _)];rfl⟩
  case round =>
    obtain ⟨k,q,hk,rfl,rfl,hq,he⟩:=hrel
    have HE:=Lib.hid he;clear he
    rcases k with _ | j
    · rw [show (((0:Nat):Int) - 1) = -1 from rfl]
      have hv:=HE.out
      rw [List.drop_zero] at hv
      have HV:=Lib.hid hv;clear hv
      go_wp2
      go_ret
      exact ⟨retb (by rw [← HV.out];exact int_beq0 q),rfl⟩
    · rw [show (((j+1:Nat):Int) - 1)=(j:Int) by omega]
      obtain ⟨b,o,rfl,_,hc⟩:=hr j (by rw [HN.out];omega)
      have hxb:=ho.getD j
      generalize hx:xs.getD j 0=x at *
      have HS:=Lib.hid (td_step (V:=0) (show j<n by omega) HN.out HE.out hx);clear hx
      have hqB:q<B32:=by rw [B32_eq];omega
      have hor:=wd_or hqB hxb
      have hwl:=wd_lt hqB hxb
      rw [B32_eq] at hxb
      clear hqB
      generalize wd q x=W at *
      go_wp2
      go_round
      case rel=>exact ⟨j,W % 10,by omega,rfl,by go_num,by omega,HS.out⟩
      case measure=>simp [intOf]
def nv (neg:Bool) (v:Value) (e:Int):Value:=.agg #[.bool neg,v,.int .i64 e]
def BoolBelow (b:Bool) (w:World) (e:Ending) (w':World):Prop:=e=.returned (.bool b)∧Below w.heap.size w w'
theorem BoolBelow.mk {a b:Bool} {w w':World} (h:a=b) (hb:Below w.heap.size w w'):BoolBelow b w (.returned (.bool a)) w':=⟨by rw [h],hb⟩
theorem chkB_long {neg:Bool} {xs:List Nat} {e:Int} (h:90<xs.length):chkB neg xs e=false:=by
  unfold chkB;rw [if_neg (by omega)];exact decide_eq_false (by omega)
theorem chkB_top {neg:Bool} {xs:List Nat} {e:Int} (h:xs.length ≠ 0) (h0:xs.getD (xs.length - 1) 0=0):chkB neg xs e=false:=by
  unfold chkB;rw [if_neg h];exact decide_eq_false (fun h1=>h1.2.1 h0)
theorem chkB_out {neg:Bool} {xs:List Nat} {e:Int} (h:xs.length ≠ 0) (h0:e < -1200∨1200<e):chkB neg xs e=false:=by
  unfold chkB;rw [if_neg h];exact decide_eq_false (by omega)
theorem chkB_tens {neg:Bool} {xs:List Nat} {e:Int} (h:xs.length ≠ 0) (h1:xs.length≤90) (h2:xs.getD (xs.length - 1) 0 ≠ 0) (h3:-1200≤e) (h4:e≤1200):chkB neg xs e = !decide (val xs % 10=0):=by
  unfold chkB;rw [if_neg h]
  by_cases h5:val xs % 10=0
  · rw [decide_eq_false (fun h6=>h6.2.2.2.2 h5),decide_eq_true h5];rfl
  · rw [decide_eq_true ⟨h1,h2,h3,h4,h5⟩,decide_eq_false h5];rfl
theorem check_any (neg:Bool) (ad:Option Addr) (n cap:Nat) (xs:List Nat) (e:Int) (w:World) (hn:xs.length=n) (hcap:n≤cap) (hm:n≤1000000000) (ho:Okl xs) (hr:Rd w ad xs) :
    Calls Tryz.prog 102 #[.agg #[.bool neg,.slice ad n cap,.int .i64 e]] w (BoolBelow (chkB neg xs e) w):=by
  have hbl:Below w.heap.size w (w.alloc (.cells #[.bool neg,.slice ad n cap,.int .i64 e] 25)):=(Below.refl _ _).alloc (Nat.le_refl _) _
  have HB:=Lib.hid hbl
  have KT:=Lib.hid (tenDivides_any ad n cap xs _ hn hcap hm ho (hr.below hbl))
  clear hbl
  by_cases h0:n=0
  · subst h0
    have hx:xs=[]:=List.eq_nil_of_length_eq_zero hn
    subst hx
    clear hr KT
    have HN:=Lib.hid hn;clear hn
    cases neg
    · have HC:=Lib.hid (chkB_nil (neg:=false) (e:=e))
      by_cases he:e=0
      · subst he
        go_enter Tryz.func102,Tryz.ntmps102
        go_wp2
        go_ret
        exact BoolBelow.mk (by rw [HC.out];rfl) HB.out
      · have he':(e == 0)=false:=by rw [beq_eq_false_iff_ne];exact he
        go_enter Tryz.func102,Tryz.ntmps102
        go_wp2
        go_ret
        exact BoolBelow.mk (by rw [HC.out];simp [he]) HB.out
    · have HC:=Lib.hid (chkB_nil (neg:=true) (e:=e))
      go_enter Tryz.func102,Tryz.ntmps102
      go_wp2
      go_ret
      exact BoolBelow.mk (by rw [HC.out];rfl) HB.out
  · have h0':xs.length ≠ 0:=by omega
    have hnb:((n:Int) == 0)=false:=by rw [beq_eq_false_iff_ne];omega
    by_cases h1:90<n
    · have HC:=Lib.hid (chkB_long (neg:=neg) (e:=e) (show 90<xs.length by omega))
      have h1':(90:Int)<(n:Int):=by omega
      have HN:=Lib.hid hn;clear hn h0'
      go_enter Tryz.func102,Tryz.ntmps102
      go_wp2
      go_ret
      exact BoolBelow.mk (by rw [HC.out]) HB.out
    · have h1':¬ (90:Int)<(n:Int):=by omega
      obtain ⟨b,o,rfl,hlt,hc⟩:=hr (n - 1) (by omega)
      have hoff:((n:Int) - 1).toNat=n - 1:=by omega
      have hc2:(w.alloc (.cells #[.bool neg,.slice (some ⟨b,o,none⟩) n cap,.int .i64 e] 25)).cell? ⟨b,o+(n - 1),none⟩=some (.int .u32 ((xs.getD (n - 1) 0:Nat):Int)):=by
        rw [HB.out.cell (p:=⟨b,o+(n - 1),none⟩) hlt];exact hc
      have hxb:xs.getD (n - 1) 0<4294967296:=ho.getD _
      by_cases h2:xs.getD (n - 1) 0=0
      · have HC:=Lib.hid (chkB_top (neg:=neg) (e:=e) h0' (by rw [hn];exact h2))
        rw [h2] at hc hc2
        have HN:=Lib.hid hn;clear hn h0' h2 hxb
        go_enter Tryz.func102,Tryz.ntmps102
        go_wp2
        go_ret
        exact BoolBelow.mk (by rw [HC.out]) HB.out
      · have h2':(((xs.getD (n - 1) 0:Nat):Int) == 0)=false:=by rw [beq_eq_false_iff_ne];omega
        by_cases h3:e < -1200∨1200<e
        · have HC:=Lib.hid (chkB_out (neg:=neg) (e:=e) h0' h3)
          have HN:=Lib.hid hn;clear hn h0' h2
          generalize xs.getD (n - 1) 0=x at *
          by_cases h4:e < -1200
          · clear h3
            go_enter Tryz.func102,Tryz.ntmps102
            go_wp2
            go_ret
            exact BoolBelow.mk (by rw [HC.out]) HB.out
          · have h5:1200<e:=by omega
            clear h3
            go_enter Tryz.func102,Tryz.ntmps102
            go_wp2
            go_ret
            exact BoolBelow.mk (by rw [HC.out]) HB.out
        · have h4:¬ e < -1200:=by omega
          have h5:¬ 1200<e:=by omega
          have HC:=Lib.hid (chkB_tens (neg:=neg) (e:=e) h0' (by omega) (by rw [hn];exact h2) (by omega) (by omega))
          have HN:=Lib.hid hn;clear hn h0' h2 h3
          generalize xs.getD (n - 1) 0=x at *
          go_enter Tryz.func102,Tryz.ntmps102
          go_wp2_with fail
          refine KT.out.mono ?_
          rintro e w' ⟨rfl,rfl⟩
          go_wp2
          go_ret
          exact BoolBelow.mk (by rw [HC.out]) HB.out
theorem bcell {W w1:World} (hb:Below W.heap.size W w1):(∀ b o,b<W.heap.size→w1.cell? ⟨b,o,none⟩=W.cell? ⟨b,o,none⟩)∧(∀ b o,b<W.heap.size→w1.frozen? ⟨b,o,none⟩=W.frozen? ⟨b,o,none⟩) :=
  ⟨fun b o h=>hb.cell (p:=⟨b,o,none⟩) h,fun b o h=>hb.frozen (p:=⟨b,o,none⟩) h⟩
def NumBelow (neg:Bool) (v:Value) (x:Int) (w:World) (e:Ending) (w':World):Prop:=e=.returned (.agg #[.bool neg,v,.int .i64 x])∧Below w.heap.size w w'
theorem orZero_yes (neg:Bool) (ad:Option Addr) (n cap:Nat) (xs:List Nat) (e:Int) (w:World) (hn:xs.length=n) (hcap:n≤cap) (hm:n≤1000000000) (ho:Okl xs) (hr:Rd w ad xs) (h:chkB neg xs e=true) :
    Calls Tryz.prog 80 #[.agg #[.bool neg,.slice ad n cap,.int .i64 e]] w (NumBelow neg (.slice ad n cap) e w):=by
  have hbl:Below w.heap.size w ((w.alloc (.cells #[.bool neg,.slice ad n cap,.int .i64 e] 25)).alloc (.cells #[.bool false,.slice none 0 0,.int .i64 0] 25)):=((Below.refl _ _).alloc (Nat.le_refl _) _).alloc (by simp) _
  have HB:=Lib.hid hbl
  have K:=Lib.hid (check_any neg ad n cap xs e _ hn hcap hm ho (hr.below hbl))
  clear hbl
  have H:=Lib.hid h;clear h
  have HN:=Lib.hid hn;clear hn
  go_enter Tryz.func80,Tryz.ntmps80
  go_wp2_with fail
  refine K.out.mono ?_
  rintro r w' ⟨rfl,hb⟩
  rw [H.out]
  obtain ⟨hc,hf⟩:=bcell hb
  have hz:w.heap.size+1<w'.heap.size:=by have:=hb.size;simp at this;omega
  have HB2:=Lib.hid hb;clear hb
  go_wp2
  have HB3:=HB.out.trans (HB2.out.mono (by simp;omega))
  exact bodyPost_ret (v:=.agg #[.bool neg,.slice ad n cap,.int .i64 e]) (by simp [results,Tryz.results80,go_sem,hc,hf,hz]) rfl ⟨rfl,((HB3.setCell (by simp) _).setCell (by simp) _).setCell (by simp) _⟩
def IntBelow (i:Int) (w:World) (e:Ending) (w':World):Prop:=e=.returned (.int .i64 i)∧Below w.heap.size w w'
def MadePost (w0:World) (l:List Ent) (L:Nat) (neg:Bool) (m:Nat) (e:Int) (ok:Bool) (r:Ending) (w':World):Prop :=
  ∃ v,r=.returned (.tuple #[.agg #[.bool neg,v,.int .i64 e],.bool ok])∧Ctx w0 w' (⟨v,L,m,limbs m⟩::l)
theorem ent_nil (w:World) (L:Nat):Ent.Ok w ⟨.slice none 0 0,L,0,limbs 0⟩:=⟨none,0,rfl,Nat.le_refl _,by simp [limbs_zero],by rw [limbs_zero];exact Okl.nil,by rw [limbs_zero];exact Rd.nil _ _,by rw [limbs_zero];rfl⟩
theorem Ctx.drop1 {w0 w:World} {l:List Ent} {x:Ent} (h:Ctx w0 w (x::l)):Ctx w0 w l:=⟨h.below,fun y hy=>h.all y (List.mem_cons_of_mem _ hy)⟩
theorem Ctx.low {w0 w w1:World} {l:List Ent} (h:Ctx w0 w l) (h1:Ctx w w1 l):Ctx w0 w1 l:=⟨below_on h.below h1.below,h1.all⟩
theorem Ctx.again {w0 w:World} {l:List Ent} (h:Ctx w0 w l):Ctx w w l:=⟨Below.refl _ _,h.all⟩
theorem Ctx.back {w0 w2 w1:World} {l:List Ent} (hb:Below w0.heap.size w0 w2) (h2:Ctx w2 w1 l):Ctx w0 w1 l:=⟨below_on hb h2.below,h2.all⟩
theorem Rd.setBox {w:World} {ad:Option Addr} {xs:List Nat} {g j:Nat} {x:Value} (h:Rd w ad xs) (hc:w.cell? ⟨g,j,none⟩=some x) (hx:∀ n:Int,x ≠ .int .u32 n) (v:Value):Rd (w.setCell ⟨g,j,none⟩ v) ad xs:=by
  intro i hi
  obtain ⟨b,o,e,hb,hcell⟩:=h i hi
  refine ⟨b,o,e,by simpa [World.setCell] using hb,?_⟩
  rw [World.cell?_setCell_other (h:=?_)]
  · exact hcell
  · intro heq
    rw [heq,hcell] at hc
    exact hx _ (Option.some.inj hc).symm
theorem Ctx.setBox {w0 w:World} {l:List Ent} {g j:Nat} {x:Value} (h:Ctx w0 w l) (hg:w0.heap.size≤g) (hc:w.cell? ⟨g,j,none⟩=some x) (hx:∀ n:Int,x ≠ .int .u32 n) (v:Value):Ctx w0 (w.setCell ⟨g,j,none⟩ v) l :=
  ⟨h.below.setCell hg v,fun y hy=>by
    obtain ⟨ad,cap,h1,h2,h3,h4,h5,h6⟩:=h.all y hy
    exact ⟨ad,cap,h1,h2,h3,h4,h5.setBox hc hx v,h6⟩⟩
theorem Ctx.box3 {w0 w:World} {l:List Ent} {g:Nat} {b:Bool} {a:Option Addr} {n c:Nat} {x:Int} (h:Ctx w0 w l) (hg:w0.heap.size≤g)
    (c0:w.cell? ⟨g,0,none⟩=some (.bool b)) (c1:w.cell? ⟨g,1,none⟩=some (.slice a n c)) (c2:w.cell? ⟨g,2,none⟩=some (.int .i64 x)) (v0 v1 v2:Value) :
    Ctx w0 (((w.setCell ⟨g,0,none⟩ v0).setCell ⟨g,1,none⟩ v1).setCell ⟨g,2,none⟩ v2) l:=by
  have d1:(w.setCell ⟨g,0,none⟩ v0).cell? ⟨g,1,none⟩=some (.slice a n c):=by rw [World.cell?_setCell_other (h:=by simp)];exact c1
  have d2:((w.setCell ⟨g,0,none⟩ v0).setCell ⟨g,1,none⟩ v1).cell? ⟨g,2,none⟩=some (.int .i64 x):=by
    rw [World.cell?_setCell_other (h:=by simp),World.cell?_setCell_other (h:=by simp)];exact c2
  exact ((h.setBox hg c0 (fun _=>by simp) v0).setBox hg d1 (fun _=>by simp) v1).setBox hg d2 (fun _=>by simp) v2
theorem make_zero {w0 w:World} {l:List Ent} {v:Value} {L:Nat} {xs:List Nat} (h:Ctx w0 w l) (i:Nat) (hi:l[i]? = some ⟨v,L,0,xs⟩) (hL:L≤1000000) (neg:Bool) (e:Int) :
    Calls Tryz.prog 155 #[.bool neg,v,.int .i64 e] w (MadePost w0 l L false 0 0 true):=by
  have hb1:Below w.heap.size w (w.alloc (.cells #[.bool false,.slice none 0 0,.int .i64 0] 25)):=(Below.refl _ _).alloc (Nat.le_refl _) _
  have h1:=h.step hb1
  have hW:=Lib.hid h.below.size
  have K:=Lib.hid (trim_c h1.again i hi (by omega))
  have H1:=Lib.hid h1.below
  clear h h1 hi hb1
  go_enter Tryz.func155,Tryz.ntmps155
  go_wp2_with fail
  refine K.out.mono ?_
  rintro r w1 ⟨t,m,k,rfl,q1,q2,_,_,h2⟩
  have hm:m=0:=by
    rcases Nat.mul_eq_zero.1 q1.symm with h | h
    · exact h
    · exact absurd h (tenN_ne _)
  subst hm
  have hv:=h2.get 0 rfl
  obtain ⟨ad,cap,rfl,_⟩:=hv
  rw [show (limbs 0).length=0 by rw [limbs_zero];rfl] at *
  obtain ⟨hc,hf⟩:=bcell h2.below
  have hz:w.heap.size<w1.heap.size:=by have:=h2.below.size;simp at this;omega
  have H2:=Lib.hid h2;clear h2 q1 q2
  go_wp2
  have H3:=Ctx.back H1.out H2.out
  refine bodyPost_ret (v:=.tuple #[.agg #[.bool false,.slice none 0 0,.int .i64 0],.bool true]) (by simp [results,Tryz.results155,go_sem,hc]) rfl ⟨_,rfl,?_⟩
  have H4:=H3.box3 hW.out (b:=false) (a:=none) (n:=0) (c:=0) (x:=0) (by simp [hc]) (by simp [hc]) (by simp [hc]) (.bool false) (.slice none 0 0) (.int .i64 0)
  exact (H4.drop1).push (ent_nil _ _)
theorem chkB_wide {neg:Bool} {m:Nat} {e:Int} (hm:m ≠ 0) (h:¬ ((limbs m).length≤90∧-1200≤e∧e≤1200)):chkB neg (limbs m) e=false:=by
  unfold chkB
  rw [if_neg (fun h0=>hm ((limbs_nil_iff m).1 (List.eq_nil_of_length_eq_zero h0)))]
  exact decide_eq_false (fun h1=>h ⟨h1.1,h1.2.2.1,h1.2.2.2.1⟩)
theorem make_no {w0 w:World} {l:List Ent} {v:Value} {L N:Nat} {xs:List Nat} (h:Ctx w0 w l) (i:Nat) (hi:l[i]? = some ⟨v,L,N,xs⟩) (hL:L≤1000000) (neg:Bool) (e:Int)
    (m k:Nat) (hN:N=m*tenN k) (hm:m % 10 ≠ 0) (hno:¬ ((limbs m).length≤90∧-1200≤e+(k:Int)∧e+(k:Int)≤1200)) (hE:-9223372036854775808≤e) :
    Calls Tryz.prog 155 #[.bool neg,v,.int .i64 e] w (MadePost w0 l L false 0 0 false):=by
  have hb1:Below w.heap.size w (w.alloc (.cells #[.bool false,.slice none 0 0,.int .i64 0] 25)):=(Below.refl _ _).alloc (Nat.le_refl _) _
  have h1:=h.step hb1
  have hW:=Lib.hid h.below.size
  have K:=Lib.hid (trim_c h1.again i hi (by omega))
  have H1:=Lib.hid h1.below
  have HB1:=Lib.hid hb1
  have hne:m ≠ 0:=by intro h0;rw [h0] at hm;exact hm rfl
  have HC:=Lib.hid (chkB_wide (neg:=neg) hne hno)
  have hlb:(((limbs m).length:Int) == 0)=false:=by
    rw [beq_eq_false_iff_ne]
    intro h0
    exact hne ((limbs_nil_iff m).1 (List.eq_nil_of_length_eq_zero (by omega)))
  have hN0:N ≠ 0:=by rw [hN];exact Nat.mul_ne_zero hne (tenN_ne _)
  have HM:=Lib.hid hm
  have HE:=Lib.hid hN
  have HLO:=Lib.hid hE
  clear h h1 hi hb1 hne hm hN hno hE
  by_cases he1:1200<e
  · go_enter Tryz.func155,Tryz.ntmps155
    go_wp2_with fail
    refine K.out.mono ?_
    rintro r w1 ⟨t,m',k',rfl,q1,q2,q3,hk4,h2⟩
    obtain ⟨rfl,rfl⟩:m=m'∧k=k':=ten_unique (by rw [← q1,← HE.out]) HM.out (q3 hN0)
    have hv:=h2.get 0 rfl
    obtain ⟨ad,cap,rfl,_⟩:=hv
    obtain ⟨hc,hf⟩:=bcell h2.below
    have hz:w.heap.size<w1.heap.size:=by have:=h2.below.size;simp at this;omega
    have H2:=Lib.hid h2;clear h2 q1 q2 q3
    generalize (limbs m).length=n at *
    go_wp2
    have H3:=Ctx.back H1.out H2.out
    refine bodyPost_ret (v:=.tuple #[.agg #[.bool false,.slice none 0 0,.int .i64 0],.bool false]) (by simp [results,Tryz.results155,go_sem,hc]) rfl ⟨_,rfl,?_⟩
    have H4:=H3.box3 hW.out (b:=false) (a:=none) (n:=0) (c:=0) (x:=0) (by simp [hc]) (by simp [hc]) (by simp [hc]) (.bool false) (.slice none 0 0) (.int .i64 0)
    exact (H4.drop1).push (ent_nil _ _)
  · go_enter Tryz.func155,Tryz.ntmps155
    go_wp2_with fail
    refine K.out.mono ?_
    rintro r w1 ⟨t,m',k',rfl,q1,q2,q3,hk4,h2⟩
    obtain ⟨rfl,rfl⟩:m=m'∧k=k':=ten_unique (by rw [← q1,← HE.out]) HM.out (q3 hN0)
    have hv:=h2.get 0 rfl
    obtain ⟨ad,cap,rfl,a2,a3,a4,a5,a6⟩:=hv
    obtain ⟨hc,hf⟩:=bcell h2.below
    have hz:w.heap.size<w1.heap.size:=by have:=h2.below.size;simp at this;omega
    have H2:=Lib.hid h2;clear h2 q1 q2 q3
    have hlo:=HLO.out
    have hsum:IntKind.i64.wrap (e+(k:Int))=e+(k:Int):=IntWalk.i64_in _ (by omega)
    clear hlo
    have KC:=Lib.hid (check_any neg ad (limbs m).length cap (limbs m) (e+(k:Int)) (w1.alloc (.cells #[.bool neg,.slice ad (limbs m).length cap,.int .i64 (e+(k:Int))] 25)) rfl a2 (by omega) a4 (a5.below ((Below.refl _ _).alloc (Nat.le_refl _) _)))
    clear a3 a4 a5 a6
    generalize hn:(limbs m).length=n at *
    have HN:=Lib.hid hn;clear hn
    go_wp2_with fail
    refine KC.out.mono ?_
    rintro r w2 ⟨rfl,hb2⟩
    rw [HC.out]
    obtain ⟨hc2,hf2⟩:=bcell hb2
    have hz2:w1.heap.size<w2.heap.size:=by have:=hb2.size;simp at this;omega
    have hzz:w.heap.size<w1.heap.size+1:=by omega
    have HB2:=Lib.hid hb2;clear hb2
    go_wp2
    have H3:=Ctx.back H1.out H2.out
    have H4:=(H3.step ((Below.refl _ _).alloc (Nat.le_refl _) (.cells #[.bool neg,.slice ad n cap,.int .i64 (e+(k:Int))] 25))).step HB2.out
    refine bodyPost_ret (v:=.tuple #[.agg #[.bool false,.slice none 0 0,.int .i64 0],.bool false]) (by simp [results,Tryz.results155,go_sem,hc,hc2,hz,hzz]) rfl ⟨_,rfl,?_⟩
    have H5:=H4.box3 hW.out (b:=false) (a:=none) (n:=0) (c:=0) (x:=0) (by simp [hc,hc2,hzz,hz,World.cell?_alloc_lt]) (by simp [hc,hc2,hzz,hz,World.cell?_alloc_lt]) (by simp [hc,hc2,hzz,hz,World.cell?_alloc_lt]) (.bool false) (.slice none 0 0) (.int .i64 0)
    exact (H5.drop1).push (ent_nil _ _)
end Go.Proofs.YtnacbakcalcgaaaGreatDoor
namespace Go.Proofs.YtnacbakcalcgaaaGreatDoor
open Go.RowKit Go.Sort
open Go.RowKit Go.Sort
structure NumOk (w:World) (neg:Bool) (ad:Option Addr) (n cap:Nat) (xs:List Nat) (e:Int):Prop where
  len:xs.length=n
  cap:n≤cap
  ok:Okl xs
  rd:Rd w ad xs
  chk:chkB neg xs e=true
theorem NumOk.below {w w':World} {neg:Bool} {ad:Option Addr} {n cap:Nat} {xs:List Nat} {e:Int} (h:NumOk w neg ad n cap xs e) (hb:Below w.heap.size w w'):NumOk w' neg ad n cap xs e :=
  ⟨h.len,h.cap,h.ok,h.rd.below hb,h.chk⟩
theorem NumOk.n90 {w:World} {neg:Bool} {ad:Option Addr} {n cap:Nat} {xs:List Nat} {e:Int} (h:NumOk w neg ad n cap xs e):n≤90:=by have:=(chkB_bounds h.chk).1;have:=h.len;omega
theorem NumOk.lo {w:World} {neg:Bool} {ad:Option Addr} {n cap:Nat} {xs:List Nat} {e:Int} (h:NumOk w neg ad n cap xs e):-1200≤e∧e≤1200:=(chkB_bounds h.chk).2
theorem NumOk.same {w:World} {neg:Bool} {ad:Option Addr} {n cap:Nat} {xs:List Nat} {e:Int} (h:NumOk w neg ad n cap xs e) (W:World) (hb:Below w.heap.size w W) :
    Calls Tryz.prog 80 #[.agg #[.bool neg,.slice ad n cap,.int .i64 e]] W (NumBelow neg (.slice ad n cap) e W) :=
  orZero_yes neg ad n cap xs e W h.len h.cap (by have:=h.n90;omega) h.ok (h.rd.below hb) h.chk
theorem below_drew {B:Nat} {a w:World} (h:Below B a w):Below B a w.drew:=h.trans ⟨rfl,rfl,rfl,Nat.le_refl _,fun _ _=>rfl⟩
def TB (w:World):Prop:=Lib.TabIs Tryz.prog w "internal/strconv.uint64pow10" .u64 Lib.pow10Tab
theorem TB.below {w w':World} (h:TB w) (hb:Below w.heap.size w w'):TB w':=Lib.tabBelow_of_tabIs h w' hb
end Go.Proofs.YtnacbakcalcgaaaGreatDoor
namespace Go.Proofs.YtnacbakcalcgaaaGreatDoor
open Go.RowKit Go.Sort
open Go.RowKit Go.Sort
open Go.RowKit Go.Sort

end Go.Proofs.YtnacbakcalcgaaaGreatDoor
