/- Texts of the claim. -/
import Derived.Test.YtijaphbccnadbaaGreatDoorUf
import Derived.Test.YtijaphbccnadbaaGreatDoorUb
import Derived.Deep.RegionHeld3
import Derived.Deep.DeepCutAuto
import Derived.Test.YtijaphbccnadbaaGreatDoorShelf
import Derived.Lib.QuietBelow
import Derived.Lib.DecodeN
import Derived.Lib.RuneBytes
import Derived.Lib.RuneCount
import Derived.Lib.Hide
set_option linter.unusedVariables false
set_option linter.unusedSimpArgs false
set_option maxHeartbeats 4000000
set_option maxRecDepth 100000
namespace Go.Proofs.YtijaphbccnadbaaGreatDoor
open Go.RowKit
open Go.RowKit
open Go.RowKit
theorem int_beq0 (q:Nat):((q:Int) == 0)=decide (q=0):=by
  by_cases h:q=0
  · subst h;rfl
  · rw [decide_eq_false h,beq_eq_false_iff_ne];omega
def TDRel (n:Nat) (xs:List Nat) (r i:Value):Prop :=
  ∃ (k q:Nat),k≤n∧i=.int .i64 ((k:Int) - 1)∧r=.int .u64 (q:Int)∧q<10∧q=val (xs.drop k) % 10
theorem td_step {V q x j n:Nat} {xs:List Nat} (hj:j<n) (hn:xs.length=n) (hq:q=val (xs.drop (j+1)) % 10) (hx:xs.getD j 0=x):wd q x % 10=val (xs.drop j) % 10:=by
  rw [val_drop_succ xs j (by omega),hx]
  unfold wd
  rw [B32_eq]
  generalize val (xs.drop (j+1))=V at *
  omega
theorem tenDivides_any (ad:Option Addr) (n cap:Nat) (xs:List Nat) (w:World) (hn:xs.length=n) (hcap:n≤cap) (hm:n≤1000000000) (ho:Okl xs) (hr:Rd w ad xs) :
    Calls Tryz.prog 139 #[.slice ad n cap] w fun e w'=>e=.returned (.bool (decide (val xs % 10=0)))∧w=w':=by
  have HN:=Lib.hid hn;clear hn
  go_enter Tryz.func139,Tryz.ntmps139
  go_wp2
  go_loop [3,4] (fun r i=>TDRel n xs r i) (fun _ i=>(intOf i+1).toNat)
  case atStart=>exact ⟨n,0,Nat.le_refl _,rfl,rfl,by omega,by rw [List.drop_of_length_le (by rw [HN.out];exact Nat.le_refl _)];rfl⟩
  case round =>
    obtain ⟨k,q,hk,rfl,rfl,hq,he⟩:=hrel
    have HE:=Lib.hid he;clear he
    rcases k with _ | j
    · rw [show (((0:Nat):Int) - 1) = -1 from rfl]
      have hv:=HE.out
      rw [List.drop_zero] at hv
      have HV:=Lib.hid hv;clear hv
      go_wp2
      go_ret
      exact ⟨retb (by rw [← HV.out];exact int_beq0 q),rfl⟩
    · rw [show (((j+1:Nat):Int) - 1)=(j:Int) by omega]
      obtain ⟨b,o,rfl,_,hc⟩:=hr j (by rw [HN.out];omega)
      have hxb:=ho.getD j
      generalize hx:xs.getD j 0=x at *
      have HS:=Lib.hid (td_step (V:=0) (show j<n by omega) HN.out HE.out hx);clear hx
      have hqB:q<B32:=by rw [B32_eq];omega
      have hor:=wd_or hqB hxb
      have hwl:=wd_lt hqB hxb
      rw [B32_eq] at hxb
      clear hqB
      generalize wd q x=W at *
      go_wp2
      go_round
      case rel=>exact ⟨j,W % 10,by omega,rfl,by go_num,by omega,HS.out⟩
      case measure=>simp [intOf]
def nv (neg:Bool) (v:Value) (e:Int):Value:=.agg #[.bool neg,v,.int .i64 e]
def BoolBelow (b:Bool) (w:World) (e:Ending) (w':World):Prop:=e=.returned (.bool b)∧Below w.heap.size w w'
theorem BoolBelow.mk {a b:Bool} {w w':World} (h:a=b) (hb:Below w.heap.size w w'):BoolBelow b w (.returned (.bool a)) w':=⟨by rw [h],hb⟩
theorem chkB_long {neg:Bool} {xs:List Nat} {e:Int} (h:90<xs.length):chkB neg xs e=false:=by
  unfold chkB;rw [if_neg (by omega)];exact decide_eq_false (by omega)
theorem chkB_top {neg:Bool} {xs:List Nat} {e:Int} (h:xs.length ≠ 0) (h0:xs.getD (xs.length - 1) 0=0):chkB neg xs e=false:=by
  unfold chkB;rw [if_neg h];exact decide_eq_false (fun h1=>h1.2.1 h0)
theorem chkB_out {neg:Bool} {xs:List Nat} {e:Int} (h:xs.length ≠ 0) (h0:e < -1200∨1200<e):chkB neg xs e=false:=by
  unfold chkB;rw [if_neg h];exact decide_eq_false (by omega)
theorem chkB_tens {neg:Bool} {xs:List Nat} {e:Int} (h:xs.length ≠ 0) (h1:xs.length≤90) (h2:xs.getD (xs.length - 1) 0 ≠ 0) (h3:-1200≤e) (h4:e≤1200):chkB neg xs e = !decide (val xs % 10=0):=by
  unfold chkB;rw [if_neg h]
  by_cases h5:val xs % 10=0
  · rw [decide_eq_false (fun h6=>h6.2.2.2.2 h5),decide_eq_true h5];rfl
  · rw [decide_eq_true ⟨h1,h2,h3,h4,h5⟩,decide_eq_false h5];rfl
theorem check_any (neg:Bool) (ad:Option Addr) (n cap:Nat) (xs:List Nat) (e:Int) (w:World) (hn:xs.length=n) (hcap:n≤cap) (hm:n≤1000000000) (ho:Okl xs) (hr:Rd w ad xs) :
    Calls Tryz.prog 90 #[.agg #[.bool neg,.slice ad n cap,.int .i64 e]] w (BoolBelow (chkB neg xs e) w):=by
  have hbl:Below w.heap.size w (w.alloc (.cells #[.bool neg,.slice ad n cap,.int .i64 e] 24)):=(Below.refl _ _).alloc (Nat.le_refl _) _
  have HB:=Lib.hid hbl
  have KT:=Lib.hid (tenDivides_any ad n cap xs _ hn hcap hm ho (hr.below hbl))
  clear hbl
  by_cases h0:n=0
  · subst h0
    have hx:xs=[]:=List.eq_nil_of_length_eq_zero hn
    subst hx
    clear hr KT
    have HN:=Lib.hid hn;clear hn
    cases neg
    · have HC:=Lib.hid (chkB_nil (neg:=false) (e:=e))
      by_cases he:e=0
      · subst he
        go_enter Tryz.func90,Tryz.ntmps90
        go_wp2
        go_ret
        exact BoolBelow.mk (by rw [HC.out];rfl) HB.out
      · have he':(e == 0)=false:=by rw [beq_eq_false_iff_ne];exact he
        go_enter Tryz.func90,Tryz.ntmps90
        go_wp2
        go_ret
        exact BoolBelow.mk (by rw [HC.out];simp [he]) HB.out
    · have HC:=Lib.hid (chkB_nil (neg:=true) (e:=e))
      go_enter Tryz.func90,Tryz.ntmps90
      go_wp2
      go_ret
      exact BoolBelow.mk (by rw [HC.out];rfl) HB.out
  · have h0':xs.length ≠ 0:=by omega
    have hnb:((n:Int) == 0)=false:=by rw [beq_eq_false_iff_ne];omega
    by_cases h1:90<n
    · have HC:=Lib.hid (chkB_long (neg:=neg) (e:=e) (show 90<xs.length by omega))
      have h1':(90:Int)<(n:Int):=by omega
      have HN:=Lib.hid hn;clear hn h0'
      go_enter Tryz.func90,Tryz.ntmps90
      go_wp2
      go_ret
      exact BoolBelow.mk (by rw [HC.out]) HB.out
    · have h1':¬ (90:Int)<(n:Int):=by omega
      obtain ⟨b,o,rfl,hlt,hc⟩:=hr (n - 1) (by omega)
      have hoff:((n:Int) - 1).toNat=n - 1:=by omega
      have hc2:(w.alloc (.cells #[.bool neg,.slice (some ⟨b,o,none⟩) n cap,.int .i64 e] 24)).cell? ⟨b,o+(n - 1),none⟩=some (.int .u32 ((xs.getD (n - 1) 0:Nat):Int)):=by
        rw [HB.out.cell (p:=⟨b,o+(n - 1),none⟩) hlt];exact hc
      have hxb:xs.getD (n - 1) 0<4294967296:=ho.getD _
      by_cases h2:xs.getD (n - 1) 0=0
      · have HC:=Lib.hid (chkB_top (neg:=neg) (e:=e) h0' (by rw [hn];exact h2))
        rw [h2] at hc hc2
        have HN:=Lib.hid hn;clear hn h0' h2 hxb
        go_enter Tryz.func90,Tryz.ntmps90
        go_wp2
        go_ret
        exact BoolBelow.mk (by rw [HC.out]) HB.out
      · have h2':(((xs.getD (n - 1) 0:Nat):Int) == 0)=false:=by rw [beq_eq_false_iff_ne];omega
        by_cases h3:e < -1200∨1200<e
        · have HC:=Lib.hid (chkB_out (neg:=neg) (e:=e) h0' h3)
          have HN:=Lib.hid hn;clear hn h0' h2
          generalize xs.getD (n - 1) 0=x at *
          by_cases h4:e < -1200
          · clear h3
            go_enter Tryz.func90,Tryz.ntmps90
            go_wp2
            go_ret
            exact BoolBelow.mk (by rw [HC.out]) HB.out
          · have h5:1200<e:=by omega
            clear h3
            go_enter Tryz.func90,Tryz.ntmps90
            go_wp2
            go_ret
            exact BoolBelow.mk (by rw [HC.out]) HB.out
        · have h4:¬ e < -1200:=by omega
          have h5:¬ 1200<e:=by omega
          have HC:=Lib.hid (chkB_tens (neg:=neg) (e:=e) h0' (by omega) (by rw [hn];exact h2) (by omega) (by omega))
          have HN:=Lib.hid hn;clear hn h0' h2 h3
          generalize xs.getD (n - 1) 0=x at *
          go_enter Tryz.func90,Tryz.ntmps90
          go_wp2_with fail
          refine KT.out.mono ?_
          rintro e w' ⟨rfl,rfl⟩
          go_wp2
          go_ret
          exact BoolBelow.mk (by rw [HC.out]) HB.out
theorem bcell {W w1:World} (hb:Below W.heap.size W w1):(∀ b o,b<W.heap.size→w1.cell? ⟨b,o,none⟩=W.cell? ⟨b,o,none⟩)∧(∀ b o,b<W.heap.size→w1.frozen? ⟨b,o,none⟩=W.frozen? ⟨b,o,none⟩) :=
  ⟨fun b o h=>hb.cell (p:=⟨b,o,none⟩) h,fun b o h=>hb.frozen (p:=⟨b,o,none⟩) h⟩
def NumBelow (neg:Bool) (v:Value) (x:Int) (w:World) (e:Ending) (w':World):Prop:=e=.returned (.agg #[.bool neg,v,.int .i64 x])∧Below w.heap.size w w'
theorem orZero_yes (neg:Bool) (ad:Option Addr) (n cap:Nat) (xs:List Nat) (e:Int) (w:World) (hn:xs.length=n) (hcap:n≤cap) (hm:n≤1000000000) (ho:Okl xs) (hr:Rd w ad xs) (h:chkB neg xs e=true) :
    Calls Tryz.prog 97 #[.agg #[.bool neg,.slice ad n cap,.int .i64 e]] w (NumBelow neg (.slice ad n cap) e w):=by
  have hbl:Below w.heap.size w ((w.alloc (.cells #[.bool neg,.slice ad n cap,.int .i64 e] 24)).alloc (.cells #[.bool false,.slice none 0 0,.int .i64 0] 24)):=((Below.refl _ _).alloc (Nat.le_refl _) _).alloc (by simp) _
  have HB:=Lib.hid hbl
  have K:=Lib.hid (check_any neg ad n cap xs e _ hn hcap hm ho (hr.below hbl))
  clear hbl
  have H:=Lib.hid h;clear h
  have HN:=Lib.hid hn;clear hn
  go_enter Tryz.func97,Tryz.ntmps97
  go_wp2_with fail
  refine K.out.mono ?_
  rintro r w' ⟨rfl,hb⟩
  rw [H.out]
  obtain ⟨hc,hf⟩:=bcell hb
  have hz:w.heap.size+1<w'.heap.size:=by have:=hb.size;simp at this;omega
  have HB2:=Lib.hid hb;clear hb
  go_wp2
  have HB3:=HB.out.trans (HB2.out.mono (by simp;omega))
  exact bodyPost_ret (v:=.agg #[.bool neg,.slice ad n cap,.int .i64 e]) (by simp [results,Tryz.results97,go_sem,hc,hf,hz]) rfl ⟨rfl,((HB3.setCell (by simp) _).setCell (by simp) _).setCell (by simp) _⟩
def MadePost (w0:World) (l:List Ent) (L:Nat) (neg:Bool) (m:Nat) (e:Int) (ok:Bool) (r:Ending) (w':World):Prop :=
  ∃ v,r=.returned (.tuple #[.agg #[.bool neg,v,.int .i64 e],.bool ok])∧Ctx w0 w' (⟨v,L,m,limbs m⟩::l)
theorem ent_nil (w:World) (L:Nat):Ent.Ok w ⟨.slice none 0 0,L,0,limbs 0⟩:=⟨none,0,rfl,Nat.le_refl _,by simp [limbs_zero],by rw [limbs_zero];exact Okl.nil,by rw [limbs_zero];exact Rd.nil _ _,by rw [limbs_zero];rfl⟩
theorem Ctx.drop1 {w0 w:World} {l:List Ent} {x:Ent} (h:Ctx w0 w (x::l)):Ctx w0 w l:=⟨h.below,fun y hy=>h.all y (List.mem_cons_of_mem _ hy)⟩
theorem Ctx.again {w0 w:World} {l:List Ent} (h:Ctx w0 w l):Ctx w w l:=⟨Below.refl _ _,h.all⟩
theorem Ctx.back {w0 w2 w1:World} {l:List Ent} (hb:Below w0.heap.size w0 w2) (h2:Ctx w2 w1 l):Ctx w0 w1 l:=⟨below_on hb h2.below,h2.all⟩
theorem Rd.setBox {w:World} {ad:Option Addr} {xs:List Nat} {g j:Nat} {x:Value} (h:Rd w ad xs) (hc:w.cell? ⟨g,j,none⟩=some x) (hx:∀ n:Int,x ≠ .int .u32 n) (v:Value):Rd (w.setCell ⟨g,j,none⟩ v) ad xs:=by
  intro i hi
  obtain ⟨b,o,e,hb,hcell⟩:=h i hi
  refine ⟨b,o,e,by simpa [World.setCell] using hb,?_⟩
  rw [World.cell?_setCell_other (h:=?_)]
  · exact hcell
  · intro heq
    rw [heq,hcell] at hc
    exact hx _ (Option.some.inj hc).symm
theorem Ctx.setBox {w0 w:World} {l:List Ent} {g j:Nat} {x:Value} (h:Ctx w0 w l) (hg:w0.heap.size≤g) (hc:w.cell? ⟨g,j,none⟩=some x) (hx:∀ n:Int,x ≠ .int .u32 n) (v:Value):Ctx w0 (w.setCell ⟨g,j,none⟩ v) l :=
  ⟨h.below.setCell hg v,fun y hy=>by
    obtain ⟨ad,cap,h1,h2,h3,h4,h5,h6⟩:=h.all y hy
    exact ⟨ad,cap,h1,h2,h3,h4,h5.setBox hc hx v,h6⟩⟩
theorem Ctx.box3 {w0 w:World} {l:List Ent} {g:Nat} {b:Bool} {a:Option Addr} {n c:Nat} {x:Int} (h:Ctx w0 w l) (hg:w0.heap.size≤g)
    (c0:w.cell? ⟨g,0,none⟩=some (.bool b)) (c1:w.cell? ⟨g,1,none⟩=some (.slice a n c)) (c2:w.cell? ⟨g,2,none⟩=some (.int .i64 x)) (v0 v1 v2:Value) :
    Ctx w0 (((w.setCell ⟨g,0,none⟩ v0).setCell ⟨g,1,none⟩ v1).setCell ⟨g,2,none⟩ v2) l:=by
  have d1:(w.setCell ⟨g,0,none⟩ v0).cell? ⟨g,1,none⟩=some (.slice a n c):=by rw [World.cell?_setCell_other (h:=by simp)];exact c1
  have d2:((w.setCell ⟨g,0,none⟩ v0).setCell ⟨g,1,none⟩ v1).cell? ⟨g,2,none⟩=some (.int .i64 x):=by
    rw [World.cell?_setCell_other (h:=by simp),World.cell?_setCell_other (h:=by simp)];exact c2
  exact ((h.setBox hg c0 (fun _=>by simp) v0).setBox hg d1 (fun _=>by simp) v1).setBox hg d2 (fun _=>by simp) v2
theorem make_yes {w0 w:World} {l:List Ent} {v:Value} {L N:Nat} {xs:List Nat} (h:Ctx w0 w l) (i:Nat) (hi:l[i]? = some ⟨v,L,N,xs⟩) (hL:L≤1000000) (neg:Bool) (e:Int)
    (m k:Nat) (hN:N=m*tenN k) (hm:m % 10 ≠ 0) (hlen:(limbs m).length≤90) (hlo:-1200≤e+(k:Int)) (hhi:e+(k:Int)≤1200) :
    Calls Tryz.prog 159 #[.bool neg,v,.int .i64 e] w (MadePost w0 l L neg m (e+(k:Int)) true):=by
  have hb1:Below w.heap.size w (w.alloc (.cells #[.bool false,.slice none 0 0,.int .i64 0] 24)):=(Below.refl _ _).alloc (Nat.le_refl _) _
  have h1:=h.step hb1
  have hW:=Lib.hid h.below.size
  have K:=Lib.hid (trim_c h1.again i hi (by omega))
  have H1:=Lib.hid h1.below
  have HB1:=Lib.hid hb1
  have HC:=Lib.hid (chkB_mk (neg:=neg) hm hlen hlo hhi)
  have hne:m ≠ 0:=by intro h0;rw [h0] at hm;exact hm rfl
  have hlb:(((limbs m).length:Int) == 0)=false:=by
    rw [beq_eq_false_iff_ne]
    intro h0
    exact hne ((limbs_nil_iff m).1 (List.eq_nil_of_length_eq_zero (by omega)))
  have hN0:N ≠ 0:=by rw [hN];exact Nat.mul_ne_zero hne (tenN_ne _)
  have HM:=Lib.hid hm
  have HE:=Lib.hid hN
  have HLEN:=Lib.hid hlen
  have he1:¬ (1200<e):=by omega
  clear h h1 hi hb1 hne hm hN hlen
  go_enter Tryz.func159,Tryz.ntmps159
  go_wp2_with fail
  refine K.out.mono ?_
  rintro r w1 ⟨t,m',k',rfl,q1,q2,q3,hk4,h2⟩
  obtain ⟨rfl,rfl⟩:m=m'∧k=k':=ten_unique (by rw [← q1,← HE.out]) HM.out (q3 hN0)
  have hv:=h2.get 0 rfl
  obtain ⟨ad,cap,rfl,a2,a3,a4,a5,a6⟩:=hv
  obtain ⟨hc,hf⟩:=bcell h2.below
  have hz:w.heap.size<w1.heap.size:=by have:=h2.below.size;simp at this;omega
  have H2:=Lib.hid h2;clear h2 q1 q2 q3
  have KC:=Lib.hid (check_any neg ad (limbs m).length cap (limbs m) (e+(k:Int)) (w1.alloc (.cells #[.bool neg,.slice ad (limbs m).length cap,.int .i64 (e+(k:Int))] 24)) rfl a2 (by have:=HLEN.out;omega) a4 (a5.below ((Below.refl _ _).alloc (Nat.le_refl _) _)))
  have A5:=Lib.hid a5
  have A6:=Lib.hid a6
  clear a3 a4 a5 a6
  generalize hn:(limbs m).length=n at *
  have HN:=Lib.hid hn;clear hn
  have hsum:IntKind.i64.wrap (e+(k:Int))=e+(k:Int):=IntWalk.i64_in _ (by omega)
  go_wp2_with fail
  refine KC.out.mono ?_
  rintro r w2 ⟨rfl,hb2⟩
  rw [HC.out]
  obtain ⟨hc2,hf2⟩:=bcell hb2
  have hz2:w1.heap.size<w2.heap.size:=by have:=hb2.size;simp at this;omega
  have hzz:w.heap.size<w1.heap.size+1:=by omega
  have HB2:=Lib.hid hb2;clear hb2
  go_wp2
  have H3:=Ctx.back H1.out H2.out
  have H4:=(H3.step ((Below.refl _ _).alloc (Nat.le_refl _) (.cells #[.bool neg,.slice ad n cap,.int .i64 (e+(k:Int))] 24))).step HB2.out
  refine bodyPost_ret (v:=.tuple #[.agg #[.bool neg,.slice ad n cap,.int .i64 (e+(k:Int))],.bool true]) (by simp [results,Tryz.results159,go_sem,hc,hc2,hz,hzz]) rfl ⟨_,rfl,?_⟩
  exact H4.box3 hW.out (b:=false) (a:=none) (n:=0) (c:=0) (x:=0) (by simp [hc,hc2,hzz,hz,World.cell?_alloc_lt]) (by simp [hc,hc2,hzz,hz,World.cell?_alloc_lt]) (by simp [hc,hc2,hzz,hz,World.cell?_alloc_lt]) _ _ _
theorem chkB_wide {neg:Bool} {m:Nat} {e:Int} (hm:m ≠ 0) (h:¬ ((limbs m).length≤90∧-1200≤e∧e≤1200)):chkB neg (limbs m) e=false:=by
  unfold chkB
  rw [if_neg (fun h0=>hm ((limbs_nil_iff m).1 (List.eq_nil_of_length_eq_zero h0)))]
  exact decide_eq_false (fun h1=>h ⟨h1.1,h1.2.2.1,h1.2.2.2.1⟩)
theorem make_no {w0 w:World} {l:List Ent} {v:Value} {L N:Nat} {xs:List Nat} (h:Ctx w0 w l) (i:Nat) (hi:l[i]? = some ⟨v,L,N,xs⟩) (hL:L≤1000000) (neg:Bool) (e:Int)
    (m k:Nat) (hN:N=m*tenN k) (hm:m % 10 ≠ 0) (hno:¬ ((limbs m).length≤90∧-1200≤e+(k:Int)∧e+(k:Int)≤1200)) (hE:-9223372036854775808≤e) :
    Calls Tryz.prog 159 #[.bool neg,v,.int .i64 e] w (MadePost w0 l L false 0 0 false):=by
  have hb1:Below w.heap.size w (w.alloc (.cells #[.bool false,.slice none 0 0,.int .i64 0] 24)):=(Below.refl _ _).alloc (Nat.le_refl _) _
  have h1:=h.step hb1
  have hW:=Lib.hid h.below.size
  have K:=Lib.hid (trim_c h1.again i hi (by omega))
  have H1:=Lib.hid h1.below
  have HB1:=Lib.hid hb1
  have hne:m ≠ 0:=by intro h0;rw [h0] at hm;exact hm rfl
  have HC:=Lib.hid (chkB_wide (neg:=neg) hne hno)
  have hlb:(((limbs m).length:Int) == 0)=false:=by
    rw [beq_eq_false_iff_ne]
    intro h0
    exact hne ((limbs_nil_iff m).1 (List.eq_nil_of_length_eq_zero (by omega)))
  have hN0:N ≠ 0:=by rw [hN];exact Nat.mul_ne_zero hne (tenN_ne _)
  have HM:=Lib.hid hm
  have HE:=Lib.hid hN
  have HLO:=Lib.hid hE
  clear h h1 hi hb1 hne hm hN hno hE
  by_cases he1:1200<e
  · go_enter Tryz.func159,Tryz.ntmps159
    go_wp2_with fail
    refine K.out.mono ?_
    rintro r w1 ⟨t,m',k',rfl,q1,q2,q3,hk4,h2⟩
    obtain ⟨rfl,rfl⟩:m=m'∧k=k':=ten_unique (by rw [← q1,← HE.out]) HM.out (q3 hN0)
    have hv:=h2.get 0 rfl
    obtain ⟨ad,cap,rfl,_⟩:=hv
    obtain ⟨hc,hf⟩:=bcell h2.below
    have hz:w.heap.size<w1.heap.size:=by have:=h2.below.size;simp at this;omega
    have H2:=Lib.hid h2;clear h2 q1 q2 q3
    generalize (limbs m).length=n at *
    go_wp2
    have H3:=Ctx.back H1.out H2.out
    refine bodyPost_ret (v:=.tuple #[.agg #[.bool false,.slice none 0 0,.int .i64 0],.bool false]) (by simp [results,Tryz.results159,go_sem,hc]) rfl ⟨_,rfl,?_⟩
    have H4:=H3.box3 hW.out (b:=false) (a:=none) (n:=0) (c:=0) (x:=0) (by simp [hc]) (by simp [hc]) (by simp [hc]) (.bool false) (.slice none 0 0) (.int .i64 0)
    exact (H4.drop1).push (ent_nil _ _)
  · go_enter Tryz.func159,Tryz.ntmps159
    go_wp2_with fail
    refine K.out.mono ?_
    rintro r w1 ⟨t,m',k',rfl,q1,q2,q3,hk4,h2⟩
    obtain ⟨rfl,rfl⟩:m=m'∧k=k':=ten_unique (by rw [← q1,← HE.out]) HM.out (q3 hN0)
    have hv:=h2.get 0 rfl
    obtain ⟨ad,cap,rfl,a2,a3,a4,a5,a6⟩:=hv
    obtain ⟨hc,hf⟩:=bcell h2.below
    have hz:w.heap.size<w1.heap.size:=by have:=h2.below.size;simp at this;omega
    have H2:=Lib.hid h2;clear h2 q1 q2 q3
    have hlo:=HLO.out
    have hsum:IntKind.i64.wrap (e+(k:Int))=e+(k:Int):=IntWalk.i64_in _ (by omega)
    clear hlo
    have KC:=Lib.hid (check_any neg ad (limbs m).length cap (limbs m) (e+(k:Int)) (w1.alloc (.cells #[.bool neg,.slice ad (limbs m).length cap,.int .i64 (e+(k:Int))] 24)) rfl a2 (by omega) a4 (a5.below ((Below.refl _ _).alloc (Nat.le_refl _) _)))
    clear a3 a4 a5 a6
    generalize hn:(limbs m).length=n at *
    have HN:=Lib.hid hn;clear hn
    go_wp2_with fail
    refine KC.out.mono ?_
    rintro r w2 ⟨rfl,hb2⟩
    rw [HC.out]
    obtain ⟨hc2,hf2⟩:=bcell hb2
    have hz2:w1.heap.size<w2.heap.size:=by have:=hb2.size;simp at this;omega
    have hzz:w.heap.size<w1.heap.size+1:=by omega
    have HB2:=Lib.hid hb2;clear hb2
    go_wp2
    have H3:=Ctx.back H1.out H2.out
    have H4:=(H3.step ((Below.refl _ _).alloc (Nat.le_refl _) (.cells #[.bool neg,.slice ad n cap,.int .i64 (e+(k:Int))] 24))).step HB2.out
    refine bodyPost_ret (v:=.tuple #[.agg #[.bool false,.slice none 0 0,.int .i64 0],.bool false]) (by simp [results,Tryz.results159,go_sem,hc,hc2,hz,hzz]) rfl ⟨_,rfl,?_⟩
    have H5:=H4.box3 hW.out (b:=false) (a:=none) (n:=0) (c:=0) (x:=0) (by simp [hc,hc2,hzz,hz,World.cell?_alloc_lt]) (by simp [hc,hc2,hzz,hz,World.cell?_alloc_lt]) (by simp [hc,hc2,hzz,hz,World.cell?_alloc_lt]) (.bool false) (.slice none 0 0) (.int .i64 0)
    exact (H5.drop1).push (ent_nil _ _)
end Go.Proofs.YtijaphbccnadbaaGreatDoor
namespace Go.Proofs.YtijaphbccnadbaaGreatDoor
open Go.RowKit Go.Sort
open Go.RowKit Go.Sort
theorem txt_list (l:List Nat):(txt l).data.toList=l.map UInt8.ofNat:=by simp [txt]
theorem ten_pow (k:Nat):tenN (10*k)=(10 ^ 10) ^ k:=Nat.pow_mul _ _ _
theorem dec_len90 {xs:List Nat} (ho:Okl xs) (h:xs.length≤90):(dec (val xs)).length≤900:=by
  refine dec_len_le (by omega) ?_
  have h1:=val_lt ho
  have h2:B32 ^ xs.length≤B32 ^ 90:=Nat.pow_le_pow_right B32_pos h
  have h3:B32 ^ 90≤tenN (10*90):=by
    rw [ten_pow]
    exact Nat.pow_le_pow_left (by decide) 90
  exact Nat.lt_of_lt_of_le h1 (Nat.le_trans h2 h3)
structure NumOk (w:World) (neg:Bool) (ad:Option Addr) (n cap:Nat) (xs:List Nat) (e:Int):Prop where
  len:xs.length=n
  cap:n≤cap
  ok:Okl xs
  rd:Rd w ad xs
  chk:chkB neg xs e=true
theorem NumOk.below {w w':World} {neg:Bool} {ad:Option Addr} {n cap:Nat} {xs:List Nat} {e:Int} (h:NumOk w neg ad n cap xs e) (hb:Below w.heap.size w w'):NumOk w' neg ad n cap xs e :=
  ⟨h.len,h.cap,h.ok,h.rd.below hb,h.chk⟩
theorem NumOk.n90 {w:World} {neg:Bool} {ad:Option Addr} {n cap:Nat} {xs:List Nat} {e:Int} (h:NumOk w neg ad n cap xs e):n≤90:=by have:=(chkB_bounds h.chk).1;have:=h.len;omega
theorem NumOk.lo {w:World} {neg:Bool} {ad:Option Addr} {n cap:Nat} {xs:List Nat} {e:Int} (h:NumOk w neg ad n cap xs e):-1200≤e∧e≤1200:=(chkB_bounds h.chk).2
theorem NumOk.same {w:World} {neg:Bool} {ad:Option Addr} {n cap:Nat} {xs:List Nat} {e:Int} (h:NumOk w neg ad n cap xs e) (W:World) (hb:Below w.heap.size w W) :
    Calls Tryz.prog 97 #[.agg #[.bool neg,.slice ad n cap,.int .i64 e]] W (NumBelow neg (.slice ad n cap) e W) :=
  orZero_yes neg ad n cap xs e W h.len h.cap (by have:=h.n90;omega) h.ok (h.rd.below hb) h.chk
theorem below_drew {B:Nat} {a w:World} (h:Below B a w):Below B a w.drew:=h.trans ⟨rfl,rfl,rfl,Nat.le_refl _,fun _ _=>rfl⟩
end Go.Proofs.YtijaphbccnadbaaGreatDoor
namespace Go.Proofs.YtijaphbccnadbaaGreatDoor
def bt (l:List UInt8) (k:Nat):Nat:=(l.getD k 0).toNat
theorem bt_lt (l:List UInt8) (k:Nat):bt l k<256:=(l.getD k 0).toNat_lt
theorem bt_drop (l:List UInt8) (i k:Nat):bt (l.drop i) k=bt l (i+k):=by
  simp [bt,List.getD,List.getElem?_drop]
theorem bt_append_left {a b:List UInt8} {k:Nat} (h:k<a.length):bt (a++b) k=bt a k:=by
  simp [bt,List.getD,List.getElem?_append_left h]
theorem bt_append_right {a b:List UInt8} (k:Nat):bt (a++b) (a.length+k)=bt b k:=by
  simp [bt,List.getD,List.getElem?_append_right]
def decL (l:List UInt8):Nat × Nat:=Lib.decodeN l.length (bt l 0) (bt l 1) (bt l 2) (bt l 3)
def runeL (l:List UInt8):Int × Nat:=if decL l=(65533,1) then (-1,1) else (((decL l).1:Int),(decL l).2)
theorem get!_list (s:ByteArray) (k:Nat):s.get! k=s.data.toList.getD k 0:=by
  cases s with
  | mk d =>
    by_cases h:k<d.size
    · simp [ByteArray.get!,List.getD,h,getElem!_pos]
    · simp [ByteArray.get!,List.getD,h,getElem!_neg];rfl
theorem decode_list (s:ByteArray) (i:Nat):Utf8.decode s i=decL (s.data.toList.drop i):=by
  have e:∀ k,(s.get! (i+k)).toNat=bt (s.data.toList.drop i) k:=fun k=>by rw [bt_drop];simp [bt,get!_list]
  have e0:=e 0
  rw [Nat.add_zero] at e0
  rw [Lib.decode_at,decL,e0,e 1,e 2,e 3]
  congr 1
  simp
def okR (r:Int):Bool:=Utf8.valid r
theorem okR_iff {r:Int}:okR r=true ↔ (0≤r∧r<55296)∨(57344≤r∧r≤1114111):=by
  simp [okR,Utf8.valid]
def encN (r:Nat):List Nat :=
  if r<128 then [r]
  else if r<2048 then [192+r / 64,128+r % 64]
  else if r<65536 then [224+r / 4096,128+r / 64 % 64,128+r % 64]
  else [240+r / 262144,128+r / 4096 % 64,128+r / 64 % 64,128+r % 64]
def enc (r:Int):List UInt8:=(encN r.toNat).map fun x=>UInt8.ofNat x
theorem okR_nat {r:Int} (h:okR r=true):∃ n:Nat,r=n∧(n<55296∨(57344≤n∧n≤1114111)):=by
  rw [okR_iff] at h
  exact ⟨r.toNat,by omega,by omega⟩
theorem encN_lt {n:Nat} (h:n≤1114111):∀ x∈encN n,x<256:=by
  intro x hx
  unfold encN at hx
  repeat' split at hx
  all_goals simp at hx;omega
theorem encN_length (n:Nat):1≤(encN n).length∧(encN n).length≤4:=by
  unfold encN
  repeat' split
  all_goals simp
theorem enc_length (r:Int):(enc r).length=(encN r.toNat).length:=by simp [enc]
theorem enc_pos (r:Int):1≤(enc r).length:=by rw [enc_length];exact (encN_length _).1
theorem enc_le (r:Int):(enc r).length≤4:=by rw [enc_length];exact (encN_length _).2
theorem enc_ne (r:Int):enc r ≠ []:=by
  intro h;have:=enc_pos r;rw [h] at this;simp at this
theorem bt_map {xs:List Nat} {l:List UInt8} {k:Nat} (hk:k<xs.length) (hx:xs.getD k 0<256):bt (xs.map (fun x=>UInt8.ofNat x)++l) k=xs.getD k 0:=by
  rw [bt_append_left (by simpa using hk)]
  simp only [bt,List.getD,List.getElem?_map,List.getElem?_eq_getElem hk,Option.map_some,Option.getD_some] at hx ⊢
  rw [UInt8.toNat_ofNat'];omega
theorem encodeRune_enc {r:Int} (h:okR r=true):Lib.encodeRune r=enc r:=by
  obtain ⟨n,rfl,hn⟩:=okR_nat h
  unfold Lib.encodeRune enc Lib.encodeRuneZ encN
  rw [Int.toNat_natCast]
  have e:∀ x:Int,∀ y:Nat,x=y→x.toNat.toUInt8=UInt8.ofNat y:=by intro x y h;subst h;simp
  repeat' split
  all_goals first
    | (exfalso;omega)
    | (simp only [List.map_cons,List.map_nil];(repeat' apply List.cons_eq_cons.2 ⟨?_,?_⟩) <;> (first | rfl | (apply e;omega) | skip))
  all_goals first
    | (exfalso;omega)
    | (congr 1 <;> first | (apply e;omega) | (congr 1 <;> first | (apply e;omega) | (congr 1 <;> first | (apply e;omega) | (congr 1;apply e;omega))))
theorem decN_enc {n:Nat} (hn:n<55296∨(57344≤n∧n≤1114111)) {m b0 b1 b2 b3:Nat} (hm:(encN n).length≤m) (h0:b0=(encN n).getD 0 0)
    (h1:1<(encN n).length→b1=(encN n).getD 1 0) (h2:2<(encN n).length→b2=(encN n).getD 2 0) (h3:3<(encN n).length→b3=(encN n).getD 3 0) :
    Lib.decodeN m b0 b1 b2 b3=(n,(encN n).length):=by
  unfold encN at hm h0 h1 h2 h3 ⊢
  split at hm <;> rename_i c1
  · simp only [if_pos c1] at h0 ⊢
    simp at h0
    unfold Lib.decodeN
    rw [if_pos (by omega),h0];rfl
  · simp only [if_neg c1] at h0 h1 h2 h3 ⊢
    split at hm <;> rename_i c2
    · simp only [if_pos c2] at h0 h1 h2 h3 ⊢
      simp at h0 h1 hm
      unfold Lib.decodeN
      repeat' split
      all_goals first | (exfalso;omega) | (apply Prod.ext <;> simp <;> omega)
    · simp only [if_neg c2] at h0 h1 h2 h3 ⊢
      split at hm <;> rename_i c3
      · simp only [if_pos c3] at h0 h1 h2 h3 ⊢
        simp at h0 h1 h2 hm
        unfold Lib.decodeN
        repeat' split
        all_goals first | (exfalso;omega) | (apply Prod.ext <;> simp <;> omega)
      · simp only [if_neg c3] at h0 h1 h2 h3 ⊢
        simp at h0 h1 h2 h3 hm
        unfold Lib.decodeN
        repeat' split
        all_goals first | (exfalso;omega) | (apply Prod.ext <;> simp <;> omega)
theorem encN_three (n:Nat) (h:(encN n).length=1):n<128:=by
  unfold encN at h
  repeat' split at h
  all_goals simp at h
  assumption
theorem runeL_enc {r:Int} (h:okR r=true) (l:List UInt8):runeL (enc r++l)=(r,(enc r).length):=by
  obtain ⟨n,rfl,hn⟩:=okR_nat h
  have hb:∀ k,k<(encN n).length→bt (enc (n:Int)++l) k=(encN n).getD k 0:=by
    intro k hk
    unfold enc;rw [Int.toNat_natCast]
    refine bt_map hk ?_
    simp only [List.getD,List.getElem?_eq_getElem hk,Option.getD_some]
    exact encN_lt (by omega) _ (List.getElem_mem hk)
  have hp:=encN_length n
  have hl:(enc (n:Int)).length=(encN n).length:=by rw [enc_length,Int.toNat_natCast]
  have hd:decL (enc (n:Int)++l)=(n,(encN n).length):=by
    unfold decL
    exact decN_enc hn (by rw [List.length_append,hl];omega) (hb 0 (by omega)) (fun h=>hb 1 h) (fun h=>hb 2 h) (fun h=>hb 3 h)
  unfold runeL
  rw [hd,hl,if_neg]
  intro e
  have e1:=congrArg Prod.fst e
  have e2:=congrArg Prod.snd e
  simp at e1 e2
  have:=encN_three n e2
  omega
theorem decN_inv {m b0 b1 b2 b3 c k:Nat} (hm:1≤m) (l0:b0<256) (l1:b1<256) (l2:b2<256) (l3:b3<256) (h:Lib.decodeN m b0 b1 b2 b3=(c,k)) (hne:¬ ((c,k)=(65533,1))) :
    k≤m∧1≤k∧k≤4∧(c<55296∨(57344≤c∧c≤1114111))∧encN c=[b0,b1,b2,b3].take k:=by
  unfold Lib.decodeN at h
  by_cases c1:b0<128
  · rw [if_pos c1] at h
    obtain ⟨rfl,rfl⟩:=Prod.mk.injEq .. ▸ h
    refine ⟨hm,by omega,by omega,by omega,?_⟩
    unfold encN;rw [if_pos c1];rfl
  · rw [if_neg c1] at h
    by_cases c2:b0 / 32=6∧(1<m∧b1 / 64=2)
    · rw [if_pos c2] at h
      by_cases d2:b0 % 32*64+b1 % 64 ≥ 128
      · rw [if_pos d2] at h
        obtain ⟨rfl,rfl⟩:=Prod.mk.injEq .. ▸ h
        refine ⟨by omega,by omega,by omega,by omega,?_⟩
        unfold encN;rw [if_neg (by omega),if_pos (by omega)]
        simp;omega
      · rw [if_neg d2] at h;exact absurd h.symm hne
    · rw [if_neg c2] at h
      by_cases c3:b0 / 16=14∧(1<m∧b1 / 64=2)∧(2<m∧b2 / 64=2)
      · rw [if_pos c3] at h
        split at h
        · rename_i d3
          obtain ⟨rfl,rfl⟩:=Prod.mk.injEq .. ▸ h
          refine ⟨by omega,by omega,by omega,by omega,?_⟩
          unfold encN;rw [if_neg (by omega),if_neg (by omega),if_pos (by omega)]
          simp;omega
        · exact absurd h.symm hne
      · rw [if_neg c3] at h
        by_cases c4:b0 / 8=30∧(1<m∧b1 / 64=2)∧(2<m∧b2 / 64=2)∧(3<m∧b3 / 64=2)
        · rw [if_pos c4] at h
          split at h
          · rename_i d4
            obtain ⟨rfl,rfl⟩:=Prod.mk.injEq .. ▸ h
            refine ⟨by omega,by omega,by omega,by omega,?_⟩
            unfold encN;rw [if_neg (by omega),if_neg (by omega),if_neg (by omega)]
            simp;omega
          · exact absurd h.symm hne
        · rw [if_neg c4] at h;exact absurd h.symm hne
theorem take_bt (l:List UInt8) (k:Nat) (h:k≤l.length):l.take k=((List.range k).map (bt l)).map fun x=>UInt8.ofNat x:=by
  apply List.ext_getElem
  · simp;omega
  · intro i h1 h2
    simp at h1
    simp [bt,List.getD,List.getElem?_eq_getElem (show i<l.length by omega)]
theorem decL_width (l:List UInt8) (h:l ≠ []):1≤(decL l).2∧(decL l).2≤l.length:=by
  have hm:1≤l.length:=by cases l;exact absurd rfl h;simp
  by_cases e:decL l=(65533,1)
  · rw [e];exact ⟨by simp,hm⟩
  · have:=decN_inv (c:=(decL l).1) (k:=(decL l).2) hm (bt_lt l 0) (bt_lt l 1) (bt_lt l 2) (bt_lt l 3) rfl e
    omega
theorem runeL_width (l:List UInt8) (h:l ≠ []):1≤(runeL l).2∧(runeL l).2≤l.length:=by
  have:=decL_width l h
  unfold runeL;split
  · exact ⟨by simp,by cases l;exact absurd rfl h;simp⟩
  · exact this
theorem runeL_inv (l:List UInt8) (h:l ≠ []) (hr:0≤(runeL l).1):okR (runeL l).1=true∧enc (runeL l).1=l.take (runeL l).2∧(runeL l).2=(decL l).2∧(runeL l).1=(decL l).1:=by
  have hm:1≤l.length:=by cases l;exact absurd rfl h;simp
  unfold runeL at hr ⊢
  split
  · rename_i e;rw [if_pos e] at hr;simp at hr
  · rename_i e
    obtain ⟨a1,a2,a3,a4,a5⟩:=decN_inv (c:=(decL l).1) (k:=(decL l).2) hm (bt_lt l 0) (bt_lt l 1) (bt_lt l 2) (bt_lt l 3) rfl e
    refine ⟨okR_iff.2 (by omega),?_,rfl,rfl⟩
    unfold enc
    rw [Int.toNat_natCast,a5,take_bt l _ a1]
    congr 1
    generalize (decL l).2=k at *
    have hk:k=1∨k=2∨k=3∨k=4:=by omega
    rcases hk with rfl | rfl | rfl | rfl <;> rfl
theorem encN_cont {n:Nat} (hn:n≤1114111) {k:Nat} (hk:k<(encN n).length):(encN n).getD k 0 / 64=2 ↔ 0<k:=by
  unfold encN at hk ⊢
  split at hk <;> rename_i c1
  · rw [if_pos c1];simp at hk;subst hk;simp;omega
  · rw [if_neg c1]
    split at hk <;> rename_i c2
    · rw [if_pos c2];simp at hk
      have:k=0∨k=1:=by omega
      rcases this with rfl | rfl <;> simp <;> omega
    · rw [if_neg c2]
      split at hk <;> rename_i c3
      · rw [if_pos c3];simp at hk
        have:k=0∨k=1∨k=2:=by omega
        rcases this with rfl | rfl | rfl <;> simp <;> omega
      · rw [if_neg c3];simp at hk
        have:k=0∨k=1∨k=2∨k=3:=by omega
        rcases this with rfl | rfl | rfl | rfl <;> simp <;> omega
theorem bt_enc {r:Int} (h:okR r=true) (l:List UInt8) {k:Nat} (hk:k<(enc r).length):bt (enc r++l) k=(encN r.toNat).getD k 0:=by
  obtain ⟨n,rfl,hn⟩:=okR_nat h
  rw [enc_length] at hk
  unfold enc
  refine bt_map hk ?_
  simp only [List.getD,List.getElem?_eq_getElem hk,Option.getD_some]
  exact encN_lt (by omega) _ (List.getElem_mem hk)
theorem bt_enc_cont {r:Int} (h:okR r=true) (l:List UInt8) {k:Nat} (hk:k<(enc r).length):bt (enc r++l) k / 64=2 ↔ 0<k:=by
  rw [bt_enc h l hk]
  obtain ⟨n,rfl,hn⟩:=okR_nat h
  exact encN_cont (by omega) (by rwa [enc_length] at hk)
def runesF:Nat→List UInt8→List Int
  | 0,_=>[]
  | f+1,l=>if l=[] then [] else (runeL l).1::runesF f (l.drop (runeL l).2)
def runesL (l:List UInt8):List Int:=runesF l.length l
theorem runesF_nil (f:Nat):runesF f []=[]:=by cases f <;> simp [runesF]
theorem runesF_eq : ∀ (f g : Nat) (l : List UInt8), l.length ≤ f → l.length ≤ g → runesF f l = runesF g l := by
  intro f
  induction f with
  | zero => intro g l h _; have : l = [] := List.eq_nil_of_length_eq_zero (by omega)
            rw [this, runesF_nil, runesF_nil]
  | succ f ih =>
    intro g l h k
    cases g with
    | zero => have : l = [] := List.eq_nil_of_length_eq_zero (by omega)
              rw [this, runesF_nil, runesF_nil]
    | succ g =>
      by_cases hl : l = []
      · rw [hl, runesF_nil, runesF_nil]
      · have hw := runeL_width l hl
        simp only [runesF, if_neg hl]
        rw [ih g _ (by rw [List.length_drop]; omega) (by rw [List.length_drop]; omega)]
theorem runesL_cons {l:List UInt8} (h:l ≠ []):runesL l=(runeL l).1::runesL (l.drop (runeL l).2):=by
  have hw:=runeL_width l h
  unfold runesL
  have hm:l.length=(l.length - 1)+1:=by omega
  rw [hm,runesF,if_neg h,runesF_eq _ (l.drop (runeL l).2).length _ (by rw [List.length_drop];omega) (Nat.le_refl _)]
def validL (l:List UInt8):Bool:=(runesL l).all fun r=>decide (0≤r)
def joinL (rs:List Int):List UInt8:=rs.flatMap enc
def okAll (rs:List Int):Bool:=rs.all okR
theorem joinL_cons (r:Int) (rs:List Int):joinL (r::rs)=enc r++joinL rs:=rfl
theorem joinL_append (a b:List Int):joinL (a++b)=joinL a++joinL b:=by simp [joinL]
theorem valid_cons {l:List UInt8} (h:l ≠ []):validL l=(decide (0≤(runeL l).1) && validL (l.drop (runeL l).2)):=by
  unfold validL;rw [runesL_cons h];rfl
theorem join_runesF : ∀ (m : Nat) (l : List UInt8), l.length ≤ m → validL l = true → okAll (runesL l) = true ∧ joinL (runesL l) = l := by
  intro m
  induction m with
  | zero => intro l h _; have : l = [] := List.eq_nil_of_length_eq_zero (by omega)
            rw [this]; exact ⟨rfl, rfl⟩
  | succ m ih =>
    intro l h hv
    by_cases hl : l = []
    · rw [hl]; exact ⟨rfl, rfl⟩
    · have hw := runeL_width l hl
      rw [valid_cons hl, Bool.and_eq_true, decide_eq_true_eq] at hv
      obtain ⟨h1, h2, _, _⟩ := runeL_inv l hl hv.1
      obtain ⟨i1, i2⟩ := ih (l.drop (runeL l).2) (by rw [List.length_drop]; omega) hv.2
      rw [runesL_cons hl]
      refine ⟨by simp only [okAll, List.all_cons, Bool.and_eq_true]; exact ⟨h1, i1⟩, ?_⟩
      rw [joinL_cons, h2, i2, List.take_append_drop]
theorem join_runes {l:List UInt8} (h:validL l=true):okAll (runesL l)=true∧joinL (runesL l)=l:=join_runesF _ l (Nat.le_refl _) h
end Go.Proofs.YtijaphbccnadbaaGreatDoor
