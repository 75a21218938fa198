/- Texts of the claim. -/
import Derived.Test.YtnacbakcalcgaaaGreatDoorIl
import Derived.StillTailTactics
set_option linter.unusedVariables false
set_option linter.unusedSimpArgs false
set_option maxHeartbeats 8000000
set_option maxRecDepth 100000
namespace Go.Proofs.YtnacbakcalcgaaaGreatDoor
open Go.RowKit Go.Sort
theorem Ctx.wide {w0 w:World} {l:List Ent} {v:Value} {L L' N:Nat} {xs:List Nat} (h:Ctx w0 w (⟨v,L,N,xs⟩::l)) (hL:L≤L'):Ctx w0 w (⟨v,L',N,xs⟩::l) :=
  ⟨h.below,fun y hy=>by
    rcases List.mem_cons.1 hy with rfl | h1
    · obtain ⟨ad,cap,h1,h2,h3,h4⟩:=h.all _ (List.mem_cons_self ..)
      exact ⟨ad,cap,h1,h2,Nat.le_trans h3 hL,h4⟩
    · exact h.all y (List.mem_cons_of_mem _ h1)⟩
theorem Ctx.over {w0 W w5:World} {l l':List Ent} {a:Ent} (h:Ctx w0 W l) (h5:Ctx W w5 (a::l')):Ctx w0 w5 (a::l):=by
  have h2:=h.step h5.below
  exact ⟨h2.below,fun y hy=>by
    rcases List.mem_cons.1 hy with rfl | h1
    · exact h5.all _ (List.mem_cons_self ..)
    · exact h2.all y h1⟩
theorem words_ok {s:Nat} (h:s<18446744073709551616):Okl [s % 4294967296,s / 4294967296]∧val [s % 4294967296,s / 4294967296]=s :=
  ⟨Okl.cons (by rw [B32_eq];omega) (Okl.cons (by rw [B32_eq];omega) Okl.nil),by simp [val];rw [B32_eq];omega⟩
theorem five_le (a:Nat):5 ^ a≤2 ^ (7*(a / 3)+6):=by
  have h1:5 ^ a=125 ^ (a / 3)*5 ^ (a % 3):=by
    rw [show (125:Nat)=5 ^ 3 from rfl,← Nat.pow_mul,← Nat.pow_add,Nat.div_add_mod]
  have h2:125 ^ (a / 3)≤2 ^ (7*(a / 3)):=by rw [Nat.pow_mul];exact Nat.pow_le_pow_left (by decide) _
  have h3:5 ^ (a % 3)≤2 ^ 6:=Nat.le_trans (Nat.pow_le_pow_right (by decide) (show a % 3≤2 by omega)) (by decide)
  rw [h1,Nat.pow_add]
  exact Nat.mul_le_mul h2 h3
theorem dec_lt {s K:Nat} {t:Int} (hs:s<2 ^ 53) (ht:-1074≤t∧t≤1000) (hK:2600≤K):decN s t<2 ^ K:=by
  unfold decN
  by_cases h:t<0
  · rw [show t.toNat=0 by omega,Nat.pow_zero,Nat.mul_one]
    have h2:s*5 ^ (-t).toNat<2 ^ 53*2 ^ (7*((-t).toNat / 3)+6):=Nat.lt_of_lt_of_le (Nat.mul_lt_mul_of_pos_right hs (five_pos _)) (Nat.mul_le_mul_left _ (five_le _))
    rw [← Nat.pow_add] at h2
    exact Nat.lt_of_lt_of_le h2 (Nat.pow_le_pow_right (by decide) (by omega))
  · rw [show (-t).toNat=0 by omega,Nat.pow_zero,Nat.mul_one]
    have h2:s*2 ^ t.toNat<2 ^ 53*2 ^ t.toNat:=Nat.mul_lt_mul_of_pos_right hs (twop_pos _)
    rw [← Nat.pow_add] at h2
    exact Nat.lt_of_lt_of_le h2 (Nat.pow_le_pow_right (by decide) (by omega))
theorem ex_bounds {e f x:Nat} (hl:Lay e f) (hk:kindF e f x=1):exN e f x=exM e f x*tenN (trimK (exN e f x))∧exM e f x % 10 ≠ 0∧(limbs (exM e f x)).length≤90∧-1200≤exE e f x∧exE e f x≤1200:=by
  obtain ⟨h1,h2⟩:=trim_spec (decN_ne (t:=twosF e f x) (sizeF_ne hk))
  have hb:=twosF_bd (x:=x) hl
  have hs:sizeF e f x<2 ^ 53:=Nat.lt_of_lt_of_le (sizeF_lt e f x) (Nat.pow_le_pow_right (by decide) (by have:=(lay_bd hl).2.2.2.1;omega))
  obtain ⟨L,hL⟩:∃ L,L=90:=⟨_,rfl⟩
  have hlt:=dec_lt (K:=32*L) hs ⟨hb.1,by omega⟩ (by omega)
  refine ⟨h1,h2,?_,?_,?_⟩
  · rw [← hL]
    refine limbs_length_le ?_
    have e1:B32 ^ L=2 ^ (32*L):=by rw [Nat.pow_mul];rfl
    rw [e1]
    refine Nat.lt_of_le_of_lt (?_:exM e f x≤decN (sizeF e f x) (twosF e f x)) hlt
    conv=>rhs;rw [h1]
    exact Nat.le_mul_of_pos_right _ (tenN_pos _)
  · unfold exE;omega
  · have h3:tenN (trimK (exN e f x))≤decN (sizeF e f x) (twosF e f x):=by
      conv=>rhs;rw [h1]
      exact Nat.le_mul_of_pos_left _ (by omega)
    have h4:2 ^ (3*trimK (exN e f x))≤tenN (trimK (exN e f x)):=by
      rw [Nat.pow_mul];exact Nat.pow_le_pow_left (by decide) _
    have h5:=two_lt_iff.1 (Nat.lt_of_le_of_lt (Nat.le_trans h4 h3) hlt)
    unfold exE;omega
def exNegW (width:Int) (x:Nat):Bool:=match layOf width with | some (e,f)=>decide (kindF e f x=1) && fNeg e f x | none=>false
def exMW (width:Int) (x:Nat):Nat:=match layOf width with | some (e,f)=>if kindF e f x=1 then exM e f x else 0 | none=>0
def exEW (width:Int) (x:Nat):Int:=match layOf width with | some (e,f)=>if kindF e f x=1 then exE e f x else 0 | none=>0
theorem exact_no {w0 w:World} {l:List Ent} (h:Ctx w0 w l) (width:Int) (x:Nat) (k:Int) (b:Bool) (hb:(k == 2)=b) (h1:(k == 1)=false) (KK:∀ W,Calls Tryz.prog 187 #[.int .i64 width,.int .u64 (x:Int)] W (IntBelow k W)) :
    Calls Tryz.prog 152 #[.int .i64 width,.int .u64 (x:Int)] w (MadePost w0 l 2000 false 0 0 b):=by
  have KKH:=Lib.hid KK
  have H:=Lib.hid h
  have hg:=Lib.hid h.below.size
  clear KK h
  cases b
  all_goals
    go_enter Tryz.func152,Tryz.ntmps152
    go_wp2_with fail
    refine (KKH.out _).mono ?_
    rintro r w1 ⟨rfl,hb1⟩
    obtain ⟨hc1,hf1⟩:=bcell hb1
    have x0:w1.cell? ⟨w.heap.size,0,none⟩=some (.bool false):=by rw [hc1 _ _ (by simp)];simp
    have x1:w1.cell? ⟨w.heap.size,1,none⟩=some (.slice none 0 0):=by rw [hc1 _ _ (by simp)];simp
    have x2:w1.cell? ⟨w.heap.size,2,none⟩=some (.int .i64 0):=by rw [hc1 _ _ (by simp)];simp
    have hz:w.heap.size<w1.heap.size:=by have h:=hb1.size;(try simp at h);omega
    have H5:=Lib.hid (((H.out.step (below_box' w _ _)).step hb1).box3 (g:=w.heap.size) (b:=false) (a:=none) (n:=0) (c:=0) (x:=0) hg.out x0 x1 x2 (.bool false) (.slice none 0 0) (.int .i64 0))
    clear hb1
    go_wp2_with fail
    first
      | exact bodyPost_ret (v:=.tuple #[.agg #[.bool false,.slice none 0 0,.int .i64 0],.bool true]) (by simp [results,Tryz.results152,go_sem,x0,x1,x2]) rfl ⟨_,rfl,H5.out.push (ent_nil _ _)⟩
      | exact bodyPost_ret (v:=.tuple #[.agg #[.bool false,.slice none 0 0,.int .i64 0],.bool false]) (by simp [results,Tryz.results152,go_sem,x0,x1,x2]) rfl ⟨_,rfl,H5.out.push (ent_nil _ _)⟩
end Go.Proofs.YtnacbakcalcgaaaGreatDoor
namespace Go.Proofs.YtnacbakcalcgaaaGreatDoor
open Go.RowKit
def pickC (l:List Cel) (S:List Nat):List Cel:=S.map fun p=>l.getD p zeroC
def pickK (l:List Cel) (S:List Nat) (k:Nat):List Cel:=pickC l (S.take k)++List.replicate (S.length - k) zeroC
theorem pickK_len (l:List Cel) (S:List Nat) {k:Nat} (h:k≤S.length):(pickK l S k).length=S.length:=by simp [pickK,pickC];omega
theorem pickK_zero (l:List Cel) (S:List Nat):pickK l S 0=List.replicate S.length zeroC:=by simp [pickK,pickC]
theorem pickK_all (l:List Cel) (S:List Nat):pickK l S S.length=pickC l S:=by simp [pickK]
theorem pickK_set (l:List Cel) (S:List Nat) {k:Nat} (h:k<S.length):(pickK l S k).set k (l.getD (S.getD k 0) zeroC)=pickK l S (k+1):=by
  unfold pickK pickC
  rw [List.set_append_right _ _ (by simp;omega),List.length_map,List.length_take,Nat.min_eq_left (by omega),Nat.sub_self,List.take_succ_eq_append_getElem h,List.map_append,List.append_assoc]
  congr 1
  obtain ⟨m,hm⟩:∃ m,S.length - k=m+1:=⟨S.length - k - 1,by omega⟩
  rw [hm,List.replicate_succ,List.set_cons_zero,show S.length - (k+1)=m by omega]
  simp [List.getD,h]
def PickPost (e:TypeId) (vs:List Value) (n:Nat) (w:World) (r:Ending) (w':World):Prop :=
  ∃ g,r=.returned (.slice (some ⟨g,0,none⟩) n n)∧w.heap.size≤g∧BlkV w' g e vs∧Below w.heap.size w w'
theorem pickT_any (ad:Option Addr) (n cap:Nat) (l:List Cel) (ad':Option Addr) (n' cap':Nat) (S:List Nat) (w:World) (hl:l.length=n) (hcap:n≤cap) (hm:n≤1000000) (hr:RdV w ad (flat l))
    (hS:S.length=n') (hcap':n'≤cap') (hm':n'≤1000000) (hr':RdV w ad' (S.map iv)) (hb:∀ p∈S,p<n) :
    Calls Tryz.prog 186 #[.slice ad n cap,.slice ad' n' cap'] w (PickPost 29 (flat (pickC l S)) n' w):=by
  have HL:=Lib.hid hl;have HR:=Lib.hid hr;have HS:=Lib.hid hS;have HR':=Lib.hid hr';have HB:=Lib.hid hb
  clear hl hr hS hr' hb
  go_enter Tryz.func186,Tryz.ntmps186
  go_wp2_with (at_make;refine wpl_make_trees _ rfl _ _ rfl _ _ _ _ n' rfl rfl rfl rfl (by omega) ?_)
  intro w1 hk1 hb1
  have HK:=Lib.hid hk1;have HBL:=Lib.hid hb1
  clear hk1 hb1
  go_wp2
  go_loopw [13] (fun i wr=>∃ k:Nat,k≤n'∧i=.int .i64 (k:Int)∧BlkV wr w.heap.size 29 (flat (pickK l S k))∧Below w.heap.size w wr) (fun i _=>n' - (intOf i).toNat)
  case atStart=>exact ⟨0,Nat.zero_le _,rfl,by rw [pickK_zero,HS.out];exact HK.out,HBL.out⟩
  case round =>
    obtain ⟨k,hk,rfl,hT,hbl⟩:=hrel
    have HT:=Lib.hid hT;have HBW:=Lib.hid hbl
    clear hT hbl
    by_cases hlt:k<n'
    · have h1:(k:Int)<(n':Int):=by omega
      have h2:(0:Int)≤(k:Int):=by omega
      obtain ⟨b',o',rfl,_,hc⟩:=(HR'.out.on HBW.out) k (by rw [List.length_map,HS.out];exact hlt)
      rw [iv_get _ _ (by rw [HS.out];exact hlt)] at hc
      have hp:=HB.out (S.getD k 0) (by simp [List.getD,HS.out,hlt])
      obtain ⟨b,o,rfl,_⟩:=(HR.out.on HBW.out).shape (by rw [flat_len,HL.out];omega)
      obtain ⟨c0,c1,c2,c3,c4,c5,c6,c7⟩:=flat_at (HR.out.on HBW.out) (S.getD k 0) (by rw [HL.out];exact hp) rfl
      obtain ⟨⟨z0,d0⟩,⟨z1,d1⟩,⟨z2,d2⟩,⟨z3,d3⟩,⟨z4,d4⟩,⟨z5,d5⟩,⟨z6,d6⟩,⟨z7,d7⟩⟩:=blk_olds HT.out (show k<(pickK l S k).length by rw [pickK_len _ _ (by rw [HS.out];exact hk),HS.out];exact hlt)
      have f0:=HT.out.free (k*8);have f1:=HT.out.free (k*8+1);have f2:=HT.out.free (k*8+2);have f3:=HT.out.free (k*8+3)
      have f4:=HT.out.free (k*8+4);have f5:=HT.out.free (k*8+5);have f6:=HT.out.free (k*8+6);have f7:=HT.out.free (k*8+7)
      have hnew:=put8_blk HT.out k (by rw [pickK_len _ _ (by rw [HS.out];exact hk),HS.out];exact hlt) (l.getD (S.getD k 0) zeroC)
      rw [pickK_set _ _ (by rw [HS.out];exact hlt)] at hnew
      have HNEW:=Lib.hid hnew;clear hnew
      have HB3:=Lib.hid (HBW.out.trans ((put8_but wr w.heap.size (k*8) (l.getD (S.getD k 0) zeroC)).below (Nat.le_refl _) HBW.out.size))
      unfold put8 at HNEW HB3
      generalize l.getD (S.getD k 0) zeroC=c at *
      generalize S.getD k 0=p at *
      have hp1:(p:Int)<(n:Int):=by omega
      have hp2:(0:Int)≤(p:Int):=by omega
      go_wp2_with fail
      go_roundw
      case rel=>exact ⟨k+1,by omega,by go_num,HNEW.out,HB3.out⟩
      case measure=>simp [intOf];omega
    · obtain rfl:k=n':=by omega
      have h1:¬ (k:Int)<(k:Int):=by omega
      have hT:=HT.out
      rw [← HS.out,pickK_all] at hT
      have HT2:=Lib.hid hT;clear hT
      go_wp2
      go_ret
      exact ⟨_,rfl,Nat.le_refl _,HT2.out,HBW.out⟩
end Go.Proofs.YtnacbakcalcgaaaGreatDoor
namespace Go.Proofs.YtnacbakcalcgaaaGreatDoor
section
variable {K : Type} [DecidableEq K]
theorem srt_next {lt:K→K→Bool} (h:Sto lt) (key:Nat→K) (n i:Nat) (hi:i+1<n) :
    lt (key ((srt lt key 0 n).getD (i+1) 0)) (key ((srt lt key 0 n).getD i 0))=false∧(key ((srt lt key 0 n).getD i 0)=key ((srt lt key 0 n).getD (i+1) 0)→(srt lt key 0 n).getD i 0<(srt lt key 0 n).getD (i+1) 0):=by
  have hs:=srt_sorted h key 0 n
  have hl:=srt_len lt key 0 n
  have hp:=srt_perm lt key 0 n
  have hnd:(srt lt key 0 n).Nodup:=hp.nodup_iff.2 List.nodup_range'
  generalize srt lt key 0 n=l at *
  have g:=List.pairwise_iff_getElem.1 hs i (i+1) (by omega) (by omega) (by omega)
  have gn:=List.pairwise_iff_getElem.1 hnd i (i+1) (by omega) (by omega) (by omega)
  simp only [List.getD,List.getElem?_eq_getElem (show i<l.length by omega),List.getElem?_eq_getElem (show i+1<l.length by omega),Option.getD_some]
  rw [leI_iff] at g
  rcases g with g | ⟨g,g'⟩
  · exact ⟨h.asym g,fun e=>by rw [e,h.irr] at g;cases g⟩
  · exact ⟨by rw [g];exact h.irr _,fun _=>by omega⟩
theorem srt_lt (lt:K→K→Bool) (key:Nat→K) (n i:Nat) (hi:i<n):(srt lt key 0 n).getD i 0<n:=by
  have hl:=srt_len lt key 0 n
  have:=@srt_mem K _ lt key 0 n ((srt lt key 0 n).getD i 0)
  have hm:(srt lt key 0 n).getD i 0∈srt lt key 0 n:=by
    simp only [List.getD,List.getElem?_eq_getElem (show i<(srt lt key 0 n).length by omega),Option.getD_some];exact List.getElem_mem _
  have:=this.1 hm;omega
theorem srt_has (lt:K→K→Bool) (key:Nat→K) (n x:Nat) (hx:x<n):∃ p,p<n∧(srt lt key 0 n).getD p 0=x:=by
  have hl:=srt_len lt key 0 n
  have hm:x∈srt lt key 0 n:=srt_mem.2 ⟨Nat.zero_le _,by omega⟩
  obtain ⟨p,hp,rfl⟩:=List.mem_iff_getElem.1 hm
  exact ⟨p,by omega,by simp [List.getD,hp]⟩
end
section
variable {K : Type}
def Low (key:Nat→K) (S:List Nat) (m lo:Nat) (f:Bool):Prop :=
  (f=false→lo=0∧∀ i,i+1<m→key (S.getD i 0) ≠ key (S.getD (i+1) 0)) ∧
  (f=true→(∃ i,i+1<m∧key (S.getD i 0)=key (S.getD (i+1) 0)∧lo=S.getD (i+1) 0)∧∀ i,i+1<m→key (S.getD i 0)=key (S.getD (i+1) 0)→lo≤S.getD (i+1) 0)
theorem Low.start (key:Nat→K) (S:List Nat):Low key S 1 0 false:=⟨fun _=>⟨rfl,fun i hi=>absurd hi (by omega)⟩,fun h=>by cases h⟩
theorem Low.keep {key:Nat→K} {S:List Nat} {m lo:Nat} {f:Bool} (h:Low key S (m+1) lo f) (hn:key (S.getD m 0) ≠ key (S.getD (m+1) 0)∨(f=true∧lo≤S.getD (m+1) 0)):Low key S (m+2) lo f:=by
  refine ⟨fun hf=>⟨(h.1 hf).1,fun i hi=>?_⟩,fun hf=>⟨?_,fun i hi he=>?_⟩⟩
  · by_cases e:i=m
    · subst e;rcases hn with hn | ⟨hn,_⟩
      · exact hn
      · rw [hn] at hf;cases hf
    · exact (h.1 hf).2 i (by omega)
  · obtain ⟨i,hi,h1,h2⟩:=(h.2 hf).1
    exact ⟨i,by omega,h1,h2⟩
  · by_cases e:i=m
    · subst e;rcases hn with hn | ⟨_,hn⟩
      · exact absurd he hn
      · exact hn
    · exact (h.2 hf).2 i (by omega) he
theorem Low.take {key:Nat→K} {S:List Nat} {m lo:Nat} {f:Bool} (h:Low key S (m+1) lo f) (he:key (S.getD m 0)=key (S.getD (m+1) 0)) (hl:f=false∨S.getD (m+1) 0<lo):Low key S (m+2) (S.getD (m+1) 0) true:=by
  refine ⟨(fun h=>by cases h),fun _=>⟨⟨m,by omega,he,rfl⟩,fun i hi hie=>?_⟩⟩
  by_cases e:i=m
  · subst e;exact Nat.le_refl _
  · rcases hl with hl | hl
    · exact absurd hie ((h.1 hl).2 i (by omega))
    · cases hf:f
      · exact absurd hie ((h.1 hf).2 i (by omega))
      · have:=(h.2 hf).2 i (by omega) hie;omega
def Twc (key:Nat→K) (n lo:Nat) (f:Bool):Prop :=
  (f=false→lo=0∧∀ j,j<n→∀ i,i<j→key i ≠ key j)∧(f=true→lo<n∧(∃ i,i<lo∧key i=key lo)∧∀ j,j<lo→∀ i,i<j→key i ≠ key j)
end
section
variable {K : Type} [DecidableEq K]
theorem twin_near {lt:K→K→Bool} (h:Sto lt) (key:Nat→K) {n i j:Nat} (hj:j<n) (hi:i<j) (e:key i=key j) :
    ∃ p,p+1<n∧(srt lt key 0 n).getD (p+1) 0=j∧key ((srt lt key 0 n).getD p 0)=key j:=by
  obtain ⟨p,hp,ep⟩:=srt_has lt key n j hj
  obtain ⟨q,hq,eq⟩:=srt_has lt key n i (by omega)
  have hs:=srt_sorted h key 0 n
  have hl:=srt_len lt key 0 n
  generalize srt lt key 0 n=l at *
  have gp:l[p]'(by omega)=j:=by rw [← ep];simp [List.getD,show p<l.length by omega]
  have gq:l[q]'(by omega)=i:=by rw [← eq];simp [List.getD,show q<l.length by omega]
  have hij:leI lt key i j=true:=by rw [leI_iff];exact .inr ⟨e,by omega⟩
  have hqp:q<p:=by
    rcases Nat.lt_trichotomy q p with h1 | h1 | h1
    · exact h1
    · subst h1;rw [ep] at eq;omega
    · have g:=List.pairwise_iff_getElem.1 hs p q (by omega) (by omega) h1
      rw [gp,gq] at g
      have:=leI_anti h key hij g;omega
  obtain ⟨r,rfl⟩:∃ r,p=r+1:=⟨p - 1,by omega⟩
  refine ⟨r,hp,ep,?_⟩
  have er:l.getD r 0=l[r]'(by omega):=by simp [List.getD,show r<l.length by omega]
  rw [er]
  have g1:=List.pairwise_iff_getElem.1 hs r (r+1) (by omega) (by omega) (by omega)
  rw [gp,leI_iff] at g1
  have g0:lt (key i) (key l[r])=true∨key i=key l[r]:=by
    rcases Nat.lt_or_ge q r with h1 | h1
    · have g:=List.pairwise_iff_getElem.1 hs q r (by omega) (by omega) h1
      rw [gq,leI_iff] at g
      exact g.imp id And.left
    · obtain rfl:q=r:=by omega
      exact .inr (by rw [gq])
  rcases g1 with g1 | ⟨g1,_⟩
  · rcases g0 with g0 | g0
    · have:=h.tr _ _ _ g0 g1;rw [e,h.irr] at this;cases this
    · rw [← g0,e]
  · exact g1
theorem Low.twc {lt:K→K→Bool} (h:Sto lt) {key:Nat→K} {n lo:Nat} {f:Bool} (hl:Low key (srt lt key 0 n) n lo f):Twc key n lo f:=by
  refine ⟨fun hf=>⟨(hl.1 hf).1,fun j hj i hi e=>?_⟩,fun hf=>?_⟩
  · obtain ⟨p,hp,e1,e2⟩:=twin_near h key hj hi e
    exact (hl.1 hf).2 p hp (by rw [e2,e1])
  · obtain ⟨⟨p,hp,e1,e2⟩,hmin⟩:=hl.2 hf
    have hn:=srt_next h key n p hp
    refine ⟨by rw [e2];exact srt_lt lt key n _ hp,⟨_,by rw [e2];exact hn.2 e1,by rw [e2];exact e1⟩,fun j hj i hi e=>?_⟩
    obtain ⟨q,hq,f1,f2⟩:=twin_near h key (show j<n by have:=srt_lt lt key n _ hp;omega) hi e
    have:=hmin q hq (by rw [f2,f1])
    rw [f1] at this;omega
end
end Go.Proofs.YtnacbakcalcgaaaGreatDoor
namespace Go.Proofs.YtnacbakcalcgaaaGreatDoor
open Go.RowKit
theorem less_any (a b:ByteArray) (w:World) :
    Calls Tryz.prog 181 #[.string a,.string b] w fun e w'=>e=.returned (.bool (Op.bytesLess a.toList b.toList))∧w=w':=by
  generalize hl:Op.bytesLess a.toList b.toList=r
  go_enter Tryz.func181,Tryz.ntmps181
  go_wp2
  go_ret
  exact ⟨rfl,rfl⟩
theorem cmp_less (i j n cap:Nat) (ad:Option Addr) (l:List ByteArray) (pa pl:Nat) (w:World) (hi:i<l.length) (hj:j<l.length) (hn:l.length=n) (hcap:n≤cap) (hm:n≤1000000000) (hr:RdV w ad (sv l))
    (ha:w.cell? ⟨pa,0,none⟩=some (.func (.func 181) #[] #[])) (hl:w.cell? ⟨pl,0,none⟩=some (.slice ad n cap)) :
    Calls Tryz.prog 180 #[.int .i64 (i:Int),.int .i64 (j:Int),.pointer (some ⟨pa,0,none⟩),.pointer (some ⟨pl,0,none⟩)] w fun e w'=>e=.returned (.bool (Op.bytesLess (l.getD i ByteArray.empty).toList (l.getD j ByteArray.empty).toList))∧∃ q,w'=w.drewN q:=by
  obtain ⟨b,o,rfl,_,ci⟩:=hr i (by rw [sv_len];exact hi)
  have cj:=hr.at j (by rw [sv_len];exact hj)
  rw [sv_get l i hi] at ci
  rw [sv_get l j hj] at cj
  have K:=Lib.hid (less_any (l.getD i ByteArray.empty) (l.getD j ByteArray.empty))
  clear hr
  have HN:=Lib.hid hn;clear hn
  generalize l.getD i ByteArray.empty=x at *
  generalize l.getD j ByteArray.empty=y at *
  have hi1:(0:Int)≤(i:Int):=by omega
  have hi2:(i:Int)<(n:Int):=by have:=HN.out;omega
  have hj1:(0:Int)≤(j:Int):=by omega
  have hj2:(j:Int)<(n:Int):=by have:=HN.out;omega
  go_enter Tryz.func180,Tryz.ntmps180
  go_wp2
  go_quiet ((go_at_call 181;exact Calls.quiet_of_same ((K.out _).mono fun _ _ h=>⟨h.1,h.2.symm⟩)))
  go_wp2
  go_ret
  exact ⟨rfl,_,rfl⟩
def CmpOk (lt:List UInt8→List UInt8→Bool) (key:Nat→List UInt8) (n pa pl B0:Nat) (w0:World):Prop :=
  ∀ W,Below B0 w0 W→∀ i j:Nat,i<n→j<n→Calls Tryz.prog 180 #[.int .i64 (i:Int),.int .i64 (j:Int),.pointer (some ⟨pa,0,none⟩),.pointer (some ⟨pl,0,none⟩)] W fun e w'=>e=.returned (.bool (lt (key i) (key j)))∧∃ q,w'=W.drewN q
def cmpF (pa pl:Nat):Value:=.func (.func 180) #[] #[.pointer (some ⟨pa,0,none⟩),.pointer (some ⟨pl,0,none⟩)]
def fillT (T M:List Nat) (s k:Nat):List Nat:=T.take s++M.take k++T.drop (s+k)
theorem fillT_len {T M:List Nat} {s k:Nat} (h1:s+k≤T.length) (h2:k≤M.length):(fillT T M s k).length=T.length:=by
  unfold fillT;simp;omega
theorem fillT_zero (T M:List Nat) (s:Nat):fillT T M s 0=T:=by simp [fillT]
theorem fillT_set {T M:List Nat} {s k:Nat} (h1:s+k<T.length) (h2:k<M.length):(fillT T M s k).set (s+k) (M.getD k 0)=fillT T M s (k+1):=by
  unfold fillT
  apply List.ext_getElem?
  intro i
  rw [List.getElem?_set]
  by_cases e:s+k=i
  · subst e
    rw [if_pos rfl,if_pos (by simp;omega)]
    rw [List.getElem?_append_left (by simp;omega),List.getElem?_append_right (by simp;omega)]
    simp only [List.length_take]
    rw [Nat.min_eq_left (by omega),Nat.add_sub_cancel_left,List.getElem?_take,if_pos (by omega)]
    simp [List.getD,h2]
  · rw [if_neg e]
    simp only [List.append_assoc,List.getElem?_append,List.getElem?_take,List.length_take,List.getElem?_drop]
    rw [Nat.min_eq_left (show s≤T.length by omega),Nat.min_eq_left (show k≤M.length by omega),Nat.min_eq_left (show k+1≤M.length by omega)]
    by_cases h:i<s
    · simp [h]
    · by_cases h':i - s<k
      · simp [h,h',show i - s<k+1 by omega]
      · simp only [h,h',show ¬ i - s<k+1 by omega,if_false]
        congr 1;omega
def MR (lt : List UInt8 → List UInt8 → Bool) (key : Nat → List UInt8) (n g s m : Nat) (M T : List Nat) (w : World) (a b i : Value) (wr : World) : Prop :=
  ∃ (k : Nat) (A B : List Nat) (ad1 ad2 : Option Addr) (c1 c2 : Nat), i = .int .i64 (k : Int) ∧ k + (A.length + B.length) = m ∧ a = .slice ad1 A.length c1 ∧ b = .slice ad2 B.length c2 ∧ A.length ≤ c1 ∧ B.length ≤ c2 ∧
    RdV wr ad1 (A.map iv) ∧ RdV wr ad2 (B.map iv) ∧ (∀ x, ad1 = some x → 0 < A.length → x.block ≠ g) ∧ (∀ x, ad2 = some x → 0 < B.length → x.block ≠ g) ∧
    mrg lt key A B = M.drop k ∧ (∀ x ∈ A, x < n) ∧ (∀ x ∈ B, x < n) ∧ (∀ x ∈ A, ∀ y ∈ B, x < y) ∧ BlkV wr g 3 ((fillT T M s k).map iv) ∧ But g w wr
theorem drop_get {M R:List Nat} {k y:Nat} (h:M.drop k=y::R):k<M.length∧M.getD k 0=y∧M.drop (k+1)=R:=by
  have hk:k<M.length:=by
    rcases Nat.lt_or_ge k M.length with h1 | h1
    · exact h1
    · rw [List.drop_of_length_le h1] at h;cases h
  rw [List.drop_eq_getElem_cons hk] at h
  injection h with h1 h2
  exact ⟨hk,by simp [List.getD,hk,h1],h2⟩
theorem iv_set (l:List Nat) (i x:Nat):(l.map iv).set i (.int .i64 (x:Int))=(l.set i x).map iv:=by
  rw [List.map_set];rfl
theorem fill_blk {w:World} {g s k m x:Nat} {T M R:List Nat} {W:World} (hT:BlkV W g 3 ((fillT T M s k).map iv)) (hd:M.drop k=x::R) (hse:s+m≤T.length) (hk:k<m) :
    BlkV (W.setCell ⟨g,s+k,none⟩ (.int .i64 (x:Int))) g 3 ((fillT T M s (k+1)).map iv):=by
  obtain ⟨h1,h2,h3⟩:=drop_get hd
  have:=hT.set (s+k) (.int .i64 (x:Int))
  rw [iv_set,← h2,fillT_set (by omega) h1,h2] at this
  exact this
theorem keep_rd {W:World} {g i:Nat} {v:Value} {ad:Option Addr} {A:List Nat} (h:RdV W ad (A.map iv)) (n:∀ x,ad=some x→0<A.length→x.block ≠ g):RdV (W.setCell ⟨g,i,none⟩ v) ad (A.map iv) :=
  ((But.refl g W).setCell i v).rd h (fun a e hp=>n a e (by simpa using hp))
theorem MR.right {lt:List UInt8→List UInt8→Bool} {key:Nat→List UInt8} {n g s m k:Nat} {M T A B:List Nat} {y:Nat} {w wr:World} {ad1 ad2:Option Addr} {c1 c2:Nat} {q:Nat} (hk:k+(A.length+(B.length+1))=m) (h1:A.length≤c1) (h2:B.length≤c2)
    (r1:RdV wr ad1 (A.map iv)) (r2:RdV wr ad2 (B.map iv)) (n1:∀ x,ad1=some x→0<A.length→x.block ≠ g) (n2:∀ x,ad2=some x→0<B.length→x.block ≠ g)
    (hM:mrg lt key A (y::B)=M.drop k) (hy:mrg lt key A (y::B)=y::mrg lt key A B) (a1:∀ x∈A,x<n) (a2:∀ x∈y::B,x<n) (a3:∀ x∈A,∀ z∈y::B,x<z)
    (hT:BlkV wr g 3 ((fillT T M s k).map iv)) (hb:But g w wr) (hse:s+m≤T.length):MR lt key n g s m M T w (.slice ad1 A.length c1) (.slice ad2 B.length c2) (.int .i64 ((k:Int)+1)) ((wr.drewN q).setCell ⟨g,s+k,none⟩ (.int .i64 (y:Int))):=by
  rw [hy] at hM
  exact ⟨k+1,A,B,ad1,ad2,c1,c2,rfl,by omega,rfl,rfl,h1,h2,keep_rd (W:=wr.drewN q) r1 n1,keep_rd (W:=wr.drewN q) r2 n2,n1,n2,(drop_get hM.symm).2.2.symm,a1,fun x hx=>a2 x (by simp [hx]),fun x hx z hz=>a3 x hx z (by simp [hz]),
    fill_blk (w:=w) (m:=m) (W:=wr.drewN q) hT hM.symm hse (by omega),(hb.drewN q).setCell _ _⟩
theorem MR.left {lt:List UInt8→List UInt8→Bool} {key:Nat→List UInt8} {n g s m k:Nat} {M T A B:List Nat} {x:Nat} {w wr:World} {ad1 ad2:Option Addr} {c1 c2:Nat} {q:Nat} (hk:k+((A.length+1)+B.length)=m) (h1:A.length≤c1) (h2:B.length≤c2)
    (r1:RdV wr ad1 (A.map iv)) (r2:RdV wr ad2 (B.map iv)) (n1:∀ x,ad1=some x→0<A.length→x.block ≠ g) (n2:∀ x,ad2=some x→0<B.length→x.block ≠ g)
    (hM:mrg lt key (x::A) B=M.drop k) (hx:mrg lt key (x::A) B=x::mrg lt key A B) (a1:∀ z∈x::A,z<n) (a2:∀ x∈B,x<n) (a3:∀ u∈x::A,∀ z∈B,u<z)
    (hT:BlkV wr g 3 ((fillT T M s k).map iv)) (hb:But g w wr) (hse:s+m≤T.length):MR lt key n g s m M T w (.slice ad1 A.length c1) (.slice ad2 B.length c2) (.int .i64 ((k:Int)+1)) ((wr.drewN q).setCell ⟨g,s+k,none⟩ (.int .i64 (x:Int))):=by
  rw [hx] at hM
  exact ⟨k+1,A,B,ad1,ad2,c1,c2,rfl,by omega,rfl,rfl,h1,h2,keep_rd (W:=wr.drewN q) r1 n1,keep_rd (W:=wr.drewN q) r2 n2,n1,n2,(drop_get hM.symm).2.2.symm,fun u hu=>a1 u (by simp [hu]),a2,fun u hu z hz=>a3 u (by simp [hu]) z hz,
    fill_blk (w:=w) (m:=m) (W:=wr.drewN q) hT hM.symm hse (by omega),(hb.drewN q).setCell _ _⟩
theorem rest_rd {W:World} {b o c g:Nat} {x:Nat} {A:List Nat} (h:RdV W (some ⟨b,o,none⟩) ((x::A).map iv)) (hc:A.length+1≤c) (n:∀ z,(some ⟨b,o,none⟩:Option Addr)=some z→0<(x::A).length→z.block ≠ g) :
    ∃ o2,(if c=1 then (some ⟨b,o,none⟩:Option Addr) else some ⟨b,o+1,none⟩)=some ⟨b,o2,none⟩∧RdV W (some ⟨b,o2,none⟩) (A.map iv)∧(∀ z,(some ⟨b,o2,none⟩:Option Addr)=some z→0<A.length→z.block ≠ g):=by
  have hb:b ≠ g:=n _ rfl (by simp)
  by_cases h1:c=1
  · have hA:A=[]:=by cases A with
      | nil=>rfl
      | cons=>simp at hc;omega
    subst hA
    exact ⟨o,by rw [if_pos h1],RdV.nil _ _,fun z _ hp=>absurd hp (by simp)⟩
  · exact ⟨o+1,by rw [if_neg h1],h.drop 1,fun z e _=>by cases e;exact hb⟩
theorem merge_any {lt:List UInt8→List UInt8→Bool} (hs:Sto lt) {key:Nat→List UInt8} {n pa pl B0:Nat} {w0:World} (hc:CmpOk lt key n pa pl B0 w0) (g s m capO:Nat) (ad1 ad2:Option Addr) (c1 c2:Nat) (A B T:List Nat) (w:World)
    (hm:A.length+B.length=m) (h1:A.length≤c1) (h2:B.length≤c2) (hmm:m≤1000000000) (r1:RdV w ad1 (A.map iv)) (r2:RdV w ad2 (B.map iv)) (n1:∀ x,ad1=some x→0<A.length→x.block ≠ g) (n2:∀ x,ad2=some x→0<B.length→x.block ≠ g)
    (a1:∀ x∈A,x<n) (a2:∀ x∈B,x<n) (a3:∀ x∈A,∀ y∈B,x<y) (hT:BlkV w g 3 (T.map iv)) (hse:s+m≤T.length) (hco:m≤capO) (hw:Below B0 w0 w) (hg:B0≤g) (hB:B0≤w.heap.size) :
    Calls Tryz.prog 202 #[.slice (some ⟨g,s,none⟩) m capO,.slice ad1 A.length c1,.slice ad2 B.length c2,cmpF pa pl] w fun e w'=>e=.returned (.tuple #[])∧BlkV w' g 3 ((fillT T (mrg lt key A B) s m).map iv)∧But g w w':=by
  have HST:=Lib.hid (show MR lt key n g s m (mrg lt key A B) T w (.slice ad1 A.length c1) (.slice ad2 B.length c2) (.int .i64 0) w from
    ⟨0,A,B,ad1,ad2,c1,c2,rfl,by omega,rfl,rfl,h1,h2,r1,r2,n1,n2,rfl,a1,a2,a3,by rw [fillT_zero];exact hT,But.refl _ _⟩)
  have HML:=Lib.hid (show (mrg lt key A B).length=m by rw [mrg_len];exact hm)
  clear r1 r2 n1 n2 a1 a2 a3 hT h1 h2
  generalize mrg lt key A B=M at *
  generalize A.length=la at *
  generalize B.length=lb at *
  have HC:=Lib.hid hc;have HW:=Lib.hid hw
  clear hc hw hm A B
  unfold cmpF
  go_enter Tryz.func202,Tryz.ntmps202
  go_wp2
  go_loopw [1,2,11] (fun a b i wr=>MR lt key n g s m M T w a b i wr) (fun _ _ i _=>m - (intOf i).toNat)
  case atStart=>exact HST.out
  case round =>
    obtain ⟨k,A,B,ad1,ad2,c1,c2,rfl,hk,rfl,rfl,h1,h2,r1,r2,n1,n2,hM,a1,a2,a3,hT,hBut⟩:=hrel
    have HM:=Lib.hid hM;clear hM
    have HT:=Lib.hid hT;clear hT
    by_cases hlt:k<m
    · rcases A with _ | ⟨x,A⟩
      · rcases B with _ | ⟨y,B⟩
        · simp at hk;omega
        · obtain ⟨b2,o2,rfl,hb2⟩:=r2.shape (by simp)
          have hcy:wr.cell? ⟨b2,o2,none⟩=some (.int .i64 (y:Int)):=by simpa [iv] using r2.at 0 (by simp)
          obtain ⟨o3,ho3,r3,n3⟩:=rest_rd r2 h2 n2
          have HO:=Lib.hid ho3;clear ho3
          have hk1:(k:Int)<(m:Int):=by omega
          have hk2:(0:Int)≤(k:Int):=by omega
          have hfz:=HT.out.free (s+k)
          obtain ⟨z,hold⟩:∃ z:Nat,wr.cell? ⟨g,s+k,none⟩=some (.int .i64 (z:Int)):=⟨_,(HT.out.cell _).trans (iv_get _ _ (by rw [fillT_len (by omega) (by have:=HML.out;omega)];omega))⟩
          have HR:=Lib.hid (fun q=>MR.right (lt:=lt) (key:=key) (n:=n) (w:=w) (A:=[]) (c2:=c2 - 1) (q:=q) (by simpa using hk) h1 (by simp at h2;omega) r1 r3 n1 n3 HM.out (by rw [mrg_nil_left,mrg_nil_left]) a1 a2 a3 HT.out hBut hse)
          clear r1 r2 r3 n1 n2 n3 a1 a2 a3 hBut
          simp only [List.length_nil,List.length_cons] at h1 h2 hk ⊢
          generalize B.length=lb at *
          have h2':(1:Int)≤(lb:Int)+1:=by omega
          by_cases hcc:c2=1
          · have HO2:=Lib.hid HO.out
            rw [if_pos hcc] at HO2
            obtain rfl:o2=o3:=by have:=HO2.out;simpa using this
            obtain rfl:lb=0:=by omega
            clear HO HO2
            subst hcc
            go_wp2
            go_quiet (fail)
            go_wp2
            go_region
            all_goals
              go_wp2
              go_roundw
              case rel=>exact HR.out _
              case measure=>simp [intOf];omega
          · have HO2:=Lib.hid HO.out
            rw [if_neg hcc] at HO2
            obtain rfl:o3=o2+1:=by have:=HO2.out;simpa using this.symm
            clear HO HO2
            go_wp2
            go_quiet (fail)
            go_wp2
            go_region
            all_goals
              go_wp2
              go_roundw
              case rel=>exact HR.out _
              case measure=>simp [intOf];omega
      · rcases B with _ | ⟨y,B⟩
        · obtain ⟨b1,o1,rfl,hb1⟩:=r1.shape (by simp)
          have hcx:wr.cell? ⟨b1,o1,none⟩=some (.int .i64 (x:Int)):=by simpa [iv] using r1.at 0 (by simp)
          obtain ⟨o3,ho3,r3,n3⟩:=rest_rd r1 h1 n1
          have HO:=Lib.hid ho3;clear ho3
          have hk1:(k:Int)<(m:Int):=by omega
          have hk2:(0:Int)≤(k:Int):=by omega
          have hfz:=HT.out.free (s+k)
          obtain ⟨z,hold⟩:∃ z:Nat,wr.cell? ⟨g,s+k,none⟩=some (.int .i64 (z:Int)):=⟨_,(HT.out.cell _).trans (iv_get _ _ (by rw [fillT_len (by omega) (by have:=HML.out;omega)];omega))⟩
          have HR:=Lib.hid (fun q=>MR.left (lt:=lt) (key:=key) (n:=n) (w:=w) (B:=[]) (c1:=c1 - 1) (q:=q) (by simpa using hk) (by simp at h1;omega) h2 r3 r2 n3 n2 HM.out (by rw [mrg_nil_right,mrg_nil_right]) a1 a2 a3 HT.out hBut hse)
          clear r1 r2 r3 n1 n2 n3 a1 a2 a3 hBut
          simp only [List.length_nil,List.length_cons] at h1 h2 hk ⊢
          generalize A.length=la at *
          have h2':(1:Int)≤(la:Int)+1:=by omega
          have h3':((la:Int)+1 == 0)=false:=by first | (simp;done) | (simp;omega)
          by_cases hcc:c1=1
          · have HO2:=Lib.hid HO.out
            rw [if_pos hcc] at HO2
            obtain rfl:o1=o3:=by have:=HO2.out;simpa using this
            obtain rfl:la=0:=by omega
            clear HO HO2
            subst hcc
            go_wp2
            go_quiet (fail)
            go_wp2
            go_region
            all_goals
              go_wp2
              go_roundw
              case rel=>exact HR.out _
              case measure=>simp [intOf];omega
          · have HO2:=Lib.hid HO.out
            rw [if_neg hcc] at HO2
            obtain rfl:o3=o1+1:=by have:=HO2.out;simpa using this.symm
            clear HO HO2
            go_wp2
            go_quiet (fail)
            go_wp2
            go_region
            all_goals
              go_wp2
              go_roundw
              case rel=>exact HR.out _
              case measure=>simp [intOf];omega
        · obtain ⟨b1,o1,rfl,hb1⟩:=r1.shape (by simp)
          have hcx:wr.cell? ⟨b1,o1,none⟩=some (.int .i64 (x:Int)):=by simpa [iv] using r1.at 0 (by simp)
          obtain ⟨b2,o2,rfl,hb2⟩:=r2.shape (by simp)
          have hcy:wr.cell? ⟨b2,o2,none⟩=some (.int .i64 (y:Int)):=by simpa [iv] using r2.at 0 (by simp)
          have hk1:(k:Int)<(m:Int):=by omega
          have hk2:(0:Int)≤(k:Int):=by omega
          have hfz:=HT.out.free (s+k)
          obtain ⟨z,hold⟩:∃ z:Nat,wr.cell? ⟨g,s+k,none⟩=some (.int .i64 (z:Int)):=⟨_,(HT.out.cell _).trans (iv_get _ _ (by rw [fillT_len (by omega) (by have:=HML.out;omega)];omega))⟩
          have hxy:=a3 x (by simp) y (by simp)
          have hle:=leI_lt hs key hxy
          have HBW:=Lib.hid (HW.out.trans (hBut.below hg hB))
          have KC:=Lib.hid (fun q=>HC.out (wr.drewN q) (below_drewN HBW.out q) y x (a2 y (by simp)) (a1 x (by simp)))
          cases hlt2:lt (key y) (key x)
          · rw [hlt2] at KC hle
            obtain ⟨o3,ho3,r3,n3⟩:=rest_rd r1 h1 n1
            have HO:=Lib.hid ho3;clear ho3
            have HR:=Lib.hid (fun q=>MR.left (lt:=lt) (key:=key) (n:=n) (w:=w) (B:=y::B) (c1:=c1 - 1) (q:=q) (by simpa using hk) (by simp at h1;omega) h2 r3 r2 n3 n2 HM.out (mrg_left hle) a1 a2 a3 HT.out hBut hse)
            clear r1 r2 r3 n1 n2 n3 a1 a2 a3 hBut hle hlt2 hxy
            simp only [List.length_cons] at HR
            simp only [List.length_nil,List.length_cons] at h1 h2 hk ⊢
            generalize A.length=la at *
            generalize B.length=lb at *
            have h2':(1:Int)≤(la:Int)+1:=by omega
            have h2'':(1:Int)≤(lb:Int)+1:=by omega
            have h3':((la:Int)+1 == 0)=false:=by first | (simp;done) | (simp;omega)
            have h4':decide ((0:Int)<(lb:Int)+1)=true:=by first | (simp;done) | (simp;omega)
            by_cases hcc:c1=1
            · have HO2:=Lib.hid HO.out
              rw [if_pos hcc] at HO2
              obtain rfl:o1=o3:=by have:=HO2.out;simpa using this
              obtain rfl:la=0:=by omega
              clear HO HO2
              subst hcc
              go_wp2
              go_quiet (((go_at_call 180;exact Calls.quiet_of (KC.out _))))
              go_wp2
              go_region
              all_goals
                go_wp2
                go_roundw
                case rel=>exact HR.out _
                case measure=>simp [intOf];omega
            · have HO2:=Lib.hid HO.out
              rw [if_neg hcc] at HO2
              obtain rfl:o3=o1+1:=by have:=HO2.out;simpa using this.symm
              clear HO HO2
              go_wp2
              go_quiet (((go_at_call 180;exact Calls.quiet_of (KC.out _))))
              go_wp2
              go_region
              all_goals
                go_wp2
                go_roundw
                case rel=>exact HR.out _
                case measure=>simp [intOf];omega
          · rw [hlt2] at KC hle
            obtain ⟨o3,ho3,r3,n3⟩:=rest_rd r2 h2 n2
            have HO:=Lib.hid ho3;clear ho3
            have HR:=Lib.hid (fun q=>MR.right (lt:=lt) (key:=key) (n:=n) (w:=w) (A:=x::A) (c2:=c2 - 1) (q:=q) (by simpa using hk) h1 (by simp at h2;omega) r1 r3 n1 n3 HM.out (mrg_right hle) a1 a2 a3 HT.out hBut hse)
            clear r1 r2 r3 n1 n2 n3 a1 a2 a3 hBut hle hlt2 hxy
            simp only [List.length_cons] at HR
            simp only [List.length_nil,List.length_cons] at h1 h2 hk ⊢
            generalize A.length=la at *
            generalize B.length=lb at *
            have h2':(1:Int)≤(la:Int)+1:=by omega
            have h2'':(1:Int)≤(lb:Int)+1:=by omega
            have h3':((la:Int)+1 == 0)=false:=by first | (simp;done) | (simp;omega)
            have h4':decide ((0:Int)<(lb:Int)+1)=true:=by first | (simp;done) | (simp;omega)
            by_cases hcc:c2=1
            · have HO2:=Lib.hid HO.out
              rw [if_pos hcc] at HO2
              obtain rfl:o2=o3:=by have:=HO2.out;simpa using this
              obtain rfl:lb=0:=by omega
              clear HO HO2
              subst hcc
              go_wp2
              go_quiet (((go_at_call 180;exact Calls.quiet_of (KC.out _))))
              go_wp2
              go_region
              all_goals
                go_wp2
                go_roundw
                case rel=>exact HR.out _
                case measure=>simp [intOf];omega
            · have HO2:=Lib.hid HO.out
              rw [if_neg hcc] at HO2
              obtain rfl:o3=o2+1:=by have:=HO2.out;simpa using this.symm
              clear HO HO2
              go_wp2
              go_quiet (((go_at_call 180;exact Calls.quiet_of (KC.out _))))
              go_wp2
              go_region
              all_goals
                go_wp2
                go_roundw
                case rel=>exact HR.out _
                case measure=>simp [intOf];omega
    · obtain rfl:k=m:=by omega
      have HF:=Lib.hid hBut
      clear r1 r2 n1 n2 a1 a2 a3 hBut
      generalize A.length=la at *
      generalize B.length=lb at *
      go_wp2
      go_end0
      exact ⟨rfl,HT.out,HF.out⟩
set_option maxRecDepth 100000
def SortPost (lt:List UInt8→List UInt8→Bool) (key:Nat→List UInt8) (n B0:Nat) (w:World) (e:Ending) (w':World):Prop :=
  ∃ g,e=.returned (.slice (some ⟨g,0,none⟩) n n)∧B0≤g∧BlkV w' g 3 ((srt lt key 0 n).map iv)∧Below B0 w w'
def SO (lt : List UInt8 → List UInt8 → Bool) (key : Nat → List UInt8) (n B0 : Nat) (w : World) (f t r : Value) (wr : World) : Prop :=
  ∃ (q ga gb : Nat) (F T : List Nat), r = .int .i64 (q : Int) ∧ f = .slice (some ⟨ga, 0, none⟩) n n ∧ t = .slice (some ⟨gb, 0, none⟩) n n ∧ 0 < q ∧ q ≤ 2000000 ∧ ga ≠ gb ∧ B0 ≤ ga ∧ B0 ≤ gb ∧
    BlkV wr ga 3 (F.map iv) ∧ BlkV wr gb 3 (T.map iv) ∧ Runs lt key q n n F ∧ T.length = n ∧ Below B0 w wr
def SIo (lt:List UInt8→List UInt8→Bool) (key:Nat→List UInt8) (n B0 q ga gb:Nat) (F:List Nat) (w:World) (s:Value) (wr:World):Prop :=
  ∃ (k:Nat) (T:List Nat),s=.int .i64 ((k*(2*q):Nat):Int)∧BlkV wr ga 3 (F.map iv)∧BlkV wr gb 3 (T.map iv)∧Runs lt key (2*q) n (k*(2*q)) T∧Below B0 w wr∧k*(2*q)≤n+2*q
theorem run_has {lt:List UInt8→List UInt8→Bool} {key:Nat→List UInt8} {r n k:Nat} {F:List Nat} (h:Runs lt key r n n F) (hk:k*r<n):∀ x∈(F.drop (k*r)).take r,k*r≤x∧x<k*r+r∧x<n:=by
  intro x hx
  rw [h.2 k hk hk,srt_mem] at hx
  omega
theorem but_below {B0 g:Nat} {w w':World} (h:But g w w') (hg:B0≤g) {w1:World} (hb:Below B0 w1 w) (hB:B0≤w1.heap.size):Below B0 w1 w':=hb.trans (h.below hg (Nat.le_trans hB hb.size))
theorem SIo.merge {lt:List UInt8→List UInt8→Bool} (hs:Sto lt) {key:Nat→List UInt8} {n pa pl B0 q ga gb k S:Nat} {F T:List Nat} {w0 w W:World} (hc:CmpOk lt key n pa pl B0 w0) (hw:Below B0 w0 w) (hB:B0≤w.heap.size) (hm:n≤1000000) (hq:0<q) (hne:ga ≠ gb) (hga:B0≤ga) (hgb:B0≤gb)
    (hFb:BlkV W ga 3 (F.map iv)) (hTb:BlkV W gb 3 (T.map iv)) (hR:Runs lt key q n n F) (hRT:Runs lt key (2*q) n (k*(2*q)) T) (hbl:Below B0 w W) (hS:S=k*(2*q)) (hlt:S<n)
    (lo la lb co ca cb:Nat) (adB:Option Addr) (hla:la=min (S+q) n - S) (hlb:lb=min (S+2*q) n - min (S+q) n) (hlo:lo=la+lb) (hco:lo≤co) (hca:la≤ca) (hcb:lb≤cb) (hA:lb ≠ 0→adB=some ⟨ga,min (S+q) n,none⟩) :
    Calls Tryz.prog 202 #[.slice (some ⟨gb,S,none⟩) lo co,.slice (some ⟨ga,S,none⟩) la ca,.slice adB lb cb,cmpF pa pl] W fun e w'=>e=.returned (.tuple #[])∧SIo lt key n B0 q ga gb F w (.int .i64 ((S:Int)+2*(q:Int))) w':=by
  have hF:=hR.1
  have hTl:=hRT.1
  have lA:((F.drop S).take la).length=la:=by rw [List.length_take,List.length_drop,hF];omega
  have lB:((F.drop (min (S+q) n)).take lb).length=lb:=by rw [List.length_take,List.length_drop,hF];omega
  have e2:k*(2*q)=(2*k)*q:=by rw [← Nat.mul_assoc,Nat.mul_comm k 2]
  have hAm:∀ x∈(F.drop S).take la,S≤x∧x<S+q∧x<n:=fun x hx=>by
    have:=run_has hR (k:=2*k) (by omega) x (by
      rw [← e2,← hS]
      rw [hla,show min (S+q) n - S=min (min (S+q) n - S) q by omega,← List.take_take] at hx
      exact List.mem_of_mem_take hx)
    omega
  have hBm:∀ x∈(F.drop (min (S+q) n)).take lb,S+q≤x∧x<n:=fun x hx=>by
    by_cases h:S+q<n
    · have e3:S+q=(2*k+1)*q:=by rw [Nat.add_mul,Nat.one_mul,← e2,hS]
      have:=run_has hR (k:=2*k+1) (by omega) x (by
        rw [← e3]
        rw [Nat.min_eq_left (by omega),show lb=min lb q by omega,← List.take_take] at hx
        exact List.mem_of_mem_take hx)
      omega
    · rw [show lb=0 by omega,List.take_zero] at hx;cases hx
  have r1:RdV W (some ⟨ga,S,none⟩) (((F.drop S).take la).map iv):=by rw [List.map_take,List.map_drop];exact hFb.rd S la
  have r2:RdV W adB (((F.drop (min (S+q) n)).take lb).map iv):=by
    by_cases h:lb=0
    · rw [h,List.take_zero];exact RdV.nil _ _
    · rw [hA h,List.map_take,List.map_drop];exact hFb.rd _ lb
  have K:=merge_any hs hc gb S lo co (some ⟨ga,S,none⟩) adB ca cb ((F.drop S).take la) ((F.drop (min (S+q) n)).take lb) T W (by rw [lA,lB];omega) (by rw [lA];exact hca) (by rw [lB];exact hcb) (by omega) r1 r2
    (fun x e _=>by cases e;exact hne) (fun x e hp=>by rw [lB] at hp;rw [hA (by omega)] at e;cases e;exact hne) (fun x hx=>(hAm x hx).2.2) (fun x hx=>(hBm x hx).2)
    (fun x hx y hy=>by have:=hAm x hx;have:=hBm y hy;omega) hTb (by rw [hTl];omega) hco (hw.trans hbl) hgb (Nat.le_trans hB hbl.size)
  rw [lA,lB] at K
  refine K.mono ?_
  rintro e w' ⟨he,hb,hbut⟩
  refine ⟨he,k+1,fillT T (mrg lt key ((F.drop S).take la) ((F.drop (min (S+q) n)).take lb)) S lo,?_,hbut.blk hFb hne,hb,?_,but_below hbut hgb hbl hB,?_⟩
  · congr 1;rw [Nat.add_mul,Nat.one_mul,← hS];omega
  · have hst:=hR.step hs hq hRT (by omega)
    rw [← hS,← hla,← hlb] at hst
    unfold fillT
    have hl:(mrg lt key ((F.drop S).take la) ((F.drop (min (S+q) n)).take lb)).length≤lo:=by rw [mrg_len,lA,lB];omega
    rw [show S+lo=min (S+2*q) n by omega,List.take_of_length_le hl]
    exact hst
  · rw [Nat.add_mul,Nat.one_mul,← hS];omega
theorem mergeSort_any {lt:List UInt8→List UInt8→Bool} (hs:Sto lt) {key:Nat→List UInt8} {n pa pl B0:Nat} {w0:World} (hc:CmpOk lt key n pa pl B0 w0) (g:Nat) (w:World) (hm:n≤1000000)
    (hF:BlkV w g 3 ((List.range n).map iv)) (hw:Below B0 w0 w) (hg:B0≤g) (hB:B0≤w.heap.size) :
    Calls Tryz.prog 179 #[.slice (some ⟨g,0,none⟩) n n,cmpF pa pl] w (SortPost lt key n B0 w):=by
  have HF:=Lib.hid hF;have HC:=Lib.hid hc;have HW:=Lib.hid hw;have HB:=Lib.hid hB
  have HGL:=Lib.hid hF.lt
  clear hF hc hw hB
  have hmk:=fun W=>run_make_row' (P:=Tryz.prog) 40 3 (.int .i64 0) 8 Tryz.underlying40 info_int rfl .i64 .i64 n (by omega) (by omega) W
  go_enter Tryz.func179,Tryz.ntmps179
  go_wp2
  go_region
  clear hmk
  go_wp2
  go_loopw [6,7,8] (fun f t r wr=>SO lt key n B0 w f t r wr) (fun _ _ r _=>n - (intOf r).toNat)
  case atStart=>exact ⟨1,g,w.heap.size,List.range n,List.replicate n 0,rfl,rfl,rfl,by decide,by decide,by have:=HGL.out;omega,hg,HB.out,HF.out.below (B:=w.heap.size) ((Below.refl _ _).alloc (Nat.le_refl _) _).drew HGL.out,by rw [← rep_iv];exact made_blk _ _ _ _,Runs.start lt key n,by simp,((Below.refl _ _).alloc HB.out _).drew⟩
  case round =>
    obtain ⟨q,ga,gb,F,T,rfl,rfl,rfl,hq0,hq1,hne,hga,hgb,hFb,hTb,hR,hT,hbl⟩:=hrel
    have HFb:=Lib.hid hFb;have HTb:=Lib.hid hTb;have HR:=Lib.hid hR;have HT:=Lib.hid hT;have HBL:=Lib.hid hbl
    clear hFb hTb hR hT hbl
    by_cases hlt:q<n
    · go_wp2
      go_loopw [9] (fun s wr=>SIo lt key n B0 q ga gb F w s wr) (fun s _=>n - (intOf s).toNat)
      case atStart=>exact ⟨0,T,by simp,HFb.out,HTb.out,by rw [Nat.zero_mul];exact Runs.empty _ _ _ _ _ HT.out,HBL.out,by omega⟩
      case round =>
        clear HFb HTb HT HBL T
        obtain ⟨k,T,rfl,hFb,hTb,hRT,hbl,hkb⟩:=hrel
        have HFb:=Lib.hid hFb;have HTb:=Lib.hid hTb;have HRT:=Lib.hid hRT;have HBL:=Lib.hid hbl
        clear hFb hTb hRT hbl
        by_cases hs2:k*(2*q)<n
        · obtain ⟨S,hS⟩:∃ S,S=k*(2*q):=⟨_,rfl⟩
          have HSD:=Lib.hid hS
          rw [← hS] at hs2 hkb ⊢
          clear hS
          have b4:(0:Int)≤(S:Int):=by omega
          have b6:(S:Int)<(n:Int):=by omega
          have b7:(q:Int)≤2000000:=by omega
          have b8:(n:Int)≤1000000:=by omega
          have b9:¬ n=S:=by omega
          have c1:(S:Int)+(q:Int)≤(n:Int)∨(n:Int)<(S:Int)+(q:Int):=by omega
          rcases Nat.lt_trichotomy (S+q) n with hq | hq | hq
          · have b1:(S:Int)+(q:Int)≤(n:Int):=by omega
            have b2:(S:Int)≤(S:Int)+(q:Int):=by omega
            have b3:¬ n=S+q:=by omega
            clear c1
            rcases Nat.lt_or_ge n (S+2*q) with hr | hr
            · have d1:¬ (S:Int)+2*(q:Int)≤(n:Int):=by omega
              have d2:(S:Int)≤(n:Int):=by omega
              have e1:((S:Int)+(q:Int)).toNat=S+q:=by omega
              have e2:(0:Int)≤(S:Int)+(q:Int):=by omega
              have e3:((S:Int)+2*(q:Int)).toNat=S+2*q:=by omega
              have e4:(0:Int)≤(S:Int)+2*(q:Int):=by omega
              have mn1:=Int.min_def ((S:Int)+(q:Int)) (n:Int)
              have mn2:=Int.min_def ((S:Int)+2*(q:Int)) (n:Int)
              go_wp2
              go_still_tail 13,(by kernel_rfl)
              change wpList _ _ _ _ _ wr.drew
              have HFb:=Lib.hid (show BlkV wr.drew ga 3 (F.map iv) from HFb.out)
              have HTb:=Lib.hid (show BlkV wr.drew gb 3 (T.map iv) from HTb.out)
              have HBL:=Lib.hid HBL.out.drew
              generalize hWD:wr.drew=W at HFb HTb HBL ⊢
              clear hWD
              go_wp2_with fail
              refine (SIo.merge hs HC.out HW.out HB.out hm hq0 hne hga hgb HFb.out HTb.out HR.out HRT.out HBL.out HSD.out hs2 _ _ _ _ _ _ _ (by omega) (by omega) (by omega) (by omega) (by omega) (by omega) (fun _=>by rw [Nat.min_eq_left (by omega)])).mono ?_
              rintro r w2 ⟨rfl,hSI⟩
              have HSI:=Lib.hid hSI
              clear hSI
              go_wp2
              go_roundw
              case rel=>exact HSI.out
              case measure=>simp [intOf];omega
            · have d1:(S:Int)+2*(q:Int)≤(n:Int):=by omega
              have d2:(S:Int)≤(S:Int)+2*(q:Int):=by omega
              have d3:(S:Int)+(q:Int)≤(S:Int)+2*(q:Int):=by omega
              have e1:((S:Int)+(q:Int)).toNat=S+q:=by omega
              have e2:(0:Int)≤(S:Int)+(q:Int):=by omega
              have e3:((S:Int)+2*(q:Int)).toNat=S+2*q:=by omega
              have e4:(0:Int)≤(S:Int)+2*(q:Int):=by omega
              have mn1:=Int.min_def ((S:Int)+(q:Int)) (n:Int)
              have mn2:=Int.min_def ((S:Int)+2*(q:Int)) (n:Int)
              go_wp2
              go_still_tail 13,(by kernel_rfl)
              change wpList _ _ _ _ _ wr.drew
              have HFb:=Lib.hid (show BlkV wr.drew ga 3 (F.map iv) from HFb.out)
              have HTb:=Lib.hid (show BlkV wr.drew gb 3 (T.map iv) from HTb.out)
              have HBL:=Lib.hid HBL.out.drew
              generalize hWD:wr.drew=W at HFb HTb HBL ⊢
              clear hWD
              go_wp2_with fail
              refine (SIo.merge hs HC.out HW.out HB.out hm hq0 hne hga hgb HFb.out HTb.out HR.out HRT.out HBL.out HSD.out hs2 _ _ _ _ _ _ _ (by omega) (by omega) (by omega) (by omega) (by omega) (by omega) (fun _=>by rw [Nat.min_eq_left (by omega)])).mono ?_
              rintro r w2 ⟨rfl,hSI⟩
              have HSI:=Lib.hid hSI
              clear hSI
              go_wp2
              go_roundw
              case rel=>exact HSI.out
              case measure=>simp [intOf];omega
          · have HQ:=Lib.hid hq
            have b1:(S:Int)+(q:Int)≤(n:Int):=by omega
            have b2:(S:Int)≤(S:Int)+(q:Int):=by omega
            have d1:¬ (S:Int)+2*(q:Int)≤(n:Int):=by omega
            have d2:(S:Int)≤(n:Int):=by omega
            have b3:(n=S+q)=True:=by simp;omega
            clear c1 hq
            have e1:((S:Int)+(q:Int)).toNat=S+q:=by omega
            have e2:(0:Int)≤(S:Int)+(q:Int):=by omega
            have mn1:=Int.min_def ((S:Int)+(q:Int)) (n:Int)
            have mn2:=Int.min_def ((S:Int)+2*(q:Int)) (n:Int)
            go_wp2
            go_still_tail 13,(by kernel_rfl)
            change wpList _ _ _ _ _ wr.drew
            have HFb:=Lib.hid (show BlkV wr.drew ga 3 (F.map iv) from HFb.out)
            have HTb:=Lib.hid (show BlkV wr.drew gb 3 (T.map iv) from HTb.out)
            have HBL:=Lib.hid HBL.out.drew
            generalize hWD:wr.drew=W at HFb HTb HBL ⊢
            clear hWD
            go_wp2_with fail
            refine (SIo.merge hs HC.out HW.out HB.out hm hq0 hne hga hgb HFb.out HTb.out HR.out HRT.out HBL.out HSD.out hs2 _ _ _ _ _ _ _ (by have:=HQ.out;omega) (by have:=HQ.out;omega) (by have:=HQ.out;omega) (by have:=HQ.out;omega) (by have:=HQ.out;omega) (by have:=HQ.out;omega) (fun h=>absurd h (by have:=HQ.out;omega))).mono ?_
            rintro r w2 ⟨rfl,hSI⟩
            have HSI:=Lib.hid hSI
            clear hSI
            go_wp2
            go_roundw
            case rel=>exact HSI.out
            case measure=>simp [intOf];omega
          · have b1:¬ (S:Int)+(q:Int)≤(n:Int):=by omega
            have d1:¬ (S:Int)+2*(q:Int)≤(n:Int):=by omega
            have d2:(S:Int)≤(n:Int):=by omega
            clear c1
            have e1:((S:Int)+(q:Int)).toNat=S+q:=by omega
            have e2:(0:Int)≤(S:Int)+(q:Int):=by omega
            have e3:((S:Int)+2*(q:Int)).toNat=S+2*q:=by omega
            have e4:(0:Int)≤(S:Int)+2*(q:Int):=by omega
            have mn1:=Int.min_def ((S:Int)+(q:Int)) (n:Int)
            have mn2:=Int.min_def ((S:Int)+2*(q:Int)) (n:Int)
            go_wp2
            go_still_tail 13,(by kernel_rfl)
            change wpList _ _ _ _ _ wr.drew
            have HFb:=Lib.hid (show BlkV wr.drew ga 3 (F.map iv) from HFb.out)
            have HTb:=Lib.hid (show BlkV wr.drew gb 3 (T.map iv) from HTb.out)
            have HBL:=Lib.hid HBL.out.drew
            generalize hWD:wr.drew=W at HFb HTb HBL ⊢
            clear hWD
            go_wp2_with fail
            refine (SIo.merge hs HC.out HW.out HB.out hm hq0 hne hga hgb HFb.out HTb.out HR.out HRT.out HBL.out HSD.out hs2 _ _ _ _ _ _ _ (by omega) (by omega) (by omega) (by omega) (by omega) (by omega) (fun h=>absurd h (by omega))).mono ?_
            rintro r w2 ⟨rfl,hSI⟩
            have HSI:=Lib.hid hSI
            clear hSI
            go_wp2
            go_roundw
            case rel=>exact HSI.out
            case measure=>simp [intOf];omega
        · have HSD:=Lib.hid hs2
          have hz:¬ ((k*(2*q):Nat):Int)<(n:Int):=by omega
          have HR2:=Lib.hid (Runs.mono (q:=n) HRT.out (by omega))
          clear HSD hs2
          generalize k*(2*q)=S at *
          go_wp2
          go_roundw
          case rel=>exact ⟨2*q,gb,ga,T,F,by go_num,rfl,rfl,by omega,by omega,fun h=>hne h.symm,hgb,hga,HTb.out,HFb.out,HR2.out,HR.out.1,HBL.out⟩
          case measure=>simp [intOf];omega
    · have hz:¬ (q:Int)<(n:Int):=by omega
      have HD:=Lib.hid (HR.out.done (by omega))
      go_wp2
      go_ret
      exact ⟨ga,rfl,hga,by rw [← HD.out];exact HFb.out,HBL.out⟩
end Go.Proofs.YtnacbakcalcgaaaGreatDoor
