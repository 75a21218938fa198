/- Texts of the claim. -/
import Derived.Test.YtnacbakcalcgaaaGreatDoorEx
import Derived.StillTailTactics
import Derived.Laws.AppendOwnNone
set_option linter.unusedVariables false
set_option linter.unusedSimpArgs false
set_option maxHeartbeats 4000000
set_option maxRecDepth 100000
namespace Go.Proofs.YtnacbakcalcgaaaGreatDoor
open Go.RowKit
set_option maxRecDepth 100000
def SortPost (lt:List UInt8→List UInt8→Bool) (key:Nat→List UInt8) (n B0:Nat) (w:World) (e:Ending) (w':World):Prop :=
  ∃ g,e=.returned (.slice (some ⟨g,0,none⟩) n n)∧B0≤g∧BlkV w' g 3 ((srt lt key 0 n).map iv)∧Below B0 w w'
def SO (lt : List UInt8 → List UInt8 → Bool) (key : Nat → List UInt8) (n B0 : Nat) (w : World) (f t r : Value) (wr : World) : Prop :=
  ∃ (q ga gb : Nat) (F T : List Nat), r = .int .i64 (q : Int) ∧ f = .slice (some ⟨ga, 0, none⟩) n n ∧ t = .slice (some ⟨gb, 0, none⟩) n n ∧ 0 < q ∧ q ≤ 2000000 ∧ ga ≠ gb ∧ B0 ≤ ga ∧ B0 ≤ gb ∧
    BlkV wr ga 3 (F.map iv) ∧ BlkV wr gb 3 (T.map iv) ∧ Runs lt key q n n F ∧ T.length = n ∧ Below B0 w wr
def SIo (lt:List UInt8→List UInt8→Bool) (key:Nat→List UInt8) (n B0 q ga gb:Nat) (F:List Nat) (w:World) (s:Value) (wr:World):Prop :=
  ∃ (k:Nat) (T:List Nat),s=.int .i64 ((k*(2*q):Nat):Int)∧BlkV wr ga 3 (F.map iv)∧BlkV wr gb 3 (T.map iv)∧Runs lt key (2*q) n (k*(2*q)) T∧Below B0 w wr∧k*(2*q)≤n+2*q
theorem run_has {lt:List UInt8→List UInt8→Bool} {key:Nat→List UInt8} {r n k:Nat} {F:List Nat} (h:Runs lt key r n n F) (hk:k*r<n):∀ x∈(F.drop (k*r)).take r,k*r≤x∧x<k*r+r∧x<n:=by
  intro x hx
  rw [h.2 k hk hk,srt_mem] at hx
  omega
theorem but_below {B0 g:Nat} {w w':World} (h:But g w w') (hg:B0≤g) {w1:World} (hb:Below B0 w1 w) (hB:B0≤w1.heap.size):Below B0 w1 w':=hb.trans (h.below hg (Nat.le_trans hB hb.size))
theorem SIo.merge {lt:List UInt8→List UInt8→Bool} (hs:Sto lt) {key:Nat→List UInt8} {n pa pl B0 q ga gb k S:Nat} {F T:List Nat} {w0 w W:World} (hc:CmpOk lt key n pa pl B0 w0) (hw:Below B0 w0 w) (hB:B0≤w.heap.size) (hm:n≤1000000) (hq:0<q) (hne:ga ≠ gb) (hga:B0≤ga) (hgb:B0≤gb)
    (hFb:BlkV W ga 3 (F.map iv)) (hTb:BlkV W gb 3 (T.map iv)) (hR:Runs lt key q n n F) (hRT:Runs lt key (2*q) n (k*(2*q)) T) (hbl:Below B0 w W) (hS:S=k*(2*q)) (hlt:S<n)
    (lo la lb co ca cb:Nat) (adB:Option Addr) (hla:la=min (S+q) n - S) (hlb:lb=min (S+2*q) n - min (S+q) n) (hlo:lo=la+lb) (hco:lo≤co) (hca:la≤ca) (hcb:lb≤cb) (hA:lb ≠ 0→adB=some ⟨ga,min (S+q) n,none⟩) :
    Calls Tryz.prog 202 #[.slice (some ⟨gb,S,none⟩) lo co,.slice (some ⟨ga,S,none⟩) la ca,.slice adB lb cb,cmpF pa pl] W fun e w'=>e=.returned (.tuple #[])∧SIo lt key n B0 q ga gb F w (.int .i64 ((S:Int)+2*(q:Int))) w':=by
  have hF:=hR.1
  have hTl:=hRT.1
  have lA:((F.drop S).take la).length=la:=by rw [List.length_take,List.length_drop,hF];omega
  have lB:((F.drop (min (S+q) n)).take lb).length=lb:=by rw [List.length_take,List.length_drop,hF];omega
  have e2:k*(2*q)=(2*k)*q:=by rw [← Nat.mul_assoc,Nat.mul_comm k 2]
  have hAm:∀ x∈(F.drop S).take la,S≤x∧x<S+q∧x<n:=fun x hx=>by
    have:=run_has hR (k:=2*k) (by omega) x (by
      rw [← e2,← hS]
      rw [hla,show min (S+q) n - S=min (min (S+q) n - S) q by omega,← List.take_take] at hx
      exact List.mem_of_mem_take hx)
    omega
  have hBm:∀ x∈(F.drop (min (S+q) n)).take lb,S+q≤x∧x<n:=fun x hx=>by
    by_cases h:S+q<n
    · have e3:S+q=(2*k+1)*q:=by rw [Nat.add_mul,Nat.one_mul,← e2,hS]
      have:=run_has hR (k:=2*k+1) (by omega) x (by
        rw [← e3]
        rw [Nat.min_eq_left (by omega),show lb=min lb q by omega,← List.take_take] at hx
        exact List.mem_of_mem_take hx)
      omega
    · rw [show lb=0 by omega,List.take_zero] at hx;cases hx
  have r1:RdV W (some ⟨ga,S,none⟩) (((F.drop S).take la).map iv):=by rw [List.map_take,List.map_drop];exact hFb.rd S la
  have r2:RdV W adB (((F.drop (min (S+q) n)).take lb).map iv):=by
    by_cases h:lb=0
    · rw [h,List.take_zero];exact RdV.nil _ _
    · rw [hA h,List.map_take,List.map_drop];exact hFb.rd _ lb
  have K:=merge_any hs hc gb S lo co (some ⟨ga,S,none⟩) adB ca cb ((F.drop S).take la) ((F.drop (min (S+q) n)).take lb) T W (by rw [lA,lB];omega) (by rw [lA];exact hca) (by rw [lB];exact hcb) (by omega) r1 r2
    (fun x e _=>by cases e;exact hne) (fun x e hp=>by rw [lB] at hp;rw [hA (by omega)] at e;cases e;exact hne) (fun x hx=>(hAm x hx).2.2) (fun x hx=>(hBm x hx).2)
    (fun x hx y hy=>by have:=hAm x hx;have:=hBm y hy;omega) hTb (by rw [hTl];omega) hco (hw.trans hbl) hgb (Nat.le_trans hB hbl.size)
  rw [lA,lB] at K
  refine K.mono ?_
  rintro e w' ⟨he,hb,hbut⟩
  refine ⟨he,k+1,fillT T (mrg lt key ((F.drop S).take la) ((F.drop (min (S+q) n)).take lb)) S lo,?_,hbut.blk hFb hne,hb,?_,but_below hbut hgb hbl hB,?_⟩
  · congr 1;rw [Nat.add_mul,Nat.one_mul,← hS];omega
  · have hst:=hR.step hs hq hRT (by omega)
    rw [← hS,← hla,← hlb] at hst
    unfold fillT
    have hl:(mrg lt key ((F.drop S).take la) ((F.drop (min (S+q) n)).take lb)).length≤lo:=by rw [mrg_len,lA,lB];omega
    rw [show S+lo=min (S+2*q) n by omega,List.take_of_length_le hl]
    exact hst
  · rw [Nat.add_mul,Nat.one_mul,← hS];omega
theorem mergeSort_any {lt:List UInt8→List UInt8→Bool} (hs:Sto lt) {key:Nat→List UInt8} {n pa pl B0:Nat} {w0:World} (hc:CmpOk lt key n pa pl B0 w0) (g:Nat) (w:World) (hm:n≤1000000)
    (hF:BlkV w g 3 ((List.range n).map iv)) (hw:Below B0 w0 w) (hg:B0≤g) (hB:B0≤w.heap.size) :
    Calls Tryz.prog 179 #[.slice (some ⟨g,0,none⟩) n n,cmpF pa pl] w (SortPost lt key n B0 w):=by
  have HF:=Lib.hid hF;have HC:=Lib.hid hc;have HW:=Lib.hid hw;have HB:=Lib.hid hB
  have HGL:=Lib.hid hF.lt
  clear hF hc hw hB
  have hmk:=fun W=>run_make_row' (P:=Tryz.prog) 40 3 (.int .i64 0) 8 Tryz.underlying40 info_int rfl .i64 .i64 n (by omega) (by omega) W
  go_enter Tryz.func179,Tryz.ntmps179
  go_wp2
  go_region
  clear hmk
  go_wp2
  go_loopw [6,7,8] (fun f t r wr=>SO lt key n B0 w f t r wr) (fun _ _ r _=>n - (intOf r).toNat)
  case atStart=>exact ⟨1,g,w.heap.size,List.range n,List.replicate n 0,rfl,rfl,rfl,by decide,by decide,by have:=HGL.out;omega,hg,HB.out,HF.out.below (B:=w.heap.size) ((Below.refl _ _).alloc (Nat.le_refl _) _).drew HGL.out,by rw [← rep_iv];exact made_blk _ _ _ _,Runs.start lt key n,by simp,((Below.refl _ _).alloc HB.out _).drew⟩
  case round =>
    obtain ⟨q,ga,gb,F,T,rfl,rfl,rfl,hq0,hq1,hne,hga,hgb,hFb,hTb,hR,hT,hbl⟩:=hrel
    have HFb:=Lib.hid hFb;have HTb:=Lib.hid hTb;have HR:=Lib.hid hR;have HT:=Lib.hid hT;have HBL:=Lib.hid hbl
    clear hFb hTb hR hT hbl
    by_cases hlt:q<n
    · go_wp2
      go_loopw [9] (fun s wr=>SIo lt key n B0 q ga gb F w s wr) (fun s _=>n - (intOf s).toNat)
      case atStart=>exact ⟨0,T,by simp,HFb.out,HTb.out,by rw [Nat.zero_mul];exact Runs.empty _ _ _ _ _ HT.out,HBL.out,by omega⟩
      case round =>
        clear HFb HTb HT HBL T
        obtain ⟨k,T,rfl,hFb,hTb,hRT,hbl,hkb⟩:=hrel
        have HFb:=Lib.hid hFb;have HTb:=Lib.hid hTb;have HRT:=Lib.hid hRT;have HBL:=Lib.hid hbl
        clear hFb hTb hRT hbl
        by_cases hs2:k*(2*q)<n
        · obtain ⟨S,hS⟩:∃ S,S=k*(2*q):=⟨_,rfl⟩
          have HSD:=Lib.hid hS
          rw [← hS] at hs2 hkb ⊢
          clear hS
          have b4:(0:Int)≤(S:Int):=by omega
          have b6:(S:Int)<(n:Int):=by omega
          have b7:(q:Int)≤2000000:=by omega
          have b8:(n:Int)≤1000000:=by omega
          have b9:¬ n=S:=by omega
          have c1:(S:Int)+(q:Int)≤(n:Int)∨(n:Int)<(S:Int)+(q:Int):=by omega
          rcases Nat.lt_trichotomy (S+q) n with hq | hq | hq
          · have b1:(S:Int)+(q:Int)≤(n:Int):=by omega
            have b2:(S:Int)≤(S:Int)+(q:Int):=by omega
            have b3:¬ n=S+q:=by omega
            clear c1
            rcases Nat.lt_or_ge n (S+2*q) with hr | hr
            · have d1:¬ (S:Int)+2*(q:Int)≤(n:Int):=by omega
              have d2:(S:Int)≤(n:Int):=by omega
              have e1:((S:Int)+(q:Int)).toNat=S+q:=by omega
              have e2:(0:Int)≤(S:Int)+(q:Int):=by omega
              have e3:((S:Int)+2*(q:Int)).toNat=S+2*q:=by omega
              have e4:(0:Int)≤(S:Int)+2*(q:Int):=by omega
              have mn1:=Int.min_def ((S:Int)+(q:Int)) (n:Int)
              have mn2:=Int.min_def ((S:Int)+2*(q:Int)) (n:Int)
              go_wp2
              go_still_tail 13,(by kernel_rfl)
              change wpList _ _ _ _ _ wr.drew
              have HFb:=Lib.hid (show BlkV wr.drew ga 3 (F.map iv) from HFb.out)
              have HTb:=Lib.hid (show BlkV wr.drew gb 3 (T.map iv) from HTb.out)
              have HBL:=Lib.hid HBL.out.drew
              generalize hWD:wr.drew=W at HFb HTb HBL ⊢
              clear hWD
              go_wp2_with fail
              refine (SIo.merge hs HC.out HW.out HB.out hm hq0 hne hga hgb HFb.out HTb.out HR.out HRT.out HBL.out HSD.out hs2 _ _ _ _ _ _ _ (by omega) (by omega) (by omega) (by omega) (by omega) (by omega) (fun _=>by rw [Nat.min_eq_left (by omega)])).mono ?_
              rintro r w2 ⟨rfl,hSI⟩
              have HSI:=Lib.hid hSI
              clear hSI
              go_wp2
              go_roundw
              case rel=>exact HSI.out
              case measure=>simp [intOf];omega
            · have d1:(S:Int)+2*(q:Int)≤(n:Int):=by omega
              have d2:(S:Int)≤(S:Int)+2*(q:Int):=by omega
              have d3:(S:Int)+(q:Int)≤(S:Int)+2*(q:Int):=by omega
              have e1:((S:Int)+(q:Int)).toNat=S+q:=by omega
              have e2:(0:Int)≤(S:Int)+(q:Int):=by omega
              have e3:((S:Int)+2*(q:Int)).toNat=S+2*q:=by omega
              have e4:(0:Int)≤(S:Int)+2*(q:Int):=by omega
              have mn1:=Int.min_def ((S:Int)+(q:Int)) (n:Int)
              have mn2:=Int.min_def ((S:Int)+2*(q:Int)) (n:Int)
              go_wp2
              go_still_tail 13,(by kernel_rfl)
              change wpList _ _ _ _ _ wr.drew
              have HFb:=Lib.hid (show BlkV wr.drew ga 3 (F.map iv) from HFb.out)
              have HTb:=Lib.hid (show BlkV wr.drew gb 3 (T.map iv) from HTb.out)
              have HBL:=Lib.hid HBL.out.drew
              generalize hWD:wr.drew=W at HFb HTb HBL ⊢
              clear hWD
              go_wp2_with fail
              refine (SIo.merge hs HC.out HW.out HB.out hm hq0 hne hga hgb HFb.out HTb.out HR.out HRT.out HBL.out HSD.out hs2 _ _ _ _ _ _ _ (by omega) (by omega) (by omega) (by omega) (by omega) (by omega) (fun _=>by rw [Nat.min_eq_left (by omega)])).mono ?_
              rintro r w2 ⟨rfl,hSI⟩
              have HSI:=Lib.hid hSI
              clear hSI
              go_wp2
              go_roundw
              case rel=>exact HSI.out
              case measure=>simp [intOf];omega
          · have HQ:=Lib.hid hq
            have b1:(S:Int)+(q:Int)≤(n:Int):=by omega
            have b2:(S:Int)≤(S:Int)+(q:Int):=by omega
            have d1:¬ (S:Int)+2*(q:Int)≤(n:Int):=by omega
            have d2:(S:Int)≤(n:Int):=by omega
            have b3:(n=S+q)=True:=by simp;omega
            clear c1 hq
            have e1:((S:Int)+(q:Int)).toNat=S+q:=by omega
            have e2:(0:Int)≤(S:Int)+(q:Int):=by omega
            have mn1:=Int.min_def ((S:Int)+(q:Int)) (n:Int)
            have mn2:=Int.min_def ((S:Int)+2*(q:Int)) (n:Int)
            go_wp2
            go_still_tail 13,(by kernel_rfl)
            change wpList _ _ _ _ _ wr.drew
            have HFb:=Lib.hid (show BlkV wr.drew ga 3 (F.map iv) from HFb.out)
            have HTb:=Lib.hid (show BlkV wr.drew gb 3 (T.map iv) from HTb.out)
            have HBL:=Lib.hid HBL.out.drew
            generalize hWD:wr.drew=W at HFb HTb HBL ⊢
            clear hWD
            go_wp2_with fail
            refine (SIo.merge hs HC.out HW.out HB.out hm hq0 hne hga hgb HFb.out HTb.out HR.out HRT.out HBL.out HSD.out hs2 _ _ _ _ _ _ _ (by have:=HQ.out;omega) (by have:=HQ.out;omega) (by have:=HQ.out;omega) (by have:=HQ.out;omega) (by have:=HQ.out;omega) (by have:=HQ.out;omega) (fun h=>absurd h (by have:=HQ.out;omega))).mono ?_
            rintro r w2 ⟨rfl,hSI⟩
            have HSI:=Lib.hid hSI
            clear hSI
            go_wp2
            go_roundw
            case rel=>exact HSI.out
            case measure=>simp [intOf];omega
          · have b1:¬ (S:Int)+(q:Int)≤(n:Int):=by omega
            have d1:¬ (S:Int)+2*(q:Int)≤(n:Int):=by omega
            have d2:(S:Int)≤(n:Int):=by omega
            clear c1
            have e1:((S:Int)+(q:Int)).toNat=S+q:=by omega
            have e2:(0:Int)≤(S:Int)+(q:Int):=by omega
            have e3:((S:Int)+2*(q:Int)).toNat=S+2*q:=by omega
            have e4:(0:Int)≤(S:Int)+2*(q:Int):=by omega
            have mn1:=Int.min_def ((S:Int)+(q:Int)) (n:Int)
            have mn2:=Int.min_def ((S:Int)+2*(q:Int)) (n:Int)
            go_wp2
            go_still_tail 13,(by kernel_rfl)
            change wpList _ _ _ _ _ wr.drew
            have HFb:=Lib.hid (show BlkV wr.drew ga 3 (F.map iv) from HFb.out)
            have HTb:=Lib.hid (show BlkV wr.drew gb 3 (T.map iv) from HTb.out)
            have HBL:=Lib.hid HBL.out.drew
            generalize hWD:wr.drew=W at HFb HTb HBL ⊢
            clear hWD
            go_wp2_with fail
            refine (SIo.merge hs HC.out HW.out HB.out hm hq0 hne hga hgb HFb.out HTb.out HR.out HRT.out HBL.out HSD.out hs2 _ _ _ _ _ _ _ (by omega) (by omega) (by omega) (by omega) (by omega) (by omega) (fun h=>absurd h (by omega))).mono ?_
            rintro r w2 ⟨rfl,hSI⟩
            have HSI:=Lib.hid hSI
            clear hSI
            go_wp2
            go_roundw
            case rel=>exact HSI.out
            case measure=>simp [intOf];omega
        · have HSD:=Lib.hid hs2
          have hz:¬ ((k*(2*q):Nat):Int)<(n:Int):=by omega
          have HR2:=Lib.hid (Runs.mono (q:=n) HRT.out (by omega))
          clear HSD hs2
          generalize k*(2*q)=S at *
          go_wp2
          go_roundw
          case rel=>exact ⟨2*q,gb,ga,T,F,by go_num,rfl,rfl,by omega,by omega,fun h=>hne h.symm,hgb,hga,HTb.out,HFb.out,HR2.out,HR.out.1,HBL.out⟩
          case measure=>simp [intOf];omega
    · have hz:¬ (q:Int)<(n:Int):=by omega
      have HD:=Lib.hid (HR.out.done (by omega))
      go_wp2
      go_ret
      exact ⟨ga,rfl,hga,by rw [← HD.out];exact HFb.out,HBL.out⟩
def keyB (l:List ByteArray) (i:Nat):List UInt8:=(l.getD i ByteArray.empty).toList
theorem keyB_def (l:List ByteArray) (i:Nat):(l.getD i ByteArray.empty).toList=keyB l i:=rfl
def rangeT (n k:Nat):List Nat:=List.range k++List.replicate (n - k) 0
theorem rangeT_zero (n:Nat):rangeT n 0=List.replicate n 0:=by simp [rangeT]
theorem rangeT_all (n:Nat):rangeT n n=List.range n:=by simp [rangeT]
theorem rangeT_len {n k:Nat} (h:k≤n):(rangeT n k).length=n:=by simp [rangeT];omega
theorem rangeT_set {n k:Nat} (h:k<n):(rangeT n k).set k k=rangeT n (k+1):=by
  unfold rangeT
  rw [List.set_append_right _ _ (by simp),List.length_range,Nat.sub_self,List.range_succ,List.append_assoc]
  congr 1
  obtain ⟨m,hm⟩:∃ m,n - k=m+1:=⟨n - k - 1,by omega⟩
  rw [hm,List.replicate_succ,List.set_cons_zero,show n - (k+1)=m by omega]
  rfl
theorem places_less (ad:Option Addr) (n cap:Nat) (l:List ByteArray) (w:World) (hn:l.length=n) (hcap:n≤cap) (hm:n≤1000000) (hr:RdV w ad (sv l)) :
    Calls Tryz.prog 144 #[.slice ad n cap,.func (.func 181) #[] #[]] w (SortPost Op.bytesLess (keyB l) n w.heap.size w):=by
  obtain ⟨w2,hw2⟩:∃ w2,w2=(w.alloc (.cells #[.slice ad n cap] 26)).alloc (.cells #[.func (.func 181) #[] #[]] 50):=⟨_,rfl⟩
  have hb2:Below w.heap.size w w2:=by rw [hw2];exact ((Below.refl _ _).alloc (Nat.le_refl _) _).alloc (by simp) _
  have hz2:w2.heap.size=w.heap.size+1+1:=by rw [hw2];simp
  have cl:w2.cell? ⟨w.heap.size,0,none⟩=some (.slice ad n cap):=by rw [hw2];simp
  have ca:w2.cell? ⟨w.heap.size+1,0,none⟩=some (.func (.func 181) #[] #[]):=by rw [hw2];simp
  have HC:CmpOk Op.bytesLess (keyB l) n (w.heap.size+1) w.heap.size (w.heap.size+1+1) w2:=by
    intro W hW i j hi hj
    exact cmp_less i j n cap ad l (w.heap.size+1) w.heap.size W (by omega) (by omega) hn hcap (by omega) (hr.on (hb2.trans (hW.mono (by omega)))) ((hW.cell (p:=⟨w.heap.size+1,0,none⟩) (by simp)).trans ca) ((hW.cell (p:=⟨w.heap.size,0,none⟩) (by show w.heap.size<_;omega)).trans cl)
  have HCC:=Lib.hid HC
  have HB2:=Lib.hid hb2
  have HZ2:=Lib.hid hz2
  clear HC hb2 hr hz2
  have HN:=Lib.hid hn;clear hn
  have hmk:=fun W=>run_make_row' (P:=Tryz.prog) 40 3 (.int .i64 0) 8 Tryz.underlying40 info_int rfl .i64 .i64 n (by omega) (by omega) W
  go_enter Tryz.func144,Tryz.ntmps144
  go_upto_region 2 with fail
  rw [← hw2]
  clear hw2 hmk cl ca
  have hst:=made_blk w2 (.int .i64 0) n 3
  rw [rep_iv,← rangeT_zero,HZ2.out] at hst
  have HST:=Lib.hid hst;clear hst
  have HA:=Lib.hid ((Below.refl (w.heap.size+1+1) w2).alloc (by rw [HZ2.out];exact Nat.le_refl _) (.cells (madeCells #[.int .i64 0] n) 3))
  go_wp2
  go_loopw [12] (fun i wr=>∃ k,k≤n∧i=.int .i64 ((k:Nat):Int)∧BlkV wr (w.heap.size+1+1) 3 ((rangeT n k).map iv)∧Below (w.heap.size+1+1) w2 wr) (fun i _=>n - (intOf i).toNat)
  case atStart=>exact ⟨0,Nat.zero_le _,rfl,HST.out,HA.out⟩
  case round =>
    obtain ⟨k,hk,rfl,hT,hbl⟩:=hrel
    have HT:=Lib.hid hT;have HBL:=Lib.hid hbl
    clear hT hbl
    by_cases hlt:k<n
    · have h1:(k:Int)<(n:Int):=by omega
      have h2:(0:Int)≤(k:Int):=by omega
      have hf:=HT.out.free k
      obtain ⟨z,hold⟩:∃ z:Nat,wr.cell? ⟨w.heap.size+1+1,k,none⟩=some (.int .i64 (z:Int)):=⟨_,(HT.out.cell _).trans (iv_get _ _ (by rw [rangeT_len hk];omega))⟩
      have hnew:=HT.out.set k (.int .i64 (k:Int))
      rw [iv_set,rangeT_set hlt] at hnew
      have HNEW:=Lib.hid hnew;clear hnew
      have HB3:=Lib.hid (HBL.out.setCell (p:=⟨w.heap.size+1+1,k,none⟩) (Nat.le_refl _) (.int .i64 (k:Int)))
      go_wp2
      go_roundw
      case rel=>exact ⟨k+1,by omega,by go_num,HNEW.out,HB3.out⟩
      case measure=>simp [intOf];omega
    · obtain rfl:k=n:=by omega
      have hz:¬ (k:Int)<(k:Int):=by omega
      rw [rangeT_all] at HT
      have KM:=Lib.hid (mergeSort_any sto_bytes HCC.out (w.heap.size+1+1) wr (by omega) HT.out HBL.out (Nat.le_refl _) (by have:=HBL.out.size;have:=HZ2.out;omega))
      unfold cmpF at KM
      go_wp2_with fail
      refine KM.out.mono ?_
      rintro r w' hS
      obtain ⟨g,rfl,hg,hk2,hw⟩:=hS
      have HF:=Lib.hid (show SortPost Op.bytesLess (keyB l) k w.heap.size w (.returned (.slice (some ⟨g,0,none⟩) k k)) w' from ⟨g,rfl,by omega,hk2,HB2.out.trans ((HBL.out.trans hw).mono (by omega))⟩)
      clear hk2 hw
      go_wp2
      go_ret
      exact HF.out
theorem places_short (ad:Option Addr) (n cap:Nat) (l:List ByteArray) (w:World) (hn:l.length=n) (hcap:n≤cap) (hm:n≤1000000) (hz:∀ s∈l,s.size≤1000000000) (hr:RdV w ad (sv l)) :
    Calls Tryz.prog 144 #[.slice ad n cap,.func (.func 145) #[] #[]] w (SortPost shortL (keyB l) n w.heap.size w):=by
  obtain ⟨w2,hw2⟩:∃ w2,w2=(w.alloc (.cells #[.slice ad n cap] 26)).alloc (.cells #[.func (.func 145) #[] #[]] 50):=⟨_,rfl⟩
  have hb2:Below w.heap.size w w2:=by rw [hw2];exact ((Below.refl _ _).alloc (Nat.le_refl _) _).alloc (by simp) _
  have hz2:w2.heap.size=w.heap.size+1+1:=by rw [hw2];simp
  have cl:w2.cell? ⟨w.heap.size,0,none⟩=some (.slice ad n cap):=by rw [hw2];simp
  have ca:w2.cell? ⟨w.heap.size+1,0,none⟩=some (.func (.func 145) #[] #[]):=by rw [hw2];simp
  have HC:CmpOk shortL (keyB l) n (w.heap.size+1) w.heap.size (w.heap.size+1+1) w2:=by
    intro W hW i j hi hj
    exact cmp_short i j n cap ad l (w.heap.size+1) w.heap.size W (by omega) (by omega) hn hcap (by omega) hz (hr.on (hb2.trans (hW.mono (by omega)))) ((hW.cell (p:=⟨w.heap.size+1,0,none⟩) (by simp)).trans ca) ((hW.cell (p:=⟨w.heap.size,0,none⟩) (by show w.heap.size<_;omega)).trans cl)
  have HCC:=Lib.hid HC
  have HB2:=Lib.hid hb2
  have HZ2:=Lib.hid hz2
  clear HC hb2 hr hz hz2
  have HN:=Lib.hid hn;clear hn
  have hmk:=fun W=>run_make_row' (P:=Tryz.prog) 40 3 (.int .i64 0) 8 Tryz.underlying40 info_int rfl .i64 .i64 n (by omega) (by omega) W
  go_enter Tryz.func144,Tryz.ntmps144
  go_upto_region 2 with fail
  rw [← hw2]
  clear hw2 hmk cl ca
  have hst:=made_blk w2 (.int .i64 0) n 3
  rw [rep_iv,← rangeT_zero,HZ2.out] at hst
  have HST:=Lib.hid hst;clear hst
  have HA:=Lib.hid ((Below.refl (w.heap.size+1+1) w2).alloc (by rw [HZ2.out];exact Nat.le_refl _) (.cells (madeCells #[.int .i64 0] n) 3))
  go_wp2
  go_loopw [12] (fun i wr=>∃ k,k≤n∧i=.int .i64 ((k:Nat):Int)∧BlkV wr (w.heap.size+1+1) 3 ((rangeT n k).map iv)∧Below (w.heap.size+1+1) w2 wr) (fun i _=>n - (intOf i).toNat)
  case atStart=>exact ⟨0,Nat.zero_le _,rfl,HST.out,HA.out⟩
  case round =>
    obtain ⟨k,hk,rfl,hT,hbl⟩:=hrel
    have HT:=Lib.hid hT;have HBL:=Lib.hid hbl
    clear hT hbl
    by_cases hlt:k<n
    · have h1:(k:Int)<(n:Int):=by omega
      have h2:(0:Int)≤(k:Int):=by omega
      have hf:=HT.out.free k
      obtain ⟨z,hold⟩:∃ z:Nat,wr.cell? ⟨w.heap.size+1+1,k,none⟩=some (.int .i64 (z:Int)):=⟨_,(HT.out.cell _).trans (iv_get _ _ (by rw [rangeT_len hk];omega))⟩
      have hnew:=HT.out.set k (.int .i64 (k:Int))
      rw [iv_set,rangeT_set hlt] at hnew
      have HNEW:=Lib.hid hnew;clear hnew
      have HB3:=Lib.hid (HBL.out.setCell (p:=⟨w.heap.size+1+1,k,none⟩) (Nat.le_refl _) (.int .i64 (k:Int)))
      go_wp2
      go_roundw
      case rel=>exact ⟨k+1,by omega,by go_num,HNEW.out,HB3.out⟩
      case measure=>simp [intOf];omega
    · obtain rfl:k=n:=by omega
      have hz:¬ (k:Int)<(k:Int):=by omega
      rw [rangeT_all] at HT
      have KM:=Lib.hid (mergeSort_any sto_short HCC.out (w.heap.size+1+1) wr (by omega) HT.out HBL.out (Nat.le_refl _) (by have:=HBL.out.size;have:=HZ2.out;omega))
      unfold cmpF at KM
      go_wp2_with fail
      refine KM.out.mono ?_
      rintro r w' hS
      obtain ⟨g,rfl,hg,hk2,hw⟩:=hS
      have HF:=Lib.hid (show SortPost shortL (keyB l) k w.heap.size w (.returned (.slice (some ⟨g,0,none⟩) k k)) w' from ⟨g,rfl,by omega,hk2,HB2.out.trans ((HBL.out.trans hw).mono (by omega))⟩)
      clear hk2 hw
      go_wp2
      go_ret
      exact HF.out
theorem sort_any (ad:Option Addr) (n cap:Nat) (l:List ByteArray) (w:World) (hn:l.length=n) (hcap:n≤cap) (hm:n≤1000000) (hr:RdV w ad (sv l)) :
    Calls Tryz.prog 183 #[.slice ad n cap] w (SortPost Op.bytesLess (keyB l) n w.heap.size w):=by
  have K:=Lib.hid (places_less ad n cap l w hn hcap hm hr)
  clear hn hr
  go_enter Tryz.func183,Tryz.ntmps183
  go_wp2_with fail
  refine K.out.mono ?_
  rintro r w' ⟨g,rfl,hg,hk,hw⟩
  have HF:=Lib.hid (show SortPost Op.bytesLess (keyB l) n w.heap.size w (.returned (.slice (some ⟨g,0,none⟩) n n)) w' from ⟨g,rfl,hg,hk,hw⟩)
  clear hk hw
  go_wp2
  go_ret
  exact HF.out
theorem cbor_any (ad:Option Addr) (n cap:Nat) (l:List ByteArray) (w:World) (hn:l.length=n) (hcap:n≤cap) (hm:n≤1000000) (hz:∀ s∈l,s.size≤1000000000) (hr:RdV w ad (sv l)) :
    Calls Tryz.prog 106 #[.slice ad n cap] w (SortPost shortL (keyB l) n w.heap.size w):=by
  have K:=Lib.hid (places_short ad n cap l w hn hcap hm hz hr)
  clear hn hr hz
  go_enter Tryz.func106,Tryz.ntmps106
  go_wp2_with fail
  refine K.out.mono ?_
  rintro r w' ⟨g,rfl,hg,hk,hw⟩
  have HF:=Lib.hid (show SortPost shortL (keyB l) n w.heap.size w (.returned (.slice (some ⟨g,0,none⟩) n n)) w' from ⟨g,rfl,hg,hk,hw⟩)
  clear hk hw
  go_wp2
  go_ret
  exact HF.out
theorem key_eq (a b:ByteArray):(a.toList == b.toList)=decide (a.toList=b.toList):=by rw [Bool.eq_iff_iff];simp
def AgainPost (key:Nat→List UInt8) (S:List Nat) (n:Nat) (w:World) (e:Ending) (w':World):Prop :=
  ∃ lo f q,e=.returned (.tuple #[.int .i64 ((lo:Nat):Int),.bool f])∧Low key S n lo f∧w'=w.drewN q
def ARo (key:Nat→List UInt8) (S:List Nat) (n:Nat) (w:World) (lo f i:Value) (wr:World):Prop :=
  ∃ (m lw q:Nat) (fb:Bool),i=.int .i64 ((m:Int)+1)∧lo=.int .i64 (lw:Int)∧f=.bool fb∧(m=0∨m+1≤n)∧Low key S (m+1) lw fb∧wr=w.drewN q
theorem Low.zero {key:Nat→List UInt8} {S:List Nat} {lo:Nat} {f:Bool} (h:Low key S 1 lo f):Low key S 0 lo f :=
  ⟨fun hf=>⟨(h.1 hf).1,fun i hi=>absurd hi (by omega)⟩,fun hf=>absurd (h.2 hf).1 (by rintro ⟨i,hi,_⟩;omega)⟩
theorem again_any (ad:Option Addr) (k0 cap:Nat) (l:List ByteArray) (ad':Option Addr) (n cap':Nat) (S:List Nat) (w:World) (hk0:l.length=k0) (hn:S.length=n) (hm:n≤1000000000) (hm0:k0≤1000000000) (hr:RdV w ad (sv l)) (hr':RdV w ad' (S.map iv)) (hS:∀ i,i<n→S.getD i 0<k0) (hcap:k0≤cap) (hcap':n≤cap') :
    Calls Tryz.prog 184 #[.slice ad k0 cap,.slice ad' n cap'] w (AgainPost (keyB l) S n w):=by
  have HN:=Lib.hid hn;have HR:=Lib.hid hr;have HK:=Lib.hid hk0;have HR':=Lib.hid hr';have HS:=Lib.hid hS
  clear hn hr hk0 hr' hS
  go_enter Tryz.func184,Tryz.ntmps184
  go_wp2
  go_loopw [6,7,8] (fun lo f i wr=>ARo (keyB l) S n w lo f i wr) (fun _ _ i _=>n+1 - (intOf i).toNat)
  case atStart=>exact ⟨0,0,0,false,rfl,rfl,rfl,.inl rfl,Low.start _ _,rfl⟩
  case round =>
    obtain ⟨m,lw,q,fb,rfl,rfl,rfl,hmn,hL,hq⟩:=hrel
    have HL:=Lib.hid hL;clear hL
    by_cases hlt:m+1<n
    · have h1:(m:Int)+1<(n:Int):=by omega
      have h2:(0:Int)≤(m:Int)+1:=by omega
      have h3:(0:Int)≤(m:Int):=by omega
      have h4:(m:Int)<(n:Int):=by omega
      have h5:((m:Int)+1).toNat=m+1:=by omega
      obtain ⟨b',o',rfl,_,hc⟩:=HR'.out m (by rw [List.length_map,HN.out];omega)
      have hc':=HR'.out.at (m+1) (by rw [List.length_map,HN.out];omega)
      rw [iv_get _ _ (by rw [HN.out];omega)] at hc hc'
      have hx:=HS.out m (by omega)
      have hy:=HS.out (m+1) (by omega)
      obtain ⟨b,o,rfl,_,hd⟩:=HR.out (S.getD m 0) (by rw [sv_len,HK.out];exact hx)
      have hd':=HR.out.at (S.getD (m+1) 0) (by rw [sv_len,HK.out];exact hy)
      rw [sv_get _ _ (by rw [HK.out];exact hx)] at hd
      rw [sv_get _ _ (by rw [HK.out];exact hy)] at hd'
      have HKeep:=Lib.hid (fun h=>HL.out.keep (key:=keyB l) (S:=S) (m:=m) h)
      have HTake:=Lib.hid (fun h=>HL.out.take (key:=keyB l) (S:=S) (m:=m) h)
      have HE1:=Lib.hid (keyB_def l (S.getD m 0))
      have HE2:=Lib.hid (keyB_def l (S.getD (m+1) 0))
      generalize S.getD (m+1) 0=y at *
      generalize S.getD m 0=x at *
      generalize l.getD x ByteArray.empty=kx at *
      generalize l.getD y ByteArray.empty=ky at *
      rw [← HE1.out,← HE2.out] at HKeep HTake
      have hx2:(x:Int)<(k0:Int):=by omega
      have hy2:(y:Int)<(k0:Int):=by omega
      have hx3:(0:Int)≤(x:Int):=by omega
      have hy3:(0:Int)≤(y:Int):=by omega
      subst hq
      by_cases hk:kx.toList=ky.toList
      · have hkb:(kx.toList == ky.toList)=true:=by rw [key_eq];simp [hk]
        have HKE:=Lib.hid hk
        clear hk
        cases fb
        · have HT:=Lib.hid (HTake.out HKE.out (.inl rfl))
          clear HKeep HTake
          go_wp2
          go_quiet (fail)
          go_wp2
          go_quiet (fail)
          go_wp2
          go_roundw
          case rel=>exact ⟨m+1,y,_,true,by go_num,rfl,rfl,.inr (by omega),HT.out,rfl⟩
          case measure=>simp [intOf];omega
        · by_cases hlw:y<lw
          · have hlw2:decide ((y:Int)<(lw:Int))=true:=by simp;omega
            have HT:=Lib.hid (HTake.out HKE.out (.inr hlw))
            clear HKeep HTake
            go_wp2
            go_quiet (fail)
            go_wp2
            go_quiet (fail)
            go_wp2
            go_roundw
            case rel=>exact ⟨m+1,y,_,true,by go_num,rfl,rfl,.inr (by omega),HT.out,rfl⟩
            case measure=>simp [intOf];omega
          · have hlw2:decide ((y:Int)<(lw:Int))=false:=by simp;omega
            have HT:=Lib.hid (HKeep.out (.inr ⟨rfl,by omega⟩))
            clear HKeep HTake
            go_wp2
            go_quiet (fail)
            go_wp2
            go_quiet (fail)
            go_wp2
            go_roundw
            case rel=>exact ⟨m+1,lw,_,true,by go_num,rfl,rfl,.inr (by omega),HT.out,rfl⟩
            case measure=>simp [intOf];omega
      · have hkb:(kx.toList == ky.toList)=false:=by rw [key_eq];simp [hk]
        have HT:=Lib.hid (HKeep.out (.inl hk))
        clear hk HKeep HTake
        go_wp2
        go_quiet (fail)
        go_wp2
        go_quiet (fail)
        go_wp2
        go_roundw
        case rel=>exact ⟨m+1,lw,_,fb,by go_num,rfl,rfl,.inr (by omega),HT.out,rfl⟩
        case measure=>simp [intOf];omega
    · have h1:¬ (m:Int)+1<(n:Int):=by omega
      have HF:=Lib.hid (show Low (keyB l) S n lw fb by
        rcases hmn with h | h
        · subst h
          by_cases e:n=0
          · subst e;exact HL.out.zero
          · rw [show n=0+1 by omega];exact HL.out
        · rw [show n=m+1 by omega];exact HL.out)
      subst hq
      go_wp2
      go_ret2
      exact ⟨lw,fb,_,rfl,HF.out,rfl⟩
theorem lit_blk (w:World) (vs:List Value) (e:TypeId) (arr:Array Value) (h:arr=vs.toArray):BlkV (w.alloc (.cells arr e)) w.heap.size e vs:=by
  unfold BlkV;rw [heap_alloc_new,h]
end Go.Proofs.YtnacbakcalcgaaaGreatDoor
