/- Texts of the claim. -/
import Derived.Test.YtnacbakcalcgaaaGreatDoorIm
set_option linter.unusedVariables false
set_option linter.unusedSimpArgs false
set_option maxHeartbeats 2000000
set_option maxRecDepth 100000
namespace Go.Proofs.YtnacbakcalcgaaaGreatDoor
open Go.RowKit
def keyB (l:List ByteArray) (i:Nat):List UInt8:=(l.getD i ByteArray.empty).toList
theorem keyB_def (l:List ByteArray) (i:Nat):(l.getD i ByteArray.empty).toList=keyB l i:=rfl
def rangeT (n k:Nat):List Nat:=List.range k++List.replicate (n - k) 0
theorem rangeT_zero (n:Nat):rangeT n 0=List.replicate n 0:=by simp [rangeT]
theorem rangeT_all (n:Nat):rangeT n n=List.range n:=by simp [rangeT]
theorem rangeT_len {n k:Nat} (h:k≤n):(rangeT n k).length=n:=by simp [rangeT];omega
theorem rangeT_set {n k:Nat} (h:k<n):(rangeT n k).set k k=rangeT n (k+1):=by
  unfold rangeT
  rw [List.set_append_right _ _ (by simp),List.length_range,Nat.sub_self,List.range_succ,List.append_assoc]
  congr 1
  obtain ⟨m,hm⟩:∃ m,n - k=m+1:=⟨n - k - 1,by omega⟩
  rw [hm,List.replicate_succ,List.set_cons_zero,show n - (k+1)=m by omega]
  rfl
theorem places_less (ad:Option Addr) (n cap:Nat) (l:List ByteArray) (w:World) (hn:l.length=n) (hcap:n≤cap) (hm:n≤1000000) (hr:RdV w ad (sv l)) :
    Calls Tryz.prog 144 #[.slice ad n cap,.func (.func 181) #[] #[]] w (SortPost Op.bytesLess (keyB l) n w.heap.size w):=by
  obtain ⟨w2,hw2⟩:∃ w2,w2=(w.alloc (.cells #[.slice ad n cap] 26)).alloc (.cells #[.func (.func 181) #[] #[]] 50):=⟨_,rfl⟩
  have hb2:Below w.heap.size w w2:=by rw [hw2];exact ((Below.refl _ _).alloc (Nat.le_refl _) _).alloc (by simp) _
  have hz2:w2.heap.size=w.heap.size+1+1:=by rw [hw2];simp
  have cl:w2.cell? ⟨w.heap.size,0,none⟩=some (.slice ad n cap):=by rw [hw2];simp
  have ca:w2.cell? ⟨w.heap.size+1,0,none⟩=some (.func (.func 181) #[] #[]):=by rw [hw2];simp
  have HC:CmpOk Op.bytesLess (keyB l) n (w.heap.size+1) w.heap.size (w.heap.size+1+1) w2:=by
    intro W hW i j hi hj
    exact cmp_less i j n cap ad l (w.heap.size+1) w.heap.size W (by omega) (by omega) hn hcap (by omega) (hr.on (hb2.trans (hW.mono (by omega)))) ((hW.cell (p:=⟨w.heap.size+1,0,none⟩) (by simp)).trans ca) ((hW.cell (p:=⟨w.heap.size,0,none⟩) (by show w.heap.size<_;omega)).trans cl)
  have HCC:=Lib.hid HC
  have HB2:=Lib.hid hb2
  have HZ2:=Lib.hid hz2
  clear HC hb2 hr hz2
  have HN:=Lib.hid hn;clear hn
  have hmk:=fun W=>run_make_row' (P:=Tryz.prog) 40 3 (.int .i64 0) 8 Tryz.underlying40 info_int rfl .i64 .i64 n (by omega) (by omega) W
  go_enter Tryz.func144,Tryz.ntmps144
  go_upto_region 2 with fail
  rw [← hw2]
  clear hw2 hmk cl ca
  have hst:=made_blk w2 (.int .i64 0) n 3
  rw [rep_iv,← rangeT_zero,HZ2.out] at hst
  have HST:=Lib.hid hst;clear hst
  have HA:=Lib.hid ((Below.refl (w.heap.size+1+1) w2).alloc (by rw [HZ2.out];exact Nat.le_refl _) (.cells (madeCells #[.int .i64 0] n) 3))
  go_wp2
  go_loopw [12] (fun i wr=>∃ k,k≤n∧i=.int .i64 ((k:Nat):Int)∧BlkV wr (w.heap.size+1+1) 3 ((rangeT n k).map iv)∧Below (w.heap.size+1+1) w2 wr) (fun i _=>n - (intOf i).toNat)
  case atStart=>exact ⟨0,Nat.zero_le _,rfl,HST.out,HA.out⟩
  case round =>
    obtain ⟨k,hk,rfl,hT,hbl⟩:=hrel
    have HT:=Lib.hid hT;have HBL:=Lib.hid hbl
    clear hT hbl
    by_cases hlt:k<n
    · have h1:(k:Int)<(n:Int):=by omega
      have h2:(0:Int)≤(k:Int):=by omega
      have hf:=HT.out.free k
      obtain ⟨z,hold⟩:∃ z:Nat,wr.cell? ⟨w.heap.size+1+1,k,none⟩=some (.int .i64 (z:Int)):=⟨_,(HT.out.cell _).trans (iv_get _ _ (by rw [rangeT_len hk];omega))⟩
      have hnew:=HT.out.set k (.int .i64 (k:Int))
      rw [iv_set,rangeT_set hlt] at hnew
      have HNEW:=Lib.hid hnew;clear hnew
      have HB3:=Lib.hid (HBL.out.setCell (p:=⟨w.heap.size+1+1,k,none⟩) (Nat.le_refl _) (.int .i64 (k:Int)))
      go_wp2
      go_roundw
      case rel=>exact ⟨k+1,by omega,by go_num,HNEW.out,HB3.out⟩
      case measure=>simp [intOf];omega
    · obtain rfl:k=n:=by omega
      have hz:¬ (k:Int)<(k:Int):=by omega
      rw [rangeT_all] at HT
      have KM:=Lib.hid (mergeSort_any sto_bytes HCC.out (w.heap.size+1+1) wr (by omega) HT.out HBL.out (Nat.le_refl _) (by have:=HBL.out.size;have:=HZ2.out;omega))
      unfold cmpF at KM
      go_wp2_with fail
      refine KM.out.mono ?_
      rintro r w' hS
      obtain ⟨g,rfl,hg,hk2,hw⟩:=hS
      have HF:=Lib.hid (show SortPost Op.bytesLess (keyB l) k w.heap.size w (.returned (.slice (some ⟨g,0,none⟩) k k)) w' from ⟨g,rfl,by omega,hk2,HB2.out.trans ((HBL.out.trans hw).mono (by omega))⟩)
      clear hk2 hw
      go_wp2
      go_ret
      exact HF.out
theorem sort_any (ad:Option Addr) (n cap:Nat) (l:List ByteArray) (w:World) (hn:l.length=n) (hcap:n≤cap) (hm:n≤1000000) (hr:RdV w ad (sv l)) :
    Calls Tryz.prog 183 #[.slice ad n cap] w (SortPost Op.bytesLess (keyB l) n w.heap.size w):=by
  have K:=Lib.hid (places_less ad n cap l w hn hcap hm hr)
  clear hn hr
  go_enter Tryz.func183,Tryz.ntmps183
  go_wp2_with fail
  refine K.out.mono ?_
  rintro r w' ⟨g,rfl,hg,hk,hw⟩
  have HF:=Lib.hid (show SortPost Op.bytesLess (keyB l) n w.heap.size w (.returned (.slice (some ⟨g,0,none⟩) n n)) w' from ⟨g,rfl,hg,hk,hw⟩)
  clear hk hw
  go_wp2
  go_ret
  exact HF.out
theorem key_eq (a b:ByteArray):(a.toList == b.toList)=decide (a.toList=b.toList):=by rw [Bool.eq_iff_iff];simp
def AgainPost (key:Nat→List UInt8) (S:List Nat) (n:Nat) (w:World) (e:Ending) (w':World):Prop :=
  ∃ lo f q,e=.returned (.tuple #[.int .i64 ((lo:Nat):Int),.bool f])∧Low key S n lo f∧w'=w.drewN q
def ARo (key:Nat→List UInt8) (S:List Nat) (n:Nat) (w:World) (lo f i:Value) (wr:World):Prop :=
  ∃ (m lw q:Nat) (fb:Bool),i=.int .i64 ((m:Int)+1)∧lo=.int .i64 (lw:Int)∧f=.bool fb∧(m=0∨m+1≤n)∧Low key S (m+1) lw fb∧wr=w.drewN q
theorem Low.zero {key:Nat→List UInt8} {S:List Nat} {lo:Nat} {f:Bool} (h:Low key S 1 lo f):Low key S 0 lo f :=
  ⟨fun hf=>⟨(h.1 hf).1,fun i hi=>absurd hi (by omega)⟩,fun hf=>absurd (h.2 hf).1 (by rintro ⟨i,hi,_⟩;omega)⟩
theorem again_any (ad:Option Addr) (k0 cap:Nat) (l:List ByteArray) (ad':Option Addr) (n cap':Nat) (S:List Nat) (w:World) (hk0:l.length=k0) (hn:S.length=n) (hm:n≤1000000000) (hm0:k0≤1000000000) (hr:RdV w ad (sv l)) (hr':RdV w ad' (S.map iv)) (hS:∀ i,i<n→S.getD i 0<k0) (hcap:k0≤cap) (hcap':n≤cap') :
    Calls Tryz.prog 184 #[.slice ad k0 cap,.slice ad' n cap'] w (AgainPost (keyB l) S n w):=by
  have HN:=Lib.hid hn;have HR:=Lib.hid hr;have HK:=Lib.hid hk0;have HR':=Lib.hid hr';have HS:=Lib.hid hS
  clear hn hr hk0 hr' hS
  go_enter Tryz.func184,Tryz.ntmps184
  go_wp2
  go_loopw [6,7,8] (fun lo f i wr=>ARo (keyB l) S n w lo f i wr) (fun _ _ i _=>n+1 - (intOf i).toNat)
  case atStart=>exact ⟨0,0,0,false,rfl,rfl,rfl,.inl rfl,Low.start _ _,rfl⟩
  case round =>
    obtain ⟨m,lw,q,fb,rfl,rfl,rfl,hmn,hL,hq⟩:=hrel
    have HL:=Lib.hid hL;clear hL
    by_cases hlt:m+1<n
    · have h1:(m:Int)+1<(n:Int):=by omega
      have h2:(0:Int)≤(m:Int)+1:=by omega
      have h3:(0:Int)≤(m:Int):=by omega
      have h4:(m:Int)<(n:Int):=by omega
      have h5:((m:Int)+1).toNat=m+1:=by omega
      obtain ⟨b',o',rfl,_,hc⟩:=HR'.out m (by rw [List.length_map,HN.out];omega)
      have hc':=HR'.out.at (m+1) (by rw [List.length_map,HN.out];omega)
      rw [iv_get _ _ (by rw [HN.out];omega)] at hc hc'
      have hx:=HS.out m (by omega)
      have hy:=HS.out (m+1) (by omega)
      obtain ⟨b,o,rfl,_,hd⟩:=HR.out (S.getD m 0) (by rw [sv_len,HK.out];exact hx)
      have hd':=HR.out.at (S.getD (m+1) 0) (by rw [sv_len,HK.out];exact hy)
      rw [sv_get _ _ (by rw [HK.out];exact hx)] at hd
      rw [sv_get _ _ (by rw [HK.out];exact hy)] at hd'
      have HKeep:=Lib.hid (fun h=>HL.out.keep (key:=keyB l) (S:=S) (m:=m) h)
      have HTake:=Lib.hid (fun h=>HL.out.take (key:=keyB l) (S:=S) (m:=m) h)
      have HE1:=Lib.hid (keyB_def l (S.getD m 0))
      have HE2:=Lib.hid (keyB_def l (S.getD (m+1) 0))
      generalize S.getD (m+1) 0=y at *
      generalize S.getD m 0=x at *
      generalize l.getD x ByteArray.empty=kx at *
      generalize l.getD y ByteArray.empty=ky at *
      rw [← HE1.out,← HE2.out] at HKeep HTake
      have hx2:(x:Int)<(k0:Int):=by omega
      have hy2:(y:Int)<(k0:Int):=by omega
      have hx3:(0:Int)≤(x:Int):=by omega
      have hy3:(0:Int)≤(y:Int):=by omega
      subst hq
      by_cases hk:kx.toList=ky.toList
      · have hkb:(kx.toList == ky.toList)=true:=by rw [key_eq];simp [hk]
        have HKE:=Lib.hid hk
        clear hk
        cases fb
        · have HT:=Lib.hid (HTake.out HKE.out (.inl rfl))
          clear HKeep HTake
          go_wp2
          go_quiet (fail)
          go_wp2
          go_quiet (fail)
          go_wp2
          go_roundw
          case rel=>exact ⟨m+1,y,_,true,by go_num,rfl,rfl,.inr (by omega),HT.out,rfl⟩
          case measure=>simp [intOf];omega
        · by_cases hlw:y<lw
          · have hlw2:decide ((y:Int)<(lw:Int))=true:=by simp;omega
            have HT:=Lib.hid (HTake.out HKE.out (.inr hlw))
            clear HKeep HTake
            go_wp2
            go_quiet (fail)
            go_wp2
            go_quiet (fail)
            go_wp2
            go_roundw
            case rel=>exact ⟨m+1,y,_,true,by go_num,rfl,rfl,.inr (by omega),HT.out,rfl⟩
            case measure=>simp [intOf];omega
          · have hlw2:decide ((y:Int)<(lw:Int))=false:=by simp;omega
            have HT:=Lib.hid (HKeep.out (.inr ⟨rfl,by omega⟩))
            clear HKeep HTake
            go_wp2
            go_quiet (fail)
            go_wp2
            go_quiet (fail)
            go_wp2
            go_roundw
            case rel=>exact ⟨m+1,lw,_,true,by go_num,rfl,rfl,.inr (by omega),HT.out,rfl⟩
            case measure=>simp [intOf];omega
      · have hkb:(kx.toList == ky.toList)=false:=by rw [key_eq];simp [hk]
        have HT:=Lib.hid (HKeep.out (.inl hk))
        clear hk HKeep HTake
        go_wp2
        go_quiet (fail)
        go_wp2
        go_quiet (fail)
        go_wp2
        go_roundw
        case rel=>exact ⟨m+1,lw,_,fb,by go_num,rfl,rfl,.inr (by omega),HT.out,rfl⟩
        case measure=>simp [intOf];omega
    · have h1:¬ (m:Int)+1<(n:Int):=by omega
      have HF:=Lib.hid (show Low (keyB l) S n lw fb by
        rcases hmn with h | h
        · subst h
          by_cases e:n=0
          · subst e;exact HL.out.zero
          · rw [show n=0+1 by omega];exact HL.out
        · rw [show n=m+1 by omega];exact HL.out)
      subst hq
      go_wp2
      go_ret2
      exact ⟨lw,fb,_,rfl,HF.out,rfl⟩
theorem lit_blk (w:World) (vs:List Value) (e:TypeId) (arr:Array Value) (h:arr=vs.toArray):BlkV (w.alloc (.cells arr e)) w.heap.size e vs:=by
  unfold BlkV;rw [heap_alloc_new,h]
def pickB (l:List ByteArray) (S:List Nat):List ByteArray:=S.map fun p=>l.getD p ByteArray.empty
def pickBK (l:List ByteArray) (S:List Nat) (k:Nat):List ByteArray:=pickB l (S.take k)++List.replicate (S.length - k) ByteArray.empty
theorem pickBK_len (l:List ByteArray) (S:List Nat) {k:Nat} (h:k≤S.length):(pickBK l S k).length=S.length:=by simp [pickBK,pickB];omega
theorem pickBK_zero (l:List ByteArray) (S:List Nat):pickBK l S 0=List.replicate S.length ByteArray.empty:=by simp [pickBK,pickB]
theorem pickBK_all (l:List ByteArray) (S:List Nat):pickBK l S S.length=pickB l S:=by simp [pickBK]
theorem pickBK_set (l:List ByteArray) (S:List Nat) {k:Nat} (h:k<S.length):(pickBK l S k).set k (l.getD (S.getD k 0) ByteArray.empty)=pickBK l S (k+1):=by
  unfold pickBK pickB
  rw [List.set_append_right _ _ (by simp;omega),List.length_map,List.length_take,Nat.min_eq_left (by omega),Nat.sub_self,List.take_succ_eq_append_getElem h,List.map_append,List.append_assoc]
  congr 1
  obtain ⟨m,hm⟩:∃ m,S.length - k=m+1:=⟨S.length - k - 1,by omega⟩
  rw [hm,List.replicate_succ,List.set_cons_zero,show S.length - (k+1)=m by omega]
  simp [List.getD,h]
theorem sv_set (l:List ByteArray) (i:Nat) (s:ByteArray):(sv l).set i (.string s)=sv (l.set i s):=by
  unfold sv;rw [List.map_set]
theorem sv_rep (n:Nat):sv (List.replicate n ByteArray.empty)=List.replicate n (.string ByteArray.empty):=by simp [sv]
theorem pickS_any (ad:Option Addr) (n cap:Nat) (l:List ByteArray) (ad':Option Addr) (n' cap':Nat) (S:List Nat) (w:World) (hl:l.length=n) (hcap:n≤cap) (hm:n≤1000000) (hr:RdV w ad (sv l))
    (hS:S.length=n') (hcap':n'≤cap') (hm':n'≤1000000) (hr':RdV w ad' (S.map iv)) (hb:∀ p∈S,p<n) :
    Calls Tryz.prog 185 #[.slice ad n cap,.slice ad' n' cap'] w (PickPost 9 (sv (pickB l S)) n' w):=by
  have HL:=Lib.hid hl;have HR:=Lib.hid hr;have HS:=Lib.hid hS;have HR':=Lib.hid hr';have HB:=Lib.hid hb
  clear hl hr hS hr' hb
  have hst:=made_blk w (.string ByteArray.empty) n' 9
  rw [← sv_rep,← HS.out,← pickBK_zero l S] at hst
  have HST:=Lib.hid hst;clear hst
  rw [HS.out] at HST
  have HBL:=Lib.hid ((Below.refl w.heap.size w).alloc (Nat.le_refl _) (.cells (madeCells #[Value.string ByteArray.empty] n') 9))
  have hmk:=fun W=>run_make_row' (P:=Tryz.prog) 26 9 (.string ByteArray.empty) 16 Tryz.underlying26 info_string rfl .i64 .i64 n' (by omega) (by omega) W
  go_enter Tryz.func185,Tryz.ntmps185
  go_wp2
  clear hmk
  go_loopw [13] (fun i wr=>∃ k:Nat,k≤n'∧i=.int .i64 (k:Int)∧BlkV wr w.heap.size 9 (sv (pickBK l S k))∧Below w.heap.size w wr) (fun i _=>n' - (intOf i).toNat)
  case atStart=>exact ⟨0,Nat.zero_le _,rfl,HST.out,HBL.out⟩
  case round =>
    obtain ⟨k,hk,rfl,hT,hbl⟩:=hrel
    have HT:=Lib.hid hT;have HBW:=Lib.hid hbl
    clear hT hbl
    by_cases hlt:k<n'
    · have h1:(k:Int)<(n':Int):=by omega
      have h2:(0:Int)≤(k:Int):=by omega
      obtain ⟨b',o',rfl,_,hc⟩:=(HR'.out.on HBW.out) k (by rw [List.length_map,HS.out];exact hlt)
      rw [iv_get _ _ (by rw [HS.out];exact hlt)] at hc
      have hp:=HB.out (S.getD k 0) (by simp [List.getD,HS.out,hlt])
      obtain ⟨b,o,rfl,_,hd⟩:=(HR.out.on HBW.out) (S.getD k 0) (by rw [sv_len,HL.out];exact hp)
      rw [sv_get _ _ (by rw [HL.out];exact hp)] at hd
      obtain ⟨z,hold⟩:∃ z,wr.cell? ⟨w.heap.size,k,none⟩=some z:=⟨_,(HT.out.cell k).trans (sv_get _ _ (by rw [pickBK_len _ _ (by rw [HS.out];exact hk),HS.out];exact hlt))⟩
      have hf:=HT.out.free k
      have hnew:=HT.out.set k (.string (l.getD (S.getD k 0) ByteArray.empty))
      rw [sv_set,pickBK_set _ _ (by rw [HS.out];exact hlt)] at hnew
      have HNEW:=Lib.hid hnew;clear hnew
      have HB3:=Lib.hid (HBW.out.setCell (p:=⟨w.heap.size,k,none⟩) (Nat.le_refl _) (.string (l.getD (S.getD k 0) ByteArray.empty)))
      generalize l.getD (S.getD k 0) ByteArray.empty=c at *
      generalize S.getD k 0=p at *
      have hp1:(p:Int)<(n:Int):=by omega
      have hp2:(0:Int)≤(p:Int):=by omega
      go_wp2_with fail
      go_roundw
      case rel=>exact ⟨k+1,by omega,by go_num,HNEW.out,HB3.out⟩
      case measure=>simp [intOf];omega
    · obtain rfl:k=n':=by omega
      have h1:¬ (k:Int)<(k:Int):=by omega
      have hT:=HT.out
      rw [← HS.out,pickBK_all] at hT
      have HT2:=Lib.hid hT;clear hT
      go_wp2
      go_ret
      exact ⟨_,rfl,Nat.le_refl _,HT2.out,HBW.out⟩
def objC (g1 g2 n:Nat):Cel:=⟨7,false,false,none,0,0,0,ByteArray.empty,some ⟨g1,0,none⟩,n,n,some ⟨g2,0,none⟩,n,n⟩
def ObjYes (l:List ByteArray) (cs:List Cel) (m:Nat) (w:World) (r:Ending) (w':World):Prop :=
  ∃ g1 g2,r=.returned (.tuple #[(objC g1 g2 m).val,.int .i64 0,.bool true])∧w.heap.size≤g1∧w.heap.size≤g2∧BlkV w' g1 9 (sv (pickB l (srt Op.bytesLess (keyB l) 0 m)))∧BlkV w' g2 29 (flat (pickC cs (srt Op.bytesLess (keyB l) 0 m)))∧Below w.heap.size w w'
def ObjNo (lo:Nat) (w:World) (r:Ending) (w':World):Prop :=
  r=.returned (.tuple #[zeroC.val,.int .i64 (lo:Int),.bool false])∧Below w.heap.size w w'
def ObjPost (l:List ByteArray) (cs:List Cel) (m:Nat) (w:World) (r:Ending) (w':World):Prop :=
  ∃ lo f,Twc (keyB l) m lo f∧(f=false→ObjYes l cs m w r w')∧(f=true→ObjNo lo w r w')
theorem object_core (ad:Option Addr) (n cap m:Nat) (l:List ByteArray) (ad':Option Addr) (n' cap':Nat) (cs:List Cel) (w:World) (hcap:n≤cap) (hm:n≤1000000) (hl:l.length=m) (hr:RdV w ad (sv l))
    (hS:cs.length=n') (hcap':n'≤cap') (hm':n'≤1000000) (hr':RdV w ad' (flat cs)) (hmin:n≤n'∧m=n∨n'<n∧m=n') :
    Calls Tryz.prog 151 #[.slice ad n cap,.slice ad' n' cap'] w (ObjPost l cs m w):=by
  have hmn:m≤n:=by omega
  have hmn':m≤n':=by omega
  have KS:=Lib.hid (fun W (h:Below w.heap.size w W)=>sort_any ad m cap l W hl (by omega) (by omega) (hr.on h))
  have KA:=Lib.hid (fun W (h:Below w.heap.size w W) g (hk:BlkV W g 3 ((srt Op.bytesLess (keyB l) 0 m).map iv)) =>
    again_any ad m cap l (some ⟨g,0,none⟩) m m (srt Op.bytesLess (keyB l) 0 m) W hl (srt_len _ _ _ _) (by omega) (by omega) (hr.on h) hk.all (fun i hi=>srt_lt _ _ _ i hi) (by omega) (Nat.le_refl _))
  have hbS:∀ p∈srt Op.bytesLess (keyB l) 0 m,p<m:=fun p hp=>by have:=srt_mem.1 hp;omega
  have KP:=Lib.hid (fun W (h:Below w.heap.size w W) g (hk:BlkV W g 3 ((srt Op.bytesLess (keyB l) 0 m).map iv)) =>
    pickS_any ad m cap l (some ⟨g,0,none⟩) m m (srt Op.bytesLess (keyB l) 0 m) W hl (by omega) (by omega) (hr.on h) (srt_len _ _ _ _) (Nat.le_refl _) (by omega) hk.all hbS)
  have KT:=Lib.hid (fun W (h:Below w.heap.size w W) g (hk:BlkV W g 3 ((srt Op.bytesLess (keyB l) 0 m).map iv)) =>
    pickT_any ad' n' cap' cs (some ⟨g,0,none⟩) m m (srt Op.bytesLess (keyB l) 0 m) W hS hcap' hm' (hr'.on h) (srt_len _ _ _ _) (Nat.le_refl _) (by omega) hk.all (fun p hp=>by have:=hbS p hp;omega))
  clear hr hr' hS hl hbS
  have B1:=Lib.hid ((Below.refl w.heap.size w).alloc (Nat.le_refl _) (.cells #[.int .i64 0,.bool false,.bool false,.slice none 0 0,.int .i64 0,.string ByteArray.empty,.slice none 0 0,.slice none 0 0] 29))
  rcases hmin with ⟨hle,rfl⟩ | ⟨hle,rfl⟩
  · have hi:(m:Int)≤(n':Int):=by omega
    have mn1:=Int.min_def (m:Int) (n':Int)
    go_enter Tryz.func151,Tryz.ntmps151
    go_wp2_with fail
    have HZ0:=B1.out.size
    have c0:=lit_blk w [.int .i64 0,.bool false,.bool false,.slice none 0 0,.int .i64 0,.string ByteArray.empty,.slice none 0 0,.slice none 0 0] 29 #[.int .i64 0,.bool false,.bool false,.slice none 0 0,.int .i64 0,.string ByteArray.empty,.slice none 0 0,.slice none 0 0] rfl
    have HC0:=Lib.hid c0;clear c0
    refine (KS.out _ B1.out).mono ?_
    rintro r w1 ⟨g,rfl,hg,hk,hw⟩
    have B2:=Lib.hid (below_on B1.out hw)
    have HK:=Lib.hid hk
    have HC1:=Lib.hid (HC0.out.below hw (by simp))
    clear hg hk hw HC0
    go_wp2_with fail
    refine (KA.out _ B2.out g HK.out).mono ?_
    rintro r w2 ⟨lo,f,q,rfl,hL,rfl⟩
    have HT:=Lib.hid (hL.twc sto_bytes)
    have B3:=Lib.hid (below_drewN B2.out q)
    have HC2:=Lib.hid (HC1.out.drewN q)
    have HK2:=Lib.hid (HK.out.drewN q)
    clear hL HK HC1
    generalize World.drewN _ q=w2 at B3 HC2 HK2 ⊢
    cases f
    · go_wp2_with fail
      refine (KP.out _ B3.out g HK2.out).mono ?_
      rintro r w3 ⟨g1,rfl,hg1,hk1,hb1⟩
      have B4:=Lib.hid (below_on B3.out hb1)
      have HG1:=Lib.hid (show w.heap.size<g1 by have:=HC2.out.lt;omega)
      have HC3:=Lib.hid (HC2.out.below hb1 HC2.out.lt)
      have HK3:=Lib.hid (HK2.out.below hb1 HK2.out.lt)
      have HP:=Lib.hid hk1
      clear hg1 hk1 hb1
      go_wp2_with fail
      refine (KT.out _ B4.out g HK3.out).mono ?_
      rintro r w4 ⟨g2,rfl,hg2,hk2,hb2⟩
      have B5:=Lib.hid (below_on B4.out hb2)
      have HG2:=Lib.hid (show w.heap.size<g2 by have:=HC3.out.lt;omega)
      have HC4:=Lib.hid (HC3.out.below hb2 HC3.out.lt)
      have HP2:=Lib.hid (HP.out.below hb2 HP.out.lt)
      have HQ:=Lib.hid hk2
      clear hg2 hk2 hb2
      have y0:=HC4.out.cell 0;have y1:=HC4.out.cell 1;have y2:=HC4.out.cell 2;have y3:=HC4.out.cell 3
      have y4:=HC4.out.cell 4;have y5:=HC4.out.cell 5;have y6:=HC4.out.cell 6;have y7:=HC4.out.cell 7
      have f0:=HC4.out.free 0;have f1:=HC4.out.free 1;have f2:=HC4.out.free 2;have f3:=HC4.out.free 3
      have f4:=HC4.out.free 4;have f5:=HC4.out.free 5;have f6:=HC4.out.free 6;have f7:=HC4.out.free 7
      simp only [List.getElem?_cons_zero,List.getElem?_cons_succ] at y0 y1 y2 y3 y4 y5 y6 y7
      go_wp2_with fail
      refine bodyPost_ret (v:=.tuple #[(objC g1 g2 m).val,.int .i64 0,.bool true]) (by simp [results,Tryz.results151,go_sem,y0,y1,y2,y3,y4,y5,y6,y7,objC,Cel.val];rfl) rfl ?_
      have hbut:=put8_but w4 w.heap.size 0 (objC g1 g2 m)
      exact ⟨lo,false,HT.out,fun _=>⟨g1,g2,rfl,Nat.le_of_lt HG1.out,Nat.le_of_lt HG2.out,hbut.blk HP2.out (by have:=HG1.out;omega),hbut.blk HQ.out (by have:=HG2.out;omega),B5.out.trans (hbut.below (Nat.le_refl _) B5.out.size)⟩,fun h=>by cases h⟩
    · have HC4:=HC2
      have y0:=HC4.out.cell 0;have y1:=HC4.out.cell 1;have y2:=HC4.out.cell 2;have y3:=HC4.out.cell 3
      have y4:=HC4.out.cell 4;have y5:=HC4.out.cell 5;have y6:=HC4.out.cell 6;have y7:=HC4.out.cell 7
      have f0:=HC4.out.free 0;have f1:=HC4.out.free 1;have f2:=HC4.out.free 2;have f3:=HC4.out.free 3
      have f4:=HC4.out.free 4;have f5:=HC4.out.free 5;have f6:=HC4.out.free 6;have f7:=HC4.out.free 7
      simp only [List.getElem?_cons_zero,List.getElem?_cons_succ] at y0 y1 y2 y3 y4 y5 y6 y7
      go_wp2_with fail
      refine bodyPost_ret (v:=.tuple #[zeroC.val,.int .i64 (lo:Int),.bool false]) (by simp [results,Tryz.results151,go_sem,y0,y1,y2,y3,y4,y5,y6,y7,zeroC,Cel.val];rfl) rfl ?_
      have hbut:=put8_but w2 w.heap.size 0 zeroC
      exact ⟨lo,true,HT.out,(fun h=>by cases h),fun _=>⟨rfl,B3.out.trans (hbut.below (Nat.le_refl _) B3.out.size)⟩⟩
  · have hi:¬ (n:Int)≤(m:Int):=by omega
    have mn1:=Int.min_def (n:Int) (m:Int)
    have hi2:(m:Int)≤(n:Int):=by omega
    have hi3:(m:Int)≤(cap:Int):=by omega
    have hi4:(0:Int)≤(m:Int):=by omega
    go_enter Tryz.func151,Tryz.ntmps151
    go_wp2_with fail
    have HZ0:=B1.out.size
    have c0:=lit_blk w [.int .i64 0,.bool false,.bool false,.slice none 0 0,.int .i64 0,.string ByteArray.empty,.slice none 0 0,.slice none 0 0] 29 #[.int .i64 0,.bool false,.bool false,.slice none 0 0,.int .i64 0,.string ByteArray.empty,.slice none 0 0,.slice none 0 0] rfl
    have HC0:=Lib.hid c0;clear c0
    refine (KS.out _ B1.out).mono ?_
    rintro r w1 ⟨g,rfl,hg,hk,hw⟩
    have B2:=Lib.hid (below_on B1.out hw)
    have HK:=Lib.hid hk
    have HC1:=Lib.hid (HC0.out.below hw (by simp))
    clear hg hk hw HC0
    go_wp2_with fail
    refine (KA.out _ B2.out g HK.out).mono ?_
    rintro r w2 ⟨lo,f,q,rfl,hL,rfl⟩
    have HT:=Lib.hid (hL.twc sto_bytes)
    have B3:=Lib.hid (below_drewN B2.out q)
    have HC2:=Lib.hid (HC1.out.drewN q)
    have HK2:=Lib.hid (HK.out.drewN q)
    clear hL HK HC1
    generalize World.drewN _ q=w2 at B3 HC2 HK2 ⊢
    cases f
    · go_wp2_with fail
      refine (KP.out _ B3.out g HK2.out).mono ?_
      rintro r w3 ⟨g1,rfl,hg1,hk1,hb1⟩
      have B4:=Lib.hid (below_on B3.out hb1)
      have HG1:=Lib.hid (show w.heap.size<g1 by have:=HC2.out.lt;omega)
      have HC3:=Lib.hid (HC2.out.below hb1 HC2.out.lt)
      have HK3:=Lib.hid (HK2.out.below hb1 HK2.out.lt)
      have HP:=Lib.hid hk1
      clear hg1 hk1 hb1
      go_wp2_with fail
      refine (KT.out _ B4.out g HK3.out).mono ?_
      rintro r w4 ⟨g2,rfl,hg2,hk2,hb2⟩
      have B5:=Lib.hid (below_on B4.out hb2)
      have HG2:=Lib.hid (show w.heap.size<g2 by have:=HC3.out.lt;omega)
      have HC4:=Lib.hid (HC3.out.below hb2 HC3.out.lt)
      have HP2:=Lib.hid (HP.out.below hb2 HP.out.lt)
      have HQ:=Lib.hid hk2
      clear hg2 hk2 hb2
      have y0:=HC4.out.cell 0;have y1:=HC4.out.cell 1;have y2:=HC4.out.cell 2;have y3:=HC4.out.cell 3
      have y4:=HC4.out.cell 4;have y5:=HC4.out.cell 5;have y6:=HC4.out.cell 6;have y7:=HC4.out.cell 7
      have f0:=HC4.out.free 0;have f1:=HC4.out.free 1;have f2:=HC4.out.free 2;have f3:=HC4.out.free 3
      have f4:=HC4.out.free 4;have f5:=HC4.out.free 5;have f6:=HC4.out.free 6;have f7:=HC4.out.free 7
      simp only [List.getElem?_cons_zero,List.getElem?_cons_succ] at y0 y1 y2 y3 y4 y5 y6 y7
      go_wp2_with fail
      refine bodyPost_ret (v:=.tuple #[(objC g1 g2 m).val,.int .i64 0,.bool true]) (by simp [results,Tryz.results151,go_sem,y0,y1,y2,y3,y4,y5,y6,y7,objC,Cel.val];rfl) rfl ?_
      have hbut:=put8_but w4 w.heap.size 0 (objC g1 g2 m)
      exact ⟨lo,false,HT.out,fun _=>⟨g1,g2,rfl,Nat.le_of_lt HG1.out,Nat.le_of_lt HG2.out,hbut.blk HP2.out (by have:=HG1.out;omega),hbut.blk HQ.out (by have:=HG2.out;omega),B5.out.trans (hbut.below (Nat.le_refl _) B5.out.size)⟩,fun h=>by cases h⟩
    · have HC4:=HC2
      have y0:=HC4.out.cell 0;have y1:=HC4.out.cell 1;have y2:=HC4.out.cell 2;have y3:=HC4.out.cell 3
      have y4:=HC4.out.cell 4;have y5:=HC4.out.cell 5;have y6:=HC4.out.cell 6;have y7:=HC4.out.cell 7
      have f0:=HC4.out.free 0;have f1:=HC4.out.free 1;have f2:=HC4.out.free 2;have f3:=HC4.out.free 3
      have f4:=HC4.out.free 4;have f5:=HC4.out.free 5;have f6:=HC4.out.free 6;have f7:=HC4.out.free 7
      simp only [List.getElem?_cons_zero,List.getElem?_cons_succ] at y0 y1 y2 y3 y4 y5 y6 y7
      go_wp2_with fail
      refine bodyPost_ret (v:=.tuple #[zeroC.val,.int .i64 (lo:Int),.bool false]) (by simp [results,Tryz.results151,go_sem,y0,y1,y2,y3,y4,y5,y6,y7,zeroC,Cel.val];rfl) rfl ?_
      have hbut:=put8_but w2 w.heap.size 0 zeroC
      exact ⟨lo,true,HT.out,(fun h=>by cases h),fun _=>⟨rfl,B3.out.trans (hbut.below (Nat.le_refl _) B3.out.size)⟩⟩
end Go.Proofs.YtnacbakcalcgaaaGreatDoor
namespace Go.Proofs.YtnacbakcalcgaaaGreatDoor
open Go.RowKit Go.Lib Go.Sort
abbrev RC (α:Type):=(α × List Nat × Nat) ⊕ Int
def validB (l:List Nat):Bool:=validL (l.map fun x=>UInt8.ofNat x)
abbrev IntC:=Bool × Nat
def mkN (neg:Bool) (N:Nat) (e:Int):Option (Bool × Nat × Int) :=
  if N=0 then some (false,0,0)
  else if (limbs (trimM N)).length≤90∧-1200≤e+(trimK N:Int)∧e+(trimK N:Int)≤1200 then some (neg,trimM N,e+(trimK N:Int)) else none
def bnumC (r:Bool × Nat × Int):MT:=numT r.1 none (limbs r.2.1).length 0 r.2.2 (limbs r.2.1)
def exactN (width:Int) (x:Nat):Option (Bool × Nat × Int) :=
  if kindW width x=1∨kindW width x=2 then some (exNegW width x,exMW width x,exEW width x) else none
def barrC (us:List MT):MT:=arrT none us.length 0 us
def bobjC (ks:List ByteArray) (us:List MT):MT:=objT none ks.length 0 none us.length 0 ks us
def sortC (ks:List ByteArray):List Nat:=srt Op.bytesLess (fun i=>(ks.getD i ByteArray.empty).toList) 0 ks.length
theorem natB_lt:∀ (l:List Nat) (a:Nat),Okb l→l.foldl (fun a x=>a*256+x) a<(a+1)*256 ^ l.length
  | [],a,_=>by simp
  | x::l,a,h=>by
    have h1:=natB_lt l (a*256+x) (fun y hy=>h y (List.mem_cons_of_mem _ hy))
    have h2:x<256:=h x (List.mem_cons_self ..)
    rw [List.foldl_cons,List.length_cons,Nat.pow_succ]
    refine Nat.lt_of_lt_of_le h1 ?_
    have:a*256+x+1≤(a+1)*256:=by omega
    refine Nat.le_trans (Nat.mul_le_mul_right _ this) (Nat.le_of_eq ?_)
    rw [Nat.mul_assoc,Nat.mul_comm 256]
theorem natB_bd (l:List Nat) (h:Okb l):natB l<256 ^ l.length:=by
  have:=natB_lt l 0 h
  simpa [natB] using this
theorem okb_take {l:List Nat} (h:Okb l) (k:Nat):Okb (l.take k):=fun x hx=>h x (List.mem_of_mem_take hx)
theorem okb_drop {l:List Nat} (h:Okb l) (k:Nat):Okb (l.drop k):=fun x hx=>h x (List.mem_of_mem_drop hx)
def Shp (ad:Option Addr) (cap:Nat):Prop:=(ad=none∧cap=0)∨∃ b o,ad=some ⟨b,o,none⟩
structure RdC (w0:World) (g:Nat) (l:List Nat) (d n:Nat) (w:World):Prop where
  low:w0.heap.size≤g
  env:Below w0.heap.size w0 w
  ok:Okb l
  len:l.length≤1000000
  cell:∃ ad cap,w.heap[g]? = some (.cells #[.slice ad l.length cap,.int .i64 (d:Int),.int .i64 (n:Int)] 67)∧l.length≤cap∧RdV w0 ad (bc l)∧Shp ad cap
theorem RdC.lt {w0:World} {g:Nat} {l:List Nat} {d n:Nat} {w:World} (h:RdC w0 g l d n w):g<w.heap.size:=by
  obtain ⟨ad,cap,h1,_⟩:=h.cell
  exact (Array.getElem?_eq_some_iff.1 h1).1
theorem RdC.c1 {w0:World} {g:Nat} {l:List Nat} {d n:Nat} {w:World} (h:RdC w0 g l d n w):w.cell? ⟨g,1,none⟩=some (.int .i64 (d:Int)):=by
  obtain ⟨ad,cap,h1,_⟩:=h.cell
  simp [World.cell?,h1]
theorem RdC.c2 {w0:World} {g:Nat} {l:List Nat} {d n:Nat} {w:World} (h:RdC w0 g l d n w):w.cell? ⟨g,2,none⟩=some (.int .i64 (n:Int)):=by
  obtain ⟨ad,cap,h1,_⟩:=h.cell
  simp [World.cell?,h1]
theorem RdC.fz {w0:World} {g:Nat} {l:List Nat} {d n:Nat} {w:World} (h:RdC w0 g l d n w) (i:Nat):w.frozen? ⟨g,i,none⟩=false:=by
  obtain ⟨ad,cap,h1,_⟩:=h.cell
  simp [World.frozen?,h1]
theorem RdC.on {w0:World} {g:Nat} {l:List Nat} {d n:Nat} {w w':World} (h:RdC w0 g l d n w) (hb:Below w.heap.size w w'):RdC w0 g l d n w':=by
  obtain ⟨ad,cap,h1,h2,h3⟩:=h.cell
  exact ⟨h.low,h.env.trans (hb.mono h.env.size),h.ok,h.len,ad,cap,(hb.block g h.lt).trans h1,h2,h3⟩
structure StC (w0:World) (g:Nat) (l:List Nat) (d n:Nat) (w w':World):Prop where
  oth:But g w w'
  rd:RdC w0 g l d n w'
theorem StC.trans {w0:World} {g:Nat} {l l':List Nat} {d n d' n':Nat} {w w1 w2:World} (h:StC w0 g l d n w w1) (k:StC w0 g l' d' n' w1 w2):StC w0 g l' d' n' w w2:=⟨h.oth.trans k.oth,k.rd⟩
theorem StC.of_below {w0:World} {g:Nat} {l:List Nat} {d n:Nat} {w w':World} (h:RdC w0 g l d n w) (hb:Below w.heap.size w w'):StC w0 g l d n w w':=⟨.of_below hb,h.on hb⟩
theorem StC.refl {w0:World} {g:Nat} {l:List Nat} {d n:Nat} {w:World} (h:RdC w0 g l d n w):StC w0 g l d n w w:=.of_below h (Below.refl _ _)
theorem StC.more {w0:World} {g:Nat} {l:List Nat} {d n:Nat} {w w1 w2:World} (h:StC w0 g l d n w w1) (hb:Below w1.heap.size w1 w2):StC w0 g l d n w w2:=h.trans (.of_below h.rd hb)
theorem StC.drew {w0:World} {g:Nat} {l:List Nat} {d n:Nat} {a w:World} (h:StC w0 g l d n a w):StC w0 g l d n a w.drew:=h.more (below_drew (Below.refl _ _))
theorem StC.drewN {w0:World} {g:Nat} {l:List Nat} {d n:Nat} {a w:World} (h:StC w0 g l d n a w) (k:Nat):StC w0 g l d n a (w.drewN k):=h.more (below_drewN (Below.refl _ _) k)
theorem StC.alloc {w0:World} {g:Nat} {l:List Nat} {d n:Nat} {a w:World} (h:StC w0 g l d n a w) (o:Obj):StC w0 g l d n a (w.alloc o):=h.more ((Below.refl _ _).alloc (Nat.le_refl _) _)
theorem StC.zero {w0:World} {g:Nat} {l:List Nat} {d n:Nat} {a w:World} (h:StC w0 g l d n a w) {l':List Nat} {ad:Option Addr} {k cap:Nat} (hok:Okb l') (hlen:l'.length≤1000000) (hk:l'.length=k) (hc:k≤cap) (hr:RdV w0 ad (bc l')) (hsh:Shp ad cap) :
    StC w0 g l' d n a (w.setCell ⟨g,0,none⟩ (.slice ad k cap)):=by
  subst hk
  refine ⟨h.oth.setCell _ _,⟨h.rd.low,h.rd.env.setCell h.rd.low _,hok,hlen,ad,cap,?_,hc,hr,hsh⟩⟩
  obtain ⟨ad',cap',h1,_⟩:=h.rd.cell
  simp [World.setCell,Array.getElem?_modify,h1]
theorem StC.depth {w0:World} {g:Nat} {l:List Nat} {d n:Nat} {a w:World} (h:StC w0 g l d n a w) (d':Nat) {v:Value} (hv:v=.int .i64 (d':Int)):StC w0 g l d' n a (w.setCell ⟨g,1,none⟩ v):=by
  subst hv
  obtain ⟨ad,cap,h1,h2,h3⟩:=h.rd.cell
  refine ⟨h.oth.setCell _ _,⟨h.rd.low,h.rd.env.setCell h.rd.low _,h.rd.ok,h.rd.len,ad,cap,?_,h2,h3⟩⟩
  simp [World.setCell,Array.getElem?_modify,h1]
theorem StC.nodes {w0:World} {g:Nat} {l:List Nat} {d n:Nat} {a w:World} (h:StC w0 g l d n a w) (n':Nat) {v:Value} (hv:v=.int .i64 (n':Int)):StC w0 g l d n' a (w.setCell ⟨g,2,none⟩ v):=by
  subst hv
  obtain ⟨ad,cap,h1,h2,h3⟩:=h.rd.cell
  refine ⟨h.oth.setCell _ _,⟨h.rd.low,h.rd.env.setCell h.rd.low _,h.rd.ok,h.rd.len,ad,cap,?_,h2,h3⟩⟩
  simp [World.setCell,Array.getElem?_modify,h1]
theorem StC.fresh {w0:World} {g:Nat} {l:List Nat} {d n:Nat} {w W:World} (h:StC w0 g l d n w W) {b:Nat} (hb:w.heap.size≤b) (hg:b ≠ g) (h0:w0.heap.size≤b) (i:Nat) (v:Value):StC w0 g l d n w (W.setCell ⟨b,i,none⟩ v):=by
  obtain ⟨ad,cap,h1,h2,h3⟩:=h.rd.cell
  refine ⟨⟨h.oth.os,h.oth.tape,h.oth.output,by simpa [World.setCell] using h.oth.size,fun k hk hk2=>(Below.heap_setCell _ _ _ _ (by simp;omega)).trans (h.oth.block k hk hk2)⟩,⟨h.rd.low,h.rd.env.setCell h0 _,h.rd.ok,h.rd.len,ad,cap,?_,h2,h3⟩⟩
  rw [Below.heap_setCell _ _ _ _ (by simpa using fun e=>hg e.symm)]
  exact h1
def ThrowC (w0:World) (x:Int) (g:Nat) (w:World) (e:Ending) (w':World):Prop:=e=.panicked [{ v:=.iface 32 (.int .i64 x),recovered:=false }]∧∃ l d n,StC w0 g l d n w w'
theorem ThrowC.on {w0:World} {x:Int} {g:Nat} {l:List Nat} {d n:Nat} {w w1 w':World} {e:Ending} (h:StC w0 g l d n w w1) (h2:ThrowC w0 x g w1 e w'):ThrowC w0 x g w e w':=by
  obtain ⟨he,l,d,n,hj⟩:=h2
  exact ⟨he,l,d,n,h.trans hj⟩
theorem ThrowC.mk {w0:World} {x:Int} {g:Nat} {l:List Nat} {d n:Nat} {w w':World} (h:StC w0 g l d n w w'):ThrowC w0 x g w (.panicked [{ v:=.iface 32 (.int .i64 x),recovered:=false }]) w':=⟨rfl,_,_,_,h⟩
def TakC {α:Type} (w0:World) (g d n:Nat) (val:α→Value) (r:(α × List Nat) ⊕ Int) (w:World) (e:Ending) (w':World):Prop:=match r with
  | .inl (x,l)=>e=.returned (val x)∧StC w0 g l d n w w'
  | .inr x=>ThrowC w0 x g w e w'
theorem TakC.yes {α:Type} {w0:World} {g d n:Nat} {val:α→Value} {r:(α × List Nat) ⊕ Int} {w:World} {e:Ending} {w':World} {x:α} {l:List Nat} (h:r=.inl (x,l)) (he:e=.returned (val x)) (hs:StC w0 g l d n w w'):TakC w0 g d n val r w e w':=by
  subst h;exact ⟨he,hs⟩
theorem TakC.no {α:Type} {w0:World} {g d n:Nat} {val:α→Value} {r:(α × List Nat) ⊕ Int} {w:World} {e:Ending} {w':World} {x:Int} (h:r=.inr x) (hs:ThrowC w0 x g w e w'):TakC w0 g d n val r w e w':=by
  subst h;exact hs
theorem TakC.on {α:Type} {w0:World} {g d n d0 n0:Nat} {l:List Nat} {val:α→Value} {r:(α × List Nat) ⊕ Int} {w w1:World} {e:Ending} {w':World} (h:StC w0 g l d0 n0 w w1) (h2:TakC w0 g d n val r w1 e w'):TakC w0 g d n val r w e w':=by
  unfold TakC at *
  cases r with
  | inr x=>exact ThrowC.on h h2
  | inl p=>exact ⟨h2.1,h.trans h2.2⟩
theorem rdv_left {w0:World} {ad:Option Addr} {l:List Nat} {cap:Nat} (h:RdV w0 ad (bc l)) (k:Nat) (hk:k≤l.length) (hc:l.length≤cap) :
    (cap=k→RdV w0 ad (bc (l.drop k)))∧(∀ b o,ad=some ⟨b,o,none⟩→RdV w0 (some ⟨b,o+k,none⟩) (bc (l.drop k))):=by
  refine ⟨fun e=>?_,fun b o e=>?_⟩
  · rw [List.drop_of_length_le (by omega)];exact RdV.nil _ _
  · subst e;rw [← bc_drop];exact h.drop k
def RefC (k G:Nat) (w:World) (e:Ending) (w':World):Prop:=Below w.heap.size w w'∧((k≤G∧e=.returned (.tuple #[]))∨(G<k∧e=.panicked [{ v:=.iface 32 (.int .i64 4),recovered:=false }]))

def strV (l:List Nat):Value:=.string (strB l)
theorem strB_size (l:List Nat):(strB l).size=l.length:=by simp [strB,ByteArray.size]
theorem strB_data (l:List Nat):(strB l).data.toList=l.map fun x=>UInt8.ofNat x:=by simp [strB]
theorem shp_end {ad:Option Addr} {cap:Nat} (h:Shp ad cap):Shp ad 0:=by
  rcases h with ⟨h,_⟩ | h
  · exact .inl ⟨h,rfl⟩
  · exact .inr h
end Go.Proofs.YtnacbakcalcgaaaGreatDoor
