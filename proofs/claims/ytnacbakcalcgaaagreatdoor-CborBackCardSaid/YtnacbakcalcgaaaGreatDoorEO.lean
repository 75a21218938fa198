/- Texts of the claim. -/
import Derived.Test.YtnacbakcalcgaaaGreatDoorEg
import Derived.Test.YtnacbakcalcgaaaGreatDoorEi
import Derived.Test.YtnacbakcalcgaaaGreatDoorEk
set_option linter.unusedVariables false
set_option linter.unusedSimpArgs false
set_option maxHeartbeats 4000000
set_option maxRecDepth 100000
namespace Go.Proofs.YtnacbakcalcgaaaGreatDoor
open Go.RowKit
theorem refNorm_any (ad:Option Addr) (n cap:Nat) (xs:List Nat) (w:World) (hn:xs.length=n) (hcap:n≤cap) (hm:n≤100000000) (ho:Okl xs) (hr:Rd w ad xs) :
    Calls Tryz.prog 60 #[.slice ad n cap] w (Gives (val xs) w):=by
  have hcl:=cutLen_le xs n
  have hcv:=cut_limbs ho
  rw [hn] at hcv
  have hr':=hr.take (cutLen xs n)
  have hlc:(xs.take (cutLen xs n)).length=cutLen xs n:=by rw [List.length_take];omega
  have hot:=ho.take (cutLen xs n)
  have HN:=Lib.hid hn;clear hn
  have HF:Hid (∀ v w1,Own w.heap.size w1 v ([]++xs.take (cutLen xs n))→Below w.heap.size w w1→Gives (val xs) w (.returned v) w1):=fun v w1 h1 h2=>⟨v,rfl,by rw [← hcv];simpa using h1,h2⟩
  clear hcv
  have HC:=Lib.hid (rfl:cutLen xs n=cutLen xs n)
  generalize hc0:cutLen xs n=c at *
  have HC0:=Lib.hid hc0;clear hc0 HC
  generalize hY:xs.take c=Y at *
  clear hY
  have HLC:=Lib.hid hlc;clear hlc
  go_enter Tryz.func60,Tryz.ntmps60
  go_wp2
  go_loop [3] (fun i=>∃ k:Nat,k≤n∧i=.int .i64 k∧cutLen xs k=c) (fun i=>(intOf i).toNat)
  case atStart=>exact ⟨n,Nat.le_refl _,rfl,HC0.out⟩
  case round =>
    obtain ⟨k,hk,rfl,he⟩:=hrel
    have HE:=Lib.hid he;clear he
    rcases k with _ | k
    · have h0:c=0:=by rw [← HE.out];rfl
      subst h0
      go_wp2_with (at_builtin;refine wpl_append_rd rfl _ _ rfl w.heap.size _ [] rfl (Own.nil _ _) _ _ _ Y rfl hot HLC.out hr' (by simp) (Nat.le_refl _) ?_;intro v' w' hv hb)
      go_ret
      exact HF.out _ _ hv hb
    · obtain ⟨b,o,hadd,_,hc⟩:=hr k (by rw [HN.out];omega)
      subst hadd
      generalize hx:xs.getD k 0=x at *
      have HX:=Lib.hid hx;clear hx
      by_cases hz:x=0
      · go_wp2
        go_round
        case rel=>exact ⟨k,by omega,rfl,by rw [← HE.out];simp only [cutLen];rw [if_pos (by rw [HX.out];exact hz)]⟩
        case measure=>simp [intOf]
      · have h0:c=k+1:=by rw [← HE.out];simp only [cutLen];rw [if_neg (by rw [HX.out];exact hz)]
        subst h0
        go_wp2_with (at_builtin;refine wpl_append_rd rfl _ _ rfl w.heap.size _ [] rfl (Own.nil _ _) _ _ _ Y rfl hot HLC.out hr' (by simp;omega) (Nat.le_refl _) ?_;intro v' w' hv hb)
        go_ret
        exact HF.out _ _ hv hb
theorem limb_any (ad:Option Addr) (n cap:Nat) (xs:List Nat) (i:Nat) (w:World) (hn:xs.length=n) (hcap:n≤cap) (hm:n≤1000000000) (hi:i≤1000000000) (ho:Okl xs) (hr:Rd w ad xs) :
    Calls Tryz.prog 59 #[.slice ad n cap,.int .i64 (i:Int)] w fun e w'=>e=.returned (.int .u64 ((xs.getD i 0:Nat):Int))∧w'=w:=by
  by_cases hin:i<n
  · obtain ⟨b,o,rfl,_,hc⟩:=hr i (by omega)
    have hin':(i:Int)<(n:Int):=by omega
    have hx:xs.getD i 0<4294967296:=ho.getD i
    generalize xs.getD i 0=x at *
    go_enter Tryz.func59,Tryz.ntmps59
    go_wp2
    go_ret
    exact ⟨rfl,rfl⟩
  · have hin':¬ ((i:Int)<(n:Int)):=by omega
    have hx:xs.getD i 0=0:=getD_out (by omega)
    rw [hx]
    go_enter Tryz.func59,Tryz.ntmps59
    go_wp2
    go_ret
    exact ⟨rfl,rfl⟩
def pad (xs:List Nat) (m:Nat):List Nat:=xs++List.replicate (m - xs.length) 0
theorem pad_len {xs:List Nat} {m:Nat} (h:xs.length≤m):(pad xs m).length=m:=by simp [pad];omega
theorem pad_ok {xs:List Nat} (h:Okl xs) (m:Nat):Okl (pad xs m):=h.append (Okl.replicate _)
theorem pad_val (xs:List Nat) (m:Nat):val (pad xs m)=val xs:=val_behind xs _
theorem pad_getD (xs:List Nat) (m i:Nat):(pad xs m).getD i 0=xs.getD i 0:=by
  unfold pad
  simp only [List.getD,List.getElem?_append,List.getElem?_replicate]
  by_cases h:i<xs.length
  · simp [h]
  · simp only [h,if_false]
    split <;> simp [List.getElem?_eq_none (by omega:xs.length≤i)]
theorem val_top_pad {xs ys:List Nat} (hx:Okl xs) (hy:Okl ys) {m:Nat} (h1:xs.length≤m) (h2:ys.length≤m) (j:Nat) (hj:j<m) (hs:∀ i,j+1≤i→xs.getD i 0=ys.getD i 0) (h:xs.getD j 0<ys.getD j 0):val xs<val ys:=by
  rw [← pad_val xs m,← pad_val ys m]
  exact val_top_lt (pad_ok hx m) (pad_ok hy m) (by rw [pad_len h1,pad_len h2]) j (by rw [pad_len h1];exact hj) (fun i hi=>by rw [pad_getD,pad_getD];exact hs i hi) (by rw [pad_getD,pad_getD];exact h)
theorem val_same_pad {xs ys:List Nat} {m:Nat} (h1:xs.length≤m) (h2:ys.length≤m) (hs:∀ i,0≤i→xs.getD i 0=ys.getD i 0):val xs=val ys:=by
  rw [← pad_val xs m,← pad_val ys m]
  exact congrArg val (list_eq_of_getD (xs:=pad xs m) (ys:=pad ys m) (by rw [pad_len h1,pad_len h2]) (fun i hi=>by rw [pad_getD,pad_getD];exact hs i hi))
theorem refCmp_any (ad:Option Addr) (n cap:Nat) (xs:List Nat) (ad':Option Addr) (n' cap':Nat) (ys:List Nat) (w:World) (hn:xs.length=n) (hcap:n≤cap) (hm:n≤100000000) (ho:Okl xs) (hr:Rd w ad xs)
    (hn':ys.length=n') (hcap':n'≤cap') (hm':n'≤100000000) (ho':Okl ys) (hr':Rd w ad' ys) :
    Calls Tryz.prog 61 #[.slice ad n cap,.slice ad' n' cap'] w (CmpPost (val xs) (val ys) w):=by
  have KA:=Lib.hid (fun (i:Nat) q (hi:i≤1000000000)=>limb_any ad n cap xs i (w.drewN q) hn hcap (by omega) hi ho (hr.drewN q))
  have KB:=Lib.hid (fun (i:Nat) q (hi:i≤1000000000)=>limb_any ad' n' cap' ys i (w.drewN q) hn' hcap' (by omega) hi ho' (hr'.drewN q))
  obtain ⟨m,hmm⟩:∃ m,m=max n n':=⟨_,rfl⟩
  have hl1:xs.length≤m:=by omega
  have hl2:ys.length≤m:=by omega
  have hm9:m≤100000000:=by omega
  have HV1:=Lib.hid (fun j hj hs=>val_top_pad ho ho' hl1 hl2 j hj hs)
  have HV2:=Lib.hid (fun j hj hs=>val_top_pad ho' ho hl2 hl1 j hj hs)
  have HV3:=Lib.hid (val_same_pad (xs:=xs) (ys:=ys) hl1 hl2)
  have HA:=Lib.hid ho
  have HB:=Lib.hid ho'
  have H1:=Lib.hid (fun j (h:m≤j)=>getD_out (xs:=xs) (j:=j) (by omega))
  have H2:=Lib.hid (fun j (h:m≤j)=>getD_out (xs:=ys) (j:=j) (by omega))
  have HM:=Lib.hid (show max (n:Int) (n':Int)=(m:Int) by omega)
  clear hn hn' ho ho' hr hr' hl1 hl2 hmm
  generalize val xs=a at *
  generalize val ys=b at *
  go_enter Tryz.func61,Tryz.ntmps61
  go_wp2_with fail
  rw [HM.out]
  go_loopw [5] (fun i wr=>CmpRel xs ys m w i wr) (fun i _=>(intOf i+1).toNat)
  case atStart=>exact ⟨m,0,Nat.le_refl _,rfl,fun j hj=>by rw [H1.out j hj,H2.out j hj],rfl⟩
  case round =>
    obtain ⟨k,q,hk,rfl,hs,rfl⟩:=hrel
    have HS:=Lib.hid hs;clear hs
    rcases k with _ | j
    · have hab:a=b:=HV3.out HS.out
      have H:=Lib.hid (show CmpPost a b w (.returned (.int .i64 0)) (w.drewN q) from ⟨by rw [hab,cmpN_eq],q,rfl⟩)
      clear hab
      rw [show (((0:Nat):Int) - 1) = -1 from rfl]
      go_wp2
      go_ret
      exact H.out
    · rw [show (((j+1:Nat):Int) - 1)=(j:Int) by omega]
      have hv1:=Lib.hid (HV1.out j (by omega) HS.out)
      have hv2:=Lib.hid (HV2.out j (by omega) (fun i hi=>(HS.out i hi).symm))
      have HJ:Hid (xs.getD j 0=ys.getD j 0→∀ i,j≤i→xs.getD i 0=ys.getD i 0):=fun h0 i hi=>by
        by_cases hij:i=j
        · subst hij;exact h0
        · exact HS.out i (by omega)
      have KA':=Lib.hid (fun q=>KA.out j q (by omega))
      have KB':=Lib.hid (fun q=>KB.out j q (by omega))
      clear KA KB HV1 HV2
      generalize xs.getD j 0=x at *
      generalize ys.getD j 0=y at *
      rcases Nat.lt_trichotomy x y with hxy | hxy | hxy
      · have hab:=hv1.out hxy
        have hxy':(x:Int)<(y:Int):=by omega
        have H:=Lib.hid (cmpN_lt hab)
        clear hab HJ
        go_wp2_with fail
        refine (KA'.out q).mono ?_
        rintro e w' ⟨rfl,rfl⟩
        go_wp2_with fail
        refine (KB'.out _).mono ?_
        rintro e w' ⟨rfl,rfl⟩
        go_wp2
        go_ret
        exact ⟨by rw [H.out];rfl,_,rfl⟩
      · subst hxy
        go_wp2_with fail
        refine (KA'.out q).mono ?_
        rintro e w' ⟨rfl,rfl⟩
        go_wp2_with fail
        refine (KB'.out _).mono ?_
        rintro e w' ⟨rfl,rfl⟩
        go_wp2_with fail
        refine (KA'.out q).mono ?_
        rintro e w' ⟨rfl,rfl⟩
        go_wp2_with fail
        refine (KB'.out _).mono ?_
        rintro e w' ⟨rfl,rfl⟩
        go_wp2
        go_roundw
        case rel=>exact ⟨j,_,by omega,by go_num,by first | exact HJ.out rfl | exact HJ.out trivial,rfl⟩
        case measure=>simp [intOf]
      · have hab:=hv2.out hxy
        have hxy':(y:Int)<(x:Int):=by omega
        have H:=Lib.hid (cmpN_gt hab)
        clear hab HJ
        go_wp2_with fail
        refine (KA'.out q).mono ?_
        rintro e w' ⟨rfl,rfl⟩
        go_wp2_with fail
        refine (KB'.out _).mono ?_
        rintro e w' ⟨rfl,rfl⟩
        go_wp2_with fail
        refine (KA'.out q).mono ?_
        rintro e w' ⟨rfl,rfl⟩
        go_wp2_with fail
        refine (KB'.out _).mono ?_
        rintro e w' ⟨rfl,rfl⟩
        go_wp2
        go_ret
        exact ⟨by rw [H.out];rfl,_,rfl⟩
def SMRel (g n:Nat) (xs:List Nat) (d:Nat) (w1:World) (c i:Value) (wr:World):Prop :=
  ∃ (k q:Nat) (zs:List Nat),k≤n∧i=.int .i64 ((k:Int) - 1)∧c=.int .u64 (q:Int)∧q<d∧zs.length=n∧Okl zs∧val (zs.drop k)*d+q=val (xs.drop k)∧wr=put g zs [] w1
def SmallPost (N d:Nat) (w:World) (e:Ending) (w':World):Prop :=
  ∃ v,e=.returned (.tuple #[v,.int .u32 ((N % d:Nat):Int)])∧Own w.heap.size w' v (limbs (N / d))∧Below w.heap.size w w'
theorem sm_step {g n d j q x:Nat} {xs zs:List Nat} {w1:World} (hl:zs.length=n) (hn:xs.length=n) (hj:j+1≤n) (hd:d<B32) (hd0:0<d) (hq:q<d) (hoz:Okl zs) (hx:xs.getD j 0=x) (hxb:x<B32)
    (he:val (zs.drop (j+1))*d+q=val (xs.drop (j+1))) (hb:Blk w1 g (List.replicate n 0) []) :
    SMRel g n xs d w1 (.int .u64 ((wd q x % d:Nat):Int)) (.int .i64 ((j:Int) - 1)) ((put g zs [] w1).setCell ⟨g,j,none⟩ (.int .u32 ((wd q x / d:Nat):Int))):=by
  have hql:wd q x / d<B32:=by
    rw [Nat.div_lt_iff_lt_mul hd0];unfold wd
    have:(q+1)*B32≤d*B32:=Nat.mul_le_mul_right _ hq
    rw [Nat.add_mul,Nat.one_mul] at this
    rw [Nat.mul_comm B32 d];omega
  have hml:wd q x % d<d:=Nat.mod_lt _ hd0
  rw [set_blk (put_blk _ _ hb.lt) _ _ (by omega),put_put]
  refine ⟨j,_,zs.set j (wd q x / d),by omega,rfl,rfl,hml,by rw [List.length_set];exact hl,hoz.set _ _ hql,?_,rfl⟩
  rw [val_drop_succ _ j (by rw [List.length_set];omega),val_drop_succ xs j (by omega),hx,List.drop_set_of_lt (by omega)]
  have e3:(zs.set j (wd q x / d)).getD j 0=wd q x / d:=by simp [List.getD,show j<zs.length by omega]
  rw [e3]
  exact sh_num he (Nat.div_add_mod _ _)
theorem refSmall_any (ad:Option Addr) (n cap:Nat) (xs:List Nat) (d:Nat) (w:World) (hn:xs.length=n) (hcap:n≤cap) (hm:n≤100000000) (ho:Okl xs) (hr:Rd w ad xs) (hd:d<B32) (hd0:0<d) :
    Calls Tryz.prog 99 #[.slice ad n cap,.int .u32 (d:Int)] w (SmallPost (val xs) d w):=by
  have HN:=Lib.hid hn;clear hn
  have hd':=hd
  rw [B32_eq] at hd'
  have hd0':¬ ((d:Int)=0):=by omega
  go_enter Tryz.func99,Tryz.ntmps99
  go_wp2_with (at_make;refine wpl_make _ rfl _ _ rfl _ _ _ _ n rfl rfl rfl rfl (by omega) ?_;intro w1 hB1 hb1)
  have hg1:=hr.apart (Nat.le_refl w.heap.size)
  have hr1:=hr.below hb1
  go_loopw [7,8] (fun c i wr=>SMRel w.heap.size n xs d w1 c i wr) (fun _ i _=>(intOf i+1).toNat)
  case atStart=>exact ⟨n,0,List.replicate n 0,Nat.le_refl _,by go_num,rfl,hd0,by simp,Okl.replicate n,by rw [List.drop_of_length_le (by simp),List.drop_of_length_le (by rw [HN.out];exact Nat.le_refl _)];simp [val],(put_same hB1).symm⟩
  case round =>
    obtain ⟨k,q,zs,hk,rfl,rfl,hq,hl,hoz,he,rfl⟩:=hrel
    have HL:=Lib.hid hl;clear hl
    have HE:=Lib.hid he;clear he
    have hbz:Blk (put w.heap.size zs [] w1) w.heap.size zs []:=put_blk _ _ hB1.lt
    rcases k with _ | j
    · have hv:=HE.out
      simp only [List.drop_zero] at hv
      have hdv:val xs / d=val zs:=by rw [← hv,Nat.mul_comm,Nat.mul_add_div hd0,Nat.div_eq_of_lt hq,Nat.add_zero]
      have hmd:val xs % d=q:=by rw [← hv,Nat.mul_comm,Nat.mul_add_mod,Nat.mod_eq_of_lt hq]
      have HD:=Lib.hid hdv;clear hdv
      have HM:=Lib.hid hmd;clear hmd hv
      have hbl:Below w.heap.size w (put w.heap.size zs [] w1):=put_below hb1 (Nat.le_refl _) _ _
      have KN:=Lib.hid (refNorm_any (some ⟨w.heap.size,0,none⟩) n n zs _ HL.out (Nat.le_refl _) hm hoz hbz.rd_all)
      have hq':q<4294967296:=by omega
      rw [show (((0:Nat):Int) - 1) = -1 from rfl]
      have HBL:=Lib.hid hbl;clear hbl
      generalize put w.heap.size zs [] w1=W at *
      go_wp2_with fail
      refine KN.out.mono ?_
      rintro e w' ⟨v,rfl,hv,hb'⟩
      go_wp2
      go_ret2
      exact ⟨v,by rw [HM.out];rfl,by rw [HD.out];exact hv.mono HBL.out.size,below_on HBL.out hb'⟩
    · rw [show (((j+1:Nat):Int) - 1)=(j:Int) by omega]
      obtain ⟨b,o,rfl,hblt,hc⟩:=(hr1.put (g:=w.heap.size) hg1 zs []) j (by rw [HN.out];omega)
      have hcz:=hbz.cell j (by rw [HL.out];omega)
      have hfz:=hbz.free j
      have hxb:=ho.getD j
      generalize hx:xs.getD j 0=x at *
      have R:=Lib.hid (sm_step (g:=w.heap.size) (w1:=w1) HL.out HN.out hk hd hd0 hq hoz hx hxb HE.out hB1)
      clear hx
      have hq':q<4294967296:=by omega
      have hwl:=wd_lt (Nat.lt_trans hq hd) hxb
      have hwd:(q:Int)*4294967296+(x:Int)=((wd q x:Nat):Int):=by unfold wd;rw [B32_eq];omega
      have hqb:wd q x / d<4294967296:=by
        have:wd q x / d<B32:=by
          rw [Nat.div_lt_iff_lt_mul hd0];unfold wd
          have:(q+1)*B32≤d*B32:=Nat.mul_le_mul_right _ hq
          rw [Nat.add_mul,Nat.one_mul] at this
          rw [Nat.mul_comm B32 d];omega
        rwa [B32_eq] at this
      rw [B32_eq] at hxb
      generalize wd q x=D at *
      have hml:D % d<4294967296:=by have:=Nat.mod_lt D hd0;omega
      go_wp2
      go_roundw
      case rel =>
        have e1:IntKind.u64.wrap ((D:Int) / (d:Int)) % 4294967296=((D / d:Nat):Int):=by
          rw [← Int.natCast_ediv]
          generalize D / d=Q at *
          rw [IntWalk.u64_in _ (by omega)];omega
        rw [e1];exact R.out
      case measure=>simp [intOf]
theorem chkB_ref {neg:Bool} {xs:List Nat} {e:Int} (h:xs.length ≠ 0) (h1:xs.length≤90) (h2:xs.getD (xs.length - 1) 0 ≠ 0) (h3:-1200≤e) (h4:e≤1200):chkB neg xs e=decide (val xs % 10 ≠ 0):=by
  rw [chkB_tens h h1 h2 h3 h4];simp
theorem refCheck_any (neg:Bool) (ad:Option Addr) (n cap:Nat) (xs:List Nat) (e:Int) (w:World) (hn:xs.length=n) (hcap:n≤cap) (hm:n≤100000000) (ho:Okl xs) (hr:Rd w ad xs) :
    Calls Tryz.prog 116 #[.agg #[.bool neg,.slice ad n cap,.int .i64 e]] w (BoolBelow (chkB neg xs e) w):=by
  have hbl:Below w.heap.size w (w.alloc (.cells #[.bool neg,.slice ad n cap,.int .i64 e] 25)):=(Below.refl _ _).alloc (Nat.le_refl _) _
  have HB:=Lib.hid hbl
  have KT:=Lib.hid (refSmall_any ad n cap xs 10 _ hn hcap hm ho (hr.below hbl) (by decide) (by decide))
  clear hbl
  by_cases h0:n=0
  · subst h0
    have hx:xs=[]:=List.eq_nil_of_length_eq_zero hn
    subst hx
    clear hr KT
    have HN:=Lib.hid hn;clear hn
    cases neg
    · have HC:=Lib.hid (chkB_nil (neg:=false) (e:=e))
      by_cases he:e=0
      · subst he
        go_enter Tryz.func116,Tryz.ntmps116
        go_wp2
        go_ret
        exact BoolBelow.mk (by rw [HC.out];rfl) HB.out
      · have he':(e == 0)=false:=by rw [beq_eq_false_iff_ne];exact he
        go_enter Tryz.func116,Tryz.ntmps116
        go_wp2
        go_ret
        exact BoolBelow.mk (by rw [HC.out];simp [he]) HB.out
    · have HC:=Lib.hid (chkB_nil (neg:=true) (e:=e))
      go_enter Tryz.func116,Tryz.ntmps116
      go_wp2
      go_ret
      exact BoolBelow.mk (by rw [HC.out];rfl) HB.out
  · have h0':xs.length ≠ 0:=by omega
    have hnb:((n:Int) == 0)=false:=by rw [beq_eq_false_iff_ne];omega
    by_cases h1:90<n
    · have HC:=Lib.hid (chkB_long (neg:=neg) (e:=e) (show 90<xs.length by omega))
      have h1':(90:Int)<(n:Int):=by omega
      have HN:=Lib.hid hn;clear hn h0'
      go_enter Tryz.func116,Tryz.ntmps116
      go_wp2
      go_ret
      exact BoolBelow.mk (by rw [HC.out]) HB.out
    · have h1':¬ (90:Int)<(n:Int):=by omega
      obtain ⟨b,o,rfl,hlt,hc⟩:=hr (n - 1) (by omega)
      have hoff:((n:Int) - 1).toNat=n - 1:=by omega
      have hc2:(w.alloc (.cells #[.bool neg,.slice (some ⟨b,o,none⟩) n cap,.int .i64 e] 25)).cell? ⟨b,o+(n - 1),none⟩=some (.int .u32 ((xs.getD (n - 1) 0:Nat):Int)):=by
        rw [HB.out.cell (p:=⟨b,o+(n - 1),none⟩) hlt];exact hc
      have hxb:xs.getD (n - 1) 0<4294967296:=ho.getD _
      by_cases h2:xs.getD (n - 1) 0=0
      · have HC:=Lib.hid (chkB_top (neg:=neg) (e:=e) h0' (by rw [hn];exact h2))
        rw [h2] at hc hc2
        have HN:=Lib.hid hn;clear hn h0' h2 hxb
        go_enter Tryz.func116,Tryz.ntmps116
        go_wp2
        go_ret
        exact BoolBelow.mk (by rw [HC.out]) HB.out
      · have h2':(((xs.getD (n - 1) 0:Nat):Int) == 0)=false:=by rw [beq_eq_false_iff_ne];omega
        by_cases h3:e < -1200∨1200<e
        · have HC:=Lib.hid (chkB_out (neg:=neg) (e:=e) h0' h3)
          have HN:=Lib.hid hn;clear hn h0' h2
          generalize xs.getD (n - 1) 0=x at *
          by_cases h4:e < -1200
          · clear h3
            go_enter Tryz.func116,Tryz.ntmps116
            go_wp2
            go_ret
            exact BoolBelow.mk (by rw [HC.out]) HB.out
          · have h5:1200<e:=by omega
            clear h3
            go_enter Tryz.func116,Tryz.ntmps116
            go_wp2
            go_ret
            exact BoolBelow.mk (by rw [HC.out]) HB.out
        · have h4:¬ e < -1200:=by omega
          have h5:¬ 1200<e:=by omega
          have HC:=Lib.hid (chkB_ref (neg:=neg) (e:=e) h0' (by omega) (by rw [hn];exact h2) (by omega) (by omega))
          have HN:=Lib.hid hn;clear hn h0' h2 h3
          generalize xs.getD (n - 1) 0=x at *
          have hml:val xs % 10<10:=Nat.mod_lt _ (by decide)
          generalize val xs=N at *
          go_enter Tryz.func116,Tryz.ntmps116
          go_wp2_with fail
          refine KT.out.mono ?_
          rintro r w' ⟨v,rfl,hv,hb⟩
          have HF:=Lib.hid (below_on HB.out hb)
          clear hb hv
          go_wp2
          go_ret
          refine BoolBelow.mk ?_ HF.out
          rw [HC.out]
          by_cases hq:N % 10=0
          · have hq2:(N:Int) % 10=0:=by omega
            simp [hq,hq2]
          · have hq2:¬ (N:Int) % 10=0:=by omega
            simp [hq,hq2]


end Go.Proofs.YtnacbakcalcgaaaGreatDoor
namespace Go.Proofs.YtnacbakcalcgaaaGreatDoor
open Go.RowKit Go.Sort
theorem is_yes (neg:Bool) (ad:Option Addr) (n cap:Nat) (xs:List Nat) (e:Int) (w:World) (hn:xs.length=n) (hcap:n≤cap) (hm:n≤100000000) (ho:Okl xs) (hr:Rd w ad xs) (h:chkB neg xs e=true) :
    Calls Tryz.prog 76 #[.agg #[.bool neg,.slice ad n cap,.int .i64 e]] w (NumBelow neg (.slice ad n cap) e w):=by
  have hbl:Below w.heap.size w ((w.alloc (.cells #[.bool neg,.slice ad n cap,.int .i64 e] 25)).alloc (.cells #[.bool false,.slice none 0 0,.int .i64 0] 25)):=((Below.refl _ _).alloc (Nat.le_refl _) _).alloc (by simp) _
  have HB:=Lib.hid hbl
  have K:=Lib.hid (refCheck_any neg ad n cap xs e _ hn hcap hm ho (hr.below hbl))
  clear hbl
  have H:=Lib.hid h;clear h
  have HN:=Lib.hid hn;clear hn
  go_enter Tryz.func76,Tryz.ntmps76
  go_wp2_with fail
  refine K.out.mono ?_
  rintro r w' ⟨rfl,hb⟩
  rw [H.out]
  obtain ⟨hc,hf⟩:=bcell hb
  have hz:w.heap.size+1<w'.heap.size:=by have:=hb.size;simp at this;omega
  have HB2:=Lib.hid hb;clear hb
  go_wp2
  have HB3:=HB.out.trans (HB2.out.mono (by simp;omega))
  exact bodyPost_ret (v:=.agg #[.bool neg,.slice ad n cap,.int .i64 e]) (by simp [results,Tryz.results76,go_sem,hc,hf,hz]) rfl ⟨rfl,((HB3.setCell (by simp) _).setCell (by simp) _).setCell (by simp) _⟩

end Go.Proofs.YtnacbakcalcgaaaGreatDoor
