/- Texts of the claim. -/
import Derived.Test.YticgggjfmhiilaaDoorLw
set_option linter.unusedVariables false
set_option linter.unusedSimpArgs false
set_option maxHeartbeats 8000000
set_option maxRecDepth 100000
namespace Go.Proofs.YticgggjfmhiilaaDoor
open Go.RowKit
theorem sameStrings_any (ad:Option Addr) (n cap:Nat) (l:List ByteArray) (ad':Option Addr) (cap':Nat) (w:World) (hl:l.length=n) (hc:n≤cap) (hc':n≤cap') (hm:n≤1000000000) (hr:RdV w ad (sv l)) (hr':RdV w ad' (sv l)) :
    Calls Tryd.prog 17 #[.slice ad n cap,.slice ad' n cap'] w fun e w'=>e=.returned (.bool true)∧∃ q,w'=w.drewN q:=by
  have HN:=Lib.hid hl;have HR:=Lib.hid hr;have HR':=Lib.hid hr'
  clear hl hr hr'
  have h0:((n:Int) != (n:Int))=false:=by simp
  go_enter Tryd.func17,Tryd.ntmps17
  go_wp2
  clear h0
  go_loopw [5] (fun i wr=>∃ k q:Nat,k≤n∧i=.int .i64 (k:Int)∧wr=w.drewN q) (fun i _=>n - (intOf i).toNat)
  case atStart=>exact ⟨0,0,Nat.zero_le _,rfl,rfl⟩
  case round =>
    obtain ⟨k,q,hk,rfl,hq⟩:=hrel
    by_cases hlt:k<n
    · have h1:(k:Int)<(n:Int):=by omega
      have h2:(0:Int)≤(k:Int):=by omega
      obtain ⟨b,o,rfl,_,hc1⟩:=HR.out k (by rw [sv_len,HN.out];exact hlt)
      obtain ⟨b',o',rfl,_,hc2⟩:=HR'.out k (by rw [sv_len,HN.out];exact hlt)
      rw [sv_get _ _ (by rw [HN.out];exact hlt)] at hc1 hc2
      generalize l.getD k ByteArray.empty=x at hc1 hc2
      have h3:(x.toList == x.toList)=true:=by simp
      subst hq
      go_wp2
      go_quiet (fail)
      go_wp2
      go_roundw
      case rel=>exact ⟨k+1,_,by omega,by go_num,rfl⟩
      case measure=>simp [intOf];omega
    · obtain rfl:k=n:=by omega
      have h1:¬ (k:Int)<(k:Int):=by omega
      subst hq
      go_wp2
      go_ret
      exact ⟨rfl,_,rfl⟩
theorem sameNumY_any (neg:Bool) (ad:Option Addr) (n cap:Nat) (xs:List Nat) (e:Int) (ad':Option Addr) (cap':Nat) (w:World) (hn:xs.length=n) (hcap:n≤cap) (hcap':n≤cap') (hm:n≤1000000000) (hr:Rd w ad xs) (hr':Rd w ad' xs) :
    Calls Tryd.prog 58 #[.agg #[.bool neg,.slice ad n cap,.int .i64 e],.agg #[.bool neg,.slice ad' n cap',.int .i64 e]] w (BoolBelow true w):=by
  have hbl:Below w.heap.size w ((w.alloc (.cells #[.bool neg,.slice ad n cap,.int .i64 e] 25)).alloc (.cells #[.bool neg,.slice ad' n cap',.int .i64 e] 25)):=((Below.refl _ _).alloc (Nat.le_refl _) _).alloc (by simp) _
  have HB:=Lib.hid hbl
  have K:=Lib.hid (same_any ad n cap xs ad' cap' _ hn hcap hcap' hm (hr.below hbl) (hr'.below hbl))
  clear hbl hn
  have ht:(neg == neg)=true:=by simp
  have hte:(e == e)=true:=by simp
  go_enter Tryd.func58,Tryd.ntmps58
  go_wp2_with fail
  refine K.out.mono ?_
  rintro r w' ⟨rfl,q,rfl⟩
  go_wp2
  go_ret
  exact BoolBelow.mk rfl (below_drewN HB.out q)
end Go.Proofs.YticgggjfmhiilaaDoor
namespace Go.Proofs.YticgggjfmhiilaaDoor
open Go.RowKit Go.Shelf
def LN2 (W0:World) (n k:Nat) (i:Value) (wr:World):Prop :=
  ∃ j:Nat,j≤n∧n - j≤k∧i=.int .i64 (j:Int)∧Below W0.heap.size W0 wr
end Go.Proofs.YticgggjfmhiilaaDoor
namespace Go.Proofs.YticgggjfmhiilaaDoor
open Go.RowKit Go.Shelf Go.Sort
theorem bare_parts {t u:MT} (h:t.bare=u.bare):t.c.bare=u.c.bare∧t.m=u.m∧t.k=u.k∧t.v.map MT.bare=u.v.map MT.bare:=by
  rw [MT.bare_eq,MT.bare_eq u] at h
  injection h with h1 h2 h3 h4
  exact ⟨h1,h2,h3,h4⟩
theorem sameTree_any (t:MT):∀ (u:MT) (w:World),t.bare=u.bare→Sml t→Rep w t→Rep w u→Calls Tryd.prog 29 #[t.c.val,u.c.val] w (BoolBelow true w):=by
  refine MT.ind (P:=fun t=>∀ (u:MT) (w:World),t.bare=u.bare→Sml t→Rep w t→Rep w u→Calls Tryd.prog 29 #[t.c.val,u.c.val] w (BoolBelow true w)) ?_ t
  intro t ih u w hb hS hR hU
  obtain ⟨e1,e2,e3,e4⟩:=bare_parts hb
  have own:=hR.own
  have ow2:=hU.own
  obtain ⟨hs1,hs2,hs3⟩:=hS t t.sub_refl
  obtain ⟨Wb,hWb⟩:∃ x,two2 w t.c u.c=x:=⟨_,rfl⟩
  have hb0:Below w.heap.size w Wb:=by rw [← hWb];exact ((Below.refl _ _).alloc (Nat.le_refl _) _).alloc (by simp) _
  have hsz:Wb.heap.size=w.heap.size+2:=by rw [← hWb];exact two2_size _ _ _
  have HB0:=Lib.hid (fun W (h:Below Wb.heap.size Wb W)=>hb0.trans (h.mono hb0.size))
  have HBX:=Lib.hid (fun W (h:Below Wb.heap.size Wb W)=>((by rw [← hWb] at h;exact ⟨(two2_box w t.c u.c).1.on (h.block _ (by rw [two2_size];omega)),(two2_box w t.c u.c).2.on (h.block _ (by rw [two2_size];omega))⟩):BoxT W w.heap.size t.c∧BoxT W (w.heap.size+1) u.c))
  have HV:=Lib.hid (fun W (h:Below w.heap.size w W)=>And.intro (own.vr.on h) (ow2.vr.on h))
  have HVL:=Lib.hid own.vn
  have HVL2:=Lib.hid ow2.vn
  have KI:=Lib.hid (fun (j:Nat) (hj:j<t.v.length) (hj2:j<u.v.length) (W:World) (h:Below w.heap.size w W)=>ih (t.v.getD j (leafT 0 false ⟨#[]⟩)) (by simp [List.getD,hj]) (u.v.getD j (leafT 0 false ⟨#[]⟩)) W (by
      have h1:=congrArg (fun l=>l[j]?) e4
      simp only [List.getElem?_map,List.getElem?_eq_getElem hj,List.getElem?_eq_getElem hj2,Option.map_some,Option.some.injEq] at h1
      simpa [List.getD,hj,hj2] using h1) (hS.part (by simp [List.getD,hj])) ((hR.part (by simp [List.getD,hj])).on h) ((hU.part (by simp [List.getD,hj2])).on h))
  have HKN:=Lib.hid (fun W (h:Below w.heap.size w W)=>sameNumY_any t.c.neg t.c.ma t.c.mn t.c.mc t.m t.c.e u.c.ma u.c.mc W own.mn own.mc (by have:=ow2.mc;have:=congrArg Cel.mn e1;simp [Cel.bare] at this;omega) (by omega) (own.mr.below h) (by rw [e2];exact ow2.mr.below h))
  have HKS:=Lib.hid (fun W (h:Below w.heap.size w W)=>sameStrings_any t.c.ka t.c.kn t.c.kc t.k u.c.ka u.c.kc W own.kn own.kc (by have:=ow2.kc;have:=congrArg Cel.kn e1;simp [Cel.bare] at this;omega) (by omega) (own.kr.on h) (by rw [e3];exact ow2.kr.on h))
  have HEND:=Lib.hid (show ∀ W,Below Wb.heap.size Wb W→BoolBelow true w (.returned (.bool true)) W from fun W h=>BoolBelow.mk rfl (HB0.out W h))
  have HWB:=Lib.hid (show Below Wb.heap.size Wb (two2 w t.c u.c) by rw [hWb];exact Below.refl _ _)
  have HZ:=Lib.hid hsz
  have hvc:=own.vc
  have hvc2:=ow2.vc
  clear hb0 hsz own ow2 hR hU hS ih hWb e2 e3 e4 hb hs1 hs2
  generalize t.k=names at *
  generalize t.v=vals at *
  generalize u.v=vals2 at *
  generalize t.m=limbs at *
  generalize t.c=c at *
  generalize u.c=d at *
  obtain ⟨k,b,neg,ma,mn,mc,e,st,ka,kn,kc,va,vn,vc⟩:=c
  obtain ⟨k',b',neg',ma',mn',mc',e',st',ka',kn',kc',va',vn',vc'⟩:=d
  simp only [Cel.bare,Cel.mk.injEq,true_and,and_true] at e1
  obtain ⟨rfl,rfl,rfl,rfl,rfl,rfl,rfl,rfl⟩:=e1
  unfold Cel.val
  unfold two2 Cel.cells at HWB
  simp only at HWB HKN HKS hvc hvc2 HVL HVL2 HV hs3
  go_enter Tryd.func29,Tryd.ntmps29
  go_wp2_with fail
  refine (HKN.out _ (HB0.out _ HWB.out)).mono ?_
  rintro r w1 ⟨rfl,hb1⟩
  have HB1:=Lib.hid (below_on HWB.out hb1)
  clear hb1
  obtain ⟨⟨c0,c1,c2,c3,c4,c5,c6,c7⟩,⟨d0,d1,d2,d3,d4,d5,d6,d7⟩⟩:=And.intro (HBX.out _ HB1.out).1.cells (HBX.out _ HB1.out).2.cells
  simp only at c0 c1 c2 c3 c4 c5 c6 c7 d0 d1 d2 d3 d4 d5 d6 d7
  have hst:(st.toList == st.toList)=true:=by simp
  go_wp2_with fail
  refine (HKS.out _ (HB0.out _ HB1.out)).mono ?_
  rintro r w2 ⟨rfl,q,rfl⟩
  have HB2:=Lib.hid (below_drewN HB1.out q)
  go_wp2_with fail
  clear c0 c1 c2 c3 c4 c5 c6 c7 d0 d1 d2 d3 d4 d5 d6 d7 hst
  generalize World.drewN _ q=w3 at HB2 ⊢
  go_loopg [5] vn (fun k i wr=>LN2 Wb vn k i wr)
  case atStart=>exact ⟨0,Nat.zero_le _,by omega,rfl,HB2.out⟩
  case round =>
    obtain ⟨j,hj,hk,rfl,hb⟩:=hrel
    have HB:=Lib.hid hb
    obtain ⟨⟨c0,c1,c2,c3,c4,c5,c6,c7⟩,⟨d0,d1,d2,d3,d4,d5,d6,d7⟩⟩:=And.intro (HBX.out _ hb).1.cells (HBX.out _ hb).2.cells
    simp only at c0 c1 c2 c3 c4 c5 c6 c7 d0 d1 d2 d3 d4 d5 d6 d7
    clear c0 c1 c2 c3 c4 c5 c6 d0 d1 d2 d3 d4 d5 d6 hb
    by_cases hlt:j<vn
    · obtain ⟨g,rfl⟩:∃ k,gk=k+1:=⟨gk - 1,by omega⟩
      have hjz:(j:Int)<(vn:Int):=by omega
      have hj0:(0:Int)≤(j:Int):=by omega
      have hjl:j<vals.length:=by rw [HVL.out];exact hlt
      have hjl2:j<vals2.length:=by rw [HVL2.out];exact hlt
      obtain ⟨hrd,hrd2⟩:=HV.out wr (HB0.out _ HB.out)
      obtain ⟨xbk,xo,rfl,_⟩:=hrd.shape (by rw [flat_len,List.length_map];omega)
      obtain ⟨ybk,yo,rfl,_⟩:=hrd2.shape (by rw [flat_len,List.length_map];omega)
      obtain ⟨x0,x1,x2,x3,x4,x5,x6,x7⟩:=flat_at hrd j (by rw [List.length_map];omega) (c:=(vals.getD j (leafT 0 false ⟨#[]⟩)).c) (getD_mapc hjl _)
      obtain ⟨y0,y1,y2,y3,y4,y5,y6,y7⟩:=flat_at hrd2 j (by rw [List.length_map];omega) (c:=(vals2.getD j (leafT 0 false ⟨#[]⟩)).c) (getD_mapc hjl2 _)
      have K:=KI.out j hjl hjl2
      clear hrd hrd2
      generalize (vals.getD j (leafT 0 false ⟨#[]⟩)).c=xc at *
      generalize (vals2.getD j (leafT 0 false ⟨#[]⟩)).c=yc at *
      obtain ⟨xk,xb,xneg,xma,xmn,xmc,xe,xs,xka,xkn,xkc,xva,xvn,xvc⟩:=xc
      obtain ⟨yk,yb,yneg,yma,ymn,ymc,ye,ys,yka,ykn,ykc,yva,yvn,yvc⟩:=yc
      unfold Cel.val at K
      simp only at K x0 x1 x2 x3 x4 x5 x6 x7 y0 y1 y2 y3 y4 y5 y6 y7
      have CD:=fun d os=>(K (grow (redrawn wr d) os) ((HB0.out _ HB.out).trans ((below_regrown wr d os).mono (HB0.out _ HB.out).size))).regrown_of
      have k7:=cell_regrown c7
      have l7:=cell_regrown d7
      have kx0:=cell_regrown x0
      have kx1:=cell_regrown x1
      have kx2:=cell_regrown x2
      have kx3:=cell_regrown x3
      have kx4:=cell_regrown x4
      have kx5:=cell_regrown x5
      have kx6:=cell_regrown x6
      have kx7:=cell_regrown x7
      have ky0:=cell_regrown y0
      have ky1:=cell_regrown y1
      have ky2:=cell_regrown y2
      have ky3:=cell_regrown y3
      have ky4:=cell_regrown y4
      have ky5:=cell_regrown y5
      have ky6:=cell_regrown y6
      have ky7:=cell_regrown y7
      have HN:=Lib.hid (fun (W:World) (h:Below wr.heap.size wr W)=>(⟨j+1,by omega,by omega,rfl,HB.out.trans (h.mono HB.out.size)⟩:LN2 Wb vn g (.int .i64 ((j:Int)+1)) W))
      clear K
      go_wp2_with fail
      refine wp_region_quiet_below (by kernel_rfl) (by kernel_rfl) ?_
      repeat (quiet_step (with_reducible exact CD _ _))
      refine wpQuiet_nil ?_
      intro _ hw'
      obtain ⟨⟨dq,osq⟩,hw''⟩:=hw'
      subst hw''
      have HF:=Lib.hid (HN.out _ (below_regrown wr dq osq))
      generalize grow (redrawn wr dq) osq=wn at HF ⊢
      clear CD k7 l7 kx0 kx1 kx2 kx3 kx4 kx5 kx6 kx7 ky0 ky1 ky2 ky3 ky4 ky5 ky6 ky7
      go_wp2_with fail
      go_roundg g
      case rel=>exact HF.out
      case measure=>omega
    · have hjz:¬ (j:Int)<(vn:Int):=by omega
      go_wp2
      go_ret
      exact HEND.out _ HB.out
end Go.Proofs.YticgggjfmhiilaaDoor
namespace Go.Proofs.YticgggjfmhiilaaDoor
open Go.RowKit Go.Shelf
def LightF (t:MT) (n:Int) (w:World) (e:Ending) (w':World):Prop:=∃ b:Bool,e=.returned (.bool b)∧(b=true→LgB t∧(t.nodes:Int)≤n)∧Below w.heap.size w w'
theorem lightF_any (t:MT) (n:Int) (w:World) (h0:0≤n) (h1:n≤1000) (hR:Rep w t) :
    Calls Tryd.prog 11 #[t.c.val,.int .i64 n] w (LightF t n w):=by
  obtain ⟨Wb,hWb⟩:∃ x,w.alloc (.cells t.c.cells.toArray 28)=x:=⟨_,rfl⟩
  have hb0:Below w.heap.size w Wb:=by rw [← hWb];exact (Below.refl _ _).alloc (Nat.le_refl _) _
  have K:=Lib.hid (light4_any t n Wb h0 h1 (hR.on hb0))
  have HB0:=Lib.hid hb0
  have hwb:=hWb
  have HFN:=Lib.hid (fun (b:Bool) W (h:b=true→LgB t∧(t.nodes:Int)≤n) (h2:Below w.heap.size w W)=>(show LightF t n w (.returned (.bool b)) W from ⟨b,rfl,h,h2⟩))
  obtain ⟨P,hP⟩:∃ P:Prop,P=LightF t n w (.returned (.bool true)) w:=⟨_,rfl⟩
  clear hR hb0 hWb hP P
  unfold LightP4 at K
  obtain ⟨ST,hST⟩:∃ p:Int→Prop,(fun z=>LgB t∧z+(t.nodes:Int)≤n)=p:=⟨_,rfl⟩
  have hST2:∀ z:Int,(LgB t∧z+(t.nodes:Int)≤n)=ST z:=fun z=>by rw [← hST]
  have HSN:=Lib.hid (fun (z:Int) (h:0≤z) (h2:ST z)=>(show LgB t∧(t.nodes:Int)≤n by rw [← hST2] at h2;exact ⟨h2.1,by have:=h2.2;omega⟩))
  simp only [hST2] at K
  clear hST hST2
  generalize t.c=c at *
  obtain ⟨k,bo,neg,ma,mn,mc,e,st,ka,kn,kc,va,vn,vc⟩:=c
  unfold Cel.val at K ⊢
  unfold Cel.cells at hwb
  simp only at hwb
  have HWB:=Lib.hid hwb
  clear hwb
  go_enter Tryd.func11,Tryd.ntmps11
  go_wp2_with fail
  rw [HWB.out]
  refine K.out.mono ?_
  rintro r w2 ⟨z,rfl,h2,h3,hz,h4⟩
  have H4:=Lib.hid (HB0.out.trans (h4.mono HB0.out.size))
  have HZ:=Lib.hid hz
  clear h4 hz
  have HE:=Lib.hid (HFN.out (decide (0≤z)) _ (fun h=>HSN.out z (of_decide_eq_true h) (HZ.out (of_decide_eq_true h))) H4.out)
  clear h2 h3
  go_wp2
  go_ret
  exact HE.out
def pN (l:List UInt8):List ByteArray × Int:=match parsePt l with | .inr x=>([],x) | .inl p=>(p.map mkB,0)
def ParC (l:List UInt8) (w:World) (e:Ending) (w':World):Prop :=
  ∃ pad pcap,e=.returned (.tuple #[.slice pad (pN l).1.length pcap,.int .i64 (pN l).2])∧(pN l).1.length≤pcap∧(pN l).1.length≤64∧RdV w' pad (sv (pN l).1)∧Below w.heap.size w w'
theorem parseA_cel {l:List UInt8} {w w':World} {e:Ending} (h:ParseA l w e w'):ParC l w e w':=by
  rcases h with ⟨x,h1,rfl,h2⟩ | ⟨p,ad,cap,h1,rfl,h2,h3,h4,h5⟩
  · have e1:pN l=([],x):=by unfold pN;rw [h1]
    refine ⟨none,0,by rw [e1];rfl,by rw [e1];exact Nat.le_refl _,by rw [e1];exact Nat.zero_le _,by rw [e1];exact RdV.nil _ _,h2⟩
  · have e1:pN l=(p.map mkB,0):=by unfold pN;rw [h1]
    refine ⟨ad,cap,by rw [e1,List.length_map],by rw [e1,List.length_map];exact h2,by rw [e1,List.length_map];exact h4,by rw [e1];exact h3,h5⟩
def StrC (l:List ByteArray) (n:Nat) (w:World) (e:Ending) (w':World):Prop:=∃ ad cap,e=.returned (.slice ad n cap)∧n≤cap∧RdV w' ad (sv l)∧Below w.heap.size w w'
theorem strings_cel (ad:Option Addr) (n cap:Nat) (l:List ByteArray) (w:World) (hl:l.length=n) (hn:n≤1000000000) (hr:RdV w ad (sv l)) :
    Calls Tryd.prog 19 #[.slice ad n cap] w (StrC l n w):=by
  refine (strings_any ad n cap l w hl hn hr).mono ?_
  rintro e w' ⟨v,rfl,ho,hb⟩
  obtain ⟨a,c,rfl,h1,h2,_⟩:=own_viewN ho
  rw [sv_len,hl] at h1 ⊢
  exact ⟨a,c,rfl,h1,h2,hb⟩
theorem getM_bare:∀ (l:List ByteArray) (t:MT),getM t.bare l=(getM t l).map MT.bare:=by
  intro l
  induction l with
  | nil=>intro t;rfl
  | cons s l ih =>
    intro t
    rw [getM,getM]
    unfold stepM
    rw [place_bare]
    cases hp:placeM t s with
    | none=>rfl
    | some j =>
      simp only [Option.map_some]
      show getM (t.bare.v.getD j lfT) l=(getM (t.v.getD j lfT) l).map MT.bare
      rw [bare_v,getD_bare]
      exact ih _
def gB (t:MT) (l:List ByteArray):MT:=(getM t.bare l).getD lfT
def gY (t:MT) (l:List ByteArray):Bool:=(getM t.bare l).isSome
def GetC (t:MT) (l:List ByteArray) (w:World) (e:Ending) (w':World):Prop :=
  ∃ x:MT,e=.returned (.tuple #[x.c.val,.bool (gY t l)])∧x.bare=gB t l∧Rep w' x∧Sml x∧Below w.heap.size w w'
theorem sml_leaf:Sml lfT:=fun s hs=>by
  rcases MT.sub_cases hs with rfl | ⟨u,hu,_⟩
  · exact ⟨Nat.zero_le _,Nat.zero_le _,Nat.zero_le _⟩
  · cases hu
theorem getP_cel {t:MT} {l:List ByteArray} {w w':World} {e:Ending} (hR:Rep w t) (hS:Sml t) (h:GetP t l w e w'):GetC t l w e w':=by
  obtain ⟨h1,h2⟩:=h
  rcases h1 with ⟨u,h3,rfl⟩ | ⟨h3,rfl⟩
  · refine ⟨u,?_,?_,(getM_rep _ hR h3).on h2,getM_sml _ hR hS h3,h2⟩
    · unfold gY;rw [getM_bare,h3];rfl
    · unfold gB;rw [getM_bare,h3];rfl
  · refine ⟨lfT,?_,?_,leafT_rep _ _ _ _ (by decide) (by decide),sml_leaf,h2⟩
    · unfold gY;rw [getM_bare,h3];rfl
    · unfold gB;rw [getM_bare,h3];exact bare_leaf
def pB (t:MT) (l:List ByteArray) (v:MT):MT:=(putF t.bare l v.bare).getD lfT
def pY (t:MT) (l:List ByteArray) (v:MT):Bool:=(putF t.bare l v.bare).isSome
def PutC (X:Nat→Prop) (t:MT) (l:List ByteArray) (v:MT) (w:World) (e:Ending) (w':World):Prop :=
  ∃ x:MT,e=.returned (.tuple #[x.c.val,.bool (pY t l v)])∧x.bare=pB t l v∧Ind X w' (fun W=>Rep W x)∧Below w.heap.size w w'
theorem putQ_some:∀ (l:List ByteArray) (t v u:MT),PutQ t l v u→putF t.bare l v.bare=some u.bare:=by
  intro l
  induction l with
  | nil=>intro t v u h;rw [PutQ] at h;rw [putF,h]
  | cons s l ih =>
    intro t v u h
    obtain ⟨j,y,h1,h2,h3⟩:=h
    rw [putF,place_bare,h1]
    simp only [Option.bind_some]
    rw [bare_v,getD_bare,ih _ v y h2,h3,setV_bare,bare_c,bare_m,bare_k]
    rfl
theorem putP_cel {X:Nat→Prop} {t v:MT} {l:List ByteArray} {w w':World} {e:Ending} (h:PutP X t l v w e w'):PutC X t l v w e w':=by
  obtain ⟨h1,h2⟩:=h
  rcases h1 with ⟨h3,rfl⟩ | ⟨u,h3,rfl,h4⟩
  · have e1:=putF_none l t v h3
    exact ⟨lfT,by unfold pY;rw [e1];rfl,by unfold pB;rw [e1];exact bare_leaf,fun W _ _=>leafT_rep _ _ _ _ (by decide) (by decide),h2⟩
  · have e1:=putF_some l t v u h3
    exact ⟨u,by unfold pY;rw [e1];rfl,by unfold pB;rw [e1];rfl,h4,h2⟩
theorem rPutP_cel {X:Nat→Prop} {t v:MT} {l:List ByteArray} {w w':World} {e:Ending} (h:RPutP X t l v w e w'):PutC X t l v w e w':=by
  obtain ⟨h1,h2⟩:=h
  rcases h1 with ⟨h3,rfl⟩ | ⟨u,h3,rfl,h4⟩
  · have e1:=putF_none l t v h3
    exact ⟨lfT,by unfold pY;rw [e1];rfl,by unfold pB;rw [e1];exact bare_leaf,fun W _ _=>leafT_rep _ _ _ _ (by decide) (by decide),h2⟩
  · have e1:=putQ_some l t v u h3
    exact ⟨u,by unfold pY;rw [e1];rfl,by unfold pB;rw [e1];rfl,h4,h2⟩
theorem smlP_bare (t:MT):∀ u:MT,t.bare=u.bare→Sml t→Sml u:=by
  refine MT.ind (P:=fun t=>∀ u:MT,t.bare=u.bare→Sml t→Sml u) ?_ t
  intro t ih u h hS s hs
  obtain ⟨e1,e2,e3,e4⟩:=bare_parts h
  rcases MT.sub_cases hs with rfl | ⟨y,hy,hsy⟩
  · obtain ⟨a1,a2,a3⟩:=hS t t.sub_refl
    have b1:=congrArg Cel.mn e1
    have b2:=congrArg Cel.kn e1
    have b3:=congrArg Cel.vn e1
    simp only [Cel.bare] at b1 b2 b3
    exact ⟨by omega,by omega,by omega⟩
  · have hm:y.bare∈u.v.map MT.bare:=List.mem_map_of_mem hy
    rw [← e4] at hm
    obtain ⟨x,hx,hxy⟩:=List.mem_map.1 hm
    exact ih x hx y hxy (hS.part hx) s hsy
theorem smlF:∀ (l:List ByteArray) (t v u:MT),putF t l v=some u→Sml t→Sml v→Sml u:=by
  intro l
  induction l with
  | nil=>intro t v u h _ hv;rw [putF] at h;cases h;exact hv
  | cons s l ih =>
    intro t v u h ht hv
    rw [putF] at h
    cases hp:placeM t s with
    | none=>rw [hp] at h;cases h
    | some j =>
      rw [hp] at h
      simp only [Option.bind_some] at h
      cases hq:putF (t.v.getD j lfT) l v with
      | none=>rw [hq] at h;cases h
      | some y =>
        rw [hq] at h
        simp only [Option.map_some,Option.some.injEq] at h
        subst h
        have hy:=ih _ v y hq (by
          by_cases hj:j<t.v.length
          · exact ht.part (by simp [List.getD,hj])
          · have:t.v.getD j lfT=lfT:=by simp [List.getD,List.getElem?_eq_none (Nat.le_of_not_lt hj)]
            rw [this];exact sml_leaf) hv
        intro z hz
        rcases MT.sub_cases hz with rfl | ⟨x,hx,hxz⟩
        · exact ht t t.sub_refl
        · rcases List.mem_or_eq_of_mem_set hx with h1 | rfl
          · exact ht.part h1 z hxz
          · exact hy z hxz
theorem pB_sml {t v:MT} {l:List ByteArray} {x:MT} (h:x.bare=pB t l v) (ht:Sml t) (hv:Sml v):Sml x:=by
  have h2:Sml (pB t l v):=by
    unfold pB
    cases hq:putF t.bare l v.bare with
    | none=>exact sml_leaf
    | some y=>exact smlF l _ _ y hq (smlP_bare t t.bare (bare_bare t).symm ht) (smlP_bare v v.bare (bare_bare v).symm hv)
  have h3:(pB t l v).bare=pB t l v:=by rw [← h];exact bare_bare x
  exact smlP_bare (pB t l v) x (by rw [h3,h]) h2
theorem ind_pick {WA W:World} {sA bx:Nat} {P:World→Prop} (h:Ind (fun k=>k<sA) WA P) (hb:Below WA.heap.size WA W) (ho:bx<sA∨WA.heap.size≤bx):Ind (fun k=>k=bx) W P :=
  h.to hb.size (fun k hk _=>hb.block k hk) (fun k hk e=>by
    have e2:k=bx:=e
    show k<sA
    omega) (fun _ h=>h)
theorem ind_none {X:Nat→Prop} {WA W:World} {P:World→Prop} (h:Ind X WA P) (hb:Below WA.heap.size WA W):Ind (fun _=>False) W P :=
  h.to hb.size (fun k hk _=>hb.block k hk) (fun k hk e=>e.elim) (fun _ h=>h)
theorem refStarts_any (ad:Option Addr) (n cap:Nat) (l:List ByteArray) (ad':Option Addr) (n' cap':Nat) (l':List ByteArray) (w:World) (hl:l.length=n) (hl':l'.length=n') (hcap:n≤cap) (hcap':n'≤cap') (hm:n≤1000000000) (hm':n'≤1000000000) (hr:RdV w ad (sv l)) (hr':RdV w ad' (sv l')) :
    Calls Tryd.prog 22 #[.slice ad n cap,.slice ad' n' cap'] w fun e w'=>e=.returned (.bool (startsB l l'))∧∃ q,w'=w.drewN q:=by
  by_cases hn:n≤n'
  case neg =>
    have hnz:(n':Int)<(n:Int):=by omega
    have HF:=Lib.hid (show startsB l l'=false from decide_eq_false (by omega))
    clear hr hr' hl hl'
    go_enter Tryd.func22,Tryd.ntmps22
    go_wp2_with fail
    go_ret
    exact ⟨by rw [HF.out];rfl,0,rfl⟩
  have hnz:¬ (n':Int)<(n:Int):=by omega
  have HN:=Lib.hid hl;have HN':=Lib.hid hl';have HR:=Lib.hid hr;have HR':=Lib.hid hr'
  clear hl hl' hr hr'
  go_enter Tryd.func22,Tryd.ntmps22
  go_wp2_with fail
  go_loopw [5] (fun i wr=>∃ k q:Nat,k≤n∧i=.int .i64 (k:Int)∧l.take k=l'.take k∧wr=w.drewN q) (fun i _=>n - (intOf i).toNat)
  case atStart=>exact ⟨0,0,Nat.zero_le _,rfl,by simp,rfl⟩
  case round =>
    obtain ⟨k,q,hk,rfl,he,hq⟩:=hrel
    by_cases hlt:k<n
    · have h1:(k:Int)<(n:Int):=by omega
      have h1':(k:Int)<(n':Int):=by omega
      have h2:(0:Int)≤(k:Int):=by omega
      have hkl:k<l.length:=by rw [HN.out];exact hlt
      have hkl':k<l'.length:=by rw [HN'.out];omega
      obtain ⟨b,o,rfl,_,hc1⟩:=HR.out k (by rw [sv_len];exact hkl)
      obtain ⟨b',o',rfl,_,hc2⟩:=HR'.out k (by rw [sv_len];exact hkl')
      rw [sv_get _ _ hkl] at hc1
      rw [sv_get _ _ hkl'] at hc2
      have HX:=Lib.hid (fun (h:l.getD k ByteArray.empty=l'.getD k ByteArray.empty)=>(show l.take (k+1)=l'.take (k+1) by
        rw [List.take_add_one,List.take_add_one,he]
        simp [List.getD,hkl,hkl'] at h
        simp [hkl,hkl',h]))
      have HY:=Lib.hid (fun (h:l.getD k ByteArray.empty ≠ l'.getD k ByteArray.empty)=>(show startsB l l'=false from by
        refine decide_eq_false ?_
        rintro ⟨h3,h4⟩
        refine h ?_
        have h5:l.getD k ByteArray.empty=(l'.take l.length).getD k ByteArray.empty:=by rw [← h4]
        rw [h5]
        simp [List.getD,hkl]))
      clear he
      generalize l.getD k ByteArray.empty=x at *
      generalize l'.getD k ByteArray.empty=y at *
      subst hq
      by_cases hxy:x=y
      · have h3:(x.toList == y.toList)=true:=(Lib.bytes_beq_iff _ _).2 hxy
        have h4:(x.toList != y.toList)=false:=by rw [bne,h3];rfl
        have HT:=Lib.hid (HX.out hxy)
        clear hxy
        go_wp2
        go_quiet (fail)
        go_wp2
        go_roundw
        case rel=>exact ⟨k+1,_,by omega,by go_num,HT.out,rfl⟩
        case measure=>simp [intOf];omega
      · have h3:(x.toList == y.toList)=false:=(Lib.bytes_beq_false_iff _ _).2 hxy
        have h4:(x.toList != y.toList)=true:=by rw [bne,h3];rfl
        have HF:=Lib.hid (HY.out hxy)
        clear hxy
        go_wp2
        go_quiet (fail)
        go_wp2
        go_ret
        exact ⟨by rw [HF.out];rfl,_,World.drewN_drewN _ _ _⟩
    · obtain rfl:k=n:=by omega
      have h1:¬ (k:Int)<(k:Int):=by omega
      have HT:=Lib.hid (show startsB l l'=true from decide_eq_true (by
        have h1:=HN.out
        have h2:=HN'.out
        refine ⟨by omega,?_⟩
        rw [h1,← he,← h1,List.take_length]))
      clear he
      subst hq
      go_wp2
      go_ret
      exact ⟨by rw [HT.out];rfl,_,rfl⟩
theorem mkB_snoc (l:List UInt8) (s:ByteArray):mkB l++s=mkB (l++s.data.toList):=by
  apply ByteArray.ext
  simp [mkB]
theorem esc_snoc (x:ByteArray) (k:Nat) (h:k<x.size):escPt (x.data.toList.take (k+1))=escPt (x.data.toList.take k)++(if x[k]'h=126 then [126,48] else if x[k]'h=47 then [126,49] else [x[k]'h]):=by
  have e:x.data.toList.take (k+1)=x.data.toList.take k++[x[k]'h]:=by
    have hs:k<x.data.size:=h
    rw [List.take_add_one]
    have h1:x.data.toList[k]? = some (x[k]'h):=by rw [Array.getElem?_toList,Array.getElem?_eq_getElem hs];simp [ByteArray.getElem_eq_getElem_data]
    rw [h1];rfl
  rw [e]
  unfold escPt
  rw [List.flatMap_append]
  simp
theorem cut_one (x:ByteArray) (k:Nat) (h:k<x.size):(x.extract k (k+1)).data.toList=[x[k]'h]:=by
  have hs:k<x.data.size:=h
  rw [ByteArray.data_extract,Array.toList_extract,List.extract_eq_take_drop]
  simp [ByteArray.getElem_eq_getElem_data]
  rw [List.drop_eq_getElem_cons (by simpa using hs)]
  simp
def TxO (l:List ByteArray) (n g:Nat) (s i:Value) (W wr:World):Prop :=
  ∃ j:Nat,j≤n∧n - j≤g∧s=.string (mkB (txtPt (ldat (l.take j))))∧i=.int .i64 (j:Int)∧wr=W
def TxN (L:List UInt8) (x:ByteArray) (g:Nat) (s i:Value) (W wr:World):Prop :=
  ∃ k:Nat,k≤x.size∧x.size - k≤g∧s=.string (mkB (L++escPt (x.data.toList.take k)))∧i=.int .i64 (k:Int)∧wr=W
theorem refText_any (ad:Option Addr) (n cap:Nat) (l:List ByteArray) (w:World) (hl:l.length=n) (hcap:n≤cap) (hn:n≤1000) (hs:∀ x∈l,x.size≤1000000) (hr:RdV w ad (sv l)) :
    Calls Tryd.prog 20 #[.slice ad n cap] w fun e w'=>e=.returned (.string (mkB (txtPt (ldat l))))∧w'=w:=by
  have HLEN:=Lib.hid (fun (j:Nat)=>(by
    have h1:=textP_len (ldat (l.take j)) 1000000 (fun t ht=>by
      unfold ldat at ht
      obtain ⟨x,hx,rfl⟩:=List.mem_map.1 ht
      have:=hs x (List.mem_of_mem_take hx)
      rw [← Lib.size_eq];exact this)
    have h2:(ldat (l.take j)).length≤1000:=by simp [ldat];omega
    have h3:=Nat.mul_le_mul_right (1+2*1000000) h2
    omega:(txtPt (ldat (l.take j))).length≤3000000000))
  have HN:=Lib.hid hl;have HR:=Lib.hid hr;have HS:=Lib.hid hs
  clear hl hr hs
  go_enter Tryd.func20,Tryd.ntmps20
  go_wp2_with fail
  go_loopg [3,4] n (fun g s i wr=>TxO l n g s i w wr)
  case atStart=>exact ⟨0,by omega,by omega,rfl,rfl,rfl⟩
  case round =>
    obtain ⟨j,hj,hk,rfl,rfl,rfl⟩:=hrel
    by_cases hlt:j<n
    · obtain ⟨g,rfl⟩:∃ g,gk=g+1:=⟨gk - 1,by omega⟩
      have hjz:(j:Int)<(n:Int):=by omega
      have hjl:j<l.length:=by rw [HN.out];exact hlt
      obtain ⟨b,o,rfl,_,hc⟩:=HR.out j (by rw [sv_len];exact hjl)
      rw [sv_get _ _ hjl] at hc
      have htk:l.take (j+1)=l.take j++[l.getD j ByteArray.empty]:=by rw [List.take_add_one];simp [List.getD,hjl]
      have hx:=HS.out (l.getD j ByteArray.empty) (by simp [List.getD,hjl])
      generalize l.getD j ByteArray.empty=x at *
      have hb1:=HLEN.out j
      have HNX:=Lib.hid (show TxO l n g (.string (mkB ((txtPt (ldat (l.take j))++[47])++escPt (x.data.toList.take x.size)))) (.int .i64 ((j:Int)+1)) wr wr from ⟨j+1,by omega,by omega,by
        have e:x.data.toList.take x.size=x.data.toList:=List.take_of_length_le (by rw [← Lib.size_eq];omega)
        rw [e,htk]
        unfold ldat
        rw [List.map_append,textP_append]
        simp [txtPt],rfl,rfl⟩)
      clear htk
      generalize txtPt (ldat (l.take j))=L at *
      have hz0:¬ 9223372036854775807<(mkB L).size+1:=by rw [mkB_size];omega
      have hz00:¬ 9223372036854775807<(mkB L).size+(⟨#[47]⟩:ByteArray).size:=by rw [mkB_size];show ¬ 9223372036854775807<L.length+1;omega
      have hsn:mkB L++(⟨#[47]⟩:ByteArray)=mkB (L++[47]):=mkB_snoc L ⟨#[47]⟩
      go_wp2_with fail
      clear hz0 hz00 hsn
      go_loopg [3,5] x.size (fun g s i wr2=>TxN (L++[47]) x g s i wr wr2)
      case atStart=>exact ⟨0,by omega,by omega,by simp [escPt],rfl,rfl⟩
      case round =>
        obtain ⟨k,hk1,hk2,rfl,rfl,rfl⟩:=hrel
        by_cases hkx:k<x.size
        · obtain ⟨g2,rfl⟩:∃ g,gk=g+1:=⟨gk - 1,by omega⟩
          have hkz:(k:Int)<(x.size:Int):=by omega
          have hes:=esc_snoc x k hkx
          have hcut:=cut_one x k hkx
          have hle:=escPt_len (x.data.toList.take k)
          rw [List.length_take] at hle
          have hle2:(L++[47]++escPt (x.data.toList.take k)).length≤4000000000:=by
            rw [List.length_append,List.length_append];simp only [List.length_singleton];omega
          have HNY:=Lib.hid (fun (Z:List UInt8) (hz:escPt (x.data.toList.take (k+1))=escPt (x.data.toList.take k)++Z)=>(show TxN (L++[47]) x g2 (.string (mkB (L++[47]++escPt (x.data.toList.take k)++Z))) (.int .i64 ((k:Int)+1)) wr wr from ⟨k+1,by omega,by omega,by rw [hz,List.append_assoc (L++[47])],rfl,rfl⟩))
          have hex:(x.extract k (k+1)).size=1:=by rw [Lib.size_eq,hcut];rfl
          obtain ⟨E,hE⟩:∃ E,x.extract k (k+1)=E:=⟨_,rfl⟩
          rw [hE] at hcut hex
          obtain ⟨y,hy⟩:∃ y,x[k]'hkx=y:=⟨_,rfl⟩
          rw [hy] at hes hcut
          have HNZ:=Lib.hid (HNY.out _ hes)
          clear hes HNY hle
          generalize L++[47]++escPt (x.data.toList.take k)=P at *
          have hps:(mkB P).size≤4000000000:=by rw [mkB_size];exact hle2
          have hz0:¬ 9223372036854775807<(mkB P).size+2:=by omega
          have hz1:¬ 9223372036854775807<(mkB P).size+1:=by omega
          have hz2:¬ 9223372036854775807<(mkB P).size+E.size:=by omega
          have hz3:¬ 9223372036854775807<(mkB P).size+(⟨#[126,48]⟩:ByteArray).size:=hz0
          have hz4:¬ 9223372036854775807<(mkB P).size+(⟨#[126,49]⟩:ByteArray).size:=hz0
          have hsn1:mkB P++(⟨#[126,48]⟩:ByteArray)=mkB (P++[126,48]):=mkB_snoc P ⟨#[126,48]⟩
          have hsn2:mkB P++(⟨#[126,49]⟩:ByteArray)=mkB (P++[126,49]):=mkB_snoc P ⟨#[126,49]⟩
          have hsn3:mkB P++E=mkB (P++[y]):=by rw [mkB_snoc,hcut]
          have hk0:(0:Int)≤(k:Int):=by omega
          have hk5:(k:Int)+1≤(x.size:Int):=by omega
          have hk6:(k:Int)≤(k:Int)+1:=by omega
          clear hcut hle2
          by_cases h126:y=126
          · have h126z:((y.toNat:Nat):Int)=126:=by rw [h126];rfl
            have HNW:=Lib.hid (show TxN (L++[47]) x g2 (.string (mkB (P++[126,48]))) (.int .i64 ((k:Int)+1)) wr wr from by have:=HNZ.out;rwa [if_pos h126] at this)
            clear h126 HNZ
            go_wp2
            go_roundg g2
            case rel=>exact HNW.out
            case measure=>omega
          by_cases h47:y=47
          · have h126z:¬ ((y.toNat:Nat):Int)=126:=by rw [h47];decide
            have h47z:((y.toNat:Nat):Int)=47:=by rw [h47];rfl
            have HNW:=Lib.hid (show TxN (L++[47]) x g2 (.string (mkB (P++[126,49]))) (.int .i64 ((k:Int)+1)) wr wr from by have:=HNZ.out;rwa [if_neg h126,if_pos h47] at this)
            clear h126 h47 HNZ
            go_wp2
            go_roundg g2
            case rel=>exact HNW.out
            case measure=>omega
          · have h126z:¬ ((y.toNat:Nat):Int)=126:=fun h=>h126 (UInt8.toNat_inj.1 (by rw [show (126:UInt8).toNat=126 from rfl];omega))
            have h47z:¬ ((y.toNat:Nat):Int)=47:=fun h=>h47 (UInt8.toNat_inj.1 (by rw [show (47:UInt8).toNat=47 from rfl];omega))
            have HNW:=Lib.hid (show TxN (L++[47]) x g2 (.string (mkB (P++[y]))) (.int .i64 ((k:Int)+1)) wr wr from by have:=HNZ.out;rwa [if_neg h126,if_neg h47] at this)
            clear h126 h47 HNZ
            go_wp2
            go_roundg g2
            case rel=>exact HNW.out
            case measure=>omega
        · obtain rfl:k=x.size:=by omega
          have hkz:¬ (x.size:Int)<(x.size:Int):=by omega
          go_wp2
          go_roundg g
          case rel =>
            have h:=HNX.out
            rw [List.append_assoc] at h
            exact h
          case measure=>omega
    · obtain rfl:j=n:=by omega
      have hjz:¬ (j:Int)<(j:Int):=by omega
      have HT:=Lib.hid (show l.take j=l by rw [← HN.out];exact List.take_length)
      rw [HT.out]
      go_wp2
      go_ret
      exact ⟨rfl,rfl⟩
def tokF:Nat→List UInt8→Option (List UInt8)
  | 0,_=>some []
  | f+1,[]=>some []
  | f+1,b::l=>if b ≠ 126 then (tokF f l).map (b :: ·) else match l with
    | []=>none
    | c::r=>if c=48 then (tokF f r).map (126 :: ·) else if c=49 then (tokF f r).map (47 :: ·) else none
def tokS (o:List UInt8→Option (List UInt8)) (l:List UInt8):Option (List UInt8):=match l with
  | []=>none
  | c::r=>if c=48 then (o r).map (126 :: ·) else if c=49 then (o r).map (47 :: ·) else none
theorem tokF_cons (f:Nat) (b:UInt8) (l:List UInt8):tokF (f+1) (b::l)=if b ≠ 126 then (tokF f l).map (b :: ·) else tokS (tokF f) l:=rfl
theorem tokF_more:∀ (f:Nat) (l:List UInt8),l.length≤f→tokF (f+1) l=tokF f l:=by
  intro f
  induction f using Nat.strongRecOn with
  | _ f ih =>
  intro l hl
  cases l with
  | nil=>cases f <;> rfl
  | cons b l =>
    cases f with
    | zero=>simp at hl
    | succ f =>
      simp only [List.length_cons] at hl
      rw [tokF_cons,tokF_cons]
      by_cases hb:b ≠ 126
      · rw [if_pos hb,if_pos hb,ih f (by omega) l (by omega)]
      · rw [if_neg hb,if_neg hb]
        cases l with
        | nil=>rfl
        | cons c r =>
          simp only [List.length_cons] at hl
          have:=ih f (by omega) r (by omega)
          simp only [tokS,this]
def tokL (l:List UInt8):Option (List UInt8):=tokF l.length l
theorem tokF_le:∀ (f:Nat) (l:List UInt8),l.length≤f→tokF f l=tokL l:=by
  intro f
  induction f with
  | zero=>intro l h;have:=List.eq_nil_of_length_eq_zero (Nat.le_zero.1 h);subst this;rfl
  | succ f ih =>
    intro l h
    by_cases h2:l.length≤f
    · rw [tokF_more f l h2,ih l h2]
    · unfold tokL;rw [show l.length=f+1 by omega]
theorem tokL_nil:tokL []=some []:=rfl
theorem tokL_plain {b:UInt8} {l:List UInt8} (h:b ≠ 126):tokL (b::l)=(tokL l).map (b :: ·):=by
  unfold tokL;rw [List.length_cons,tokF_cons,if_pos h]
theorem tokL_end:tokL [126]=none:=rfl
theorem tokL_two (c:UInt8) (r:List UInt8):tokL (126::c::r)=if c=48 then (tokL r).map (126 :: ·) else if c=49 then (tokL r).map (47 :: ·) else none:=by
  unfold tokL
  rw [List.length_cons,tokF_cons,if_neg (by simp)]
  simp only [tokS,tokF_le (c::r).length r (by simp)]
  rfl
def tokV (o:Option (List UInt8)):ByteArray:=match o with | some l=>mkB l | none=>⟨#[]⟩
def ToP (l:List UInt8) (w:World) (e:Ending) (w':World):Prop:=e=.returned (.tuple #[.string (tokV (tokL l)),.bool (tokL l).isSome])∧w'=w
def ToI (x:ByteArray) (n g:Nat) (s i:Value) (W wr:World):Prop :=
  ∃ (k:Nat) (A:List UInt8),k≤n∧n - k≤g∧A.length≤k∧s=.string (mkB A)∧i=.int .i64 (k:Int)∧tokL x.data.toList=(tokL (x.data.toList.drop k)).map (A++·)∧wr=W
theorem drop_at (x:ByteArray) (k:Nat) (h:k<x.size):x.data.toList.drop k=x[k]'h::x.data.toList.drop (k+1):=by
  have hs:k<x.data.size:=h
  rw [List.drop_eq_getElem_cons (by simpa using hs)]
  simp [ByteArray.getElem_eq_getElem_data]
theorem map_app (o:Option (List UInt8)) (A:List UInt8) (b:UInt8):(o.map (b :: ·)).map (A++·)=o.map ((A++[b])++·):=by cases o <;> simp
theorem refToken_any (x:ByteArray) (w:World) (hx:x.size≤4000000000) :
    Calls Tryd.prog 46 #[.string x] w (ToP x.data.toList w):=by
  have hln:x.data.toList.length=x.size:=by rw [Array.length_toList];rfl
  have HLN:=Lib.hid hln
  clear hln
  go_enter Tryd.func46,Tryd.ntmps46
  go_wp2_with fail
  go_loopg [4,5] x.size (fun g s i wr=>ToI x x.size g s i w wr)
  case atStart=>exact ⟨0,[],by omega,by omega,by simp,rfl,rfl,by simp,rfl⟩
  case round =>
    obtain ⟨k,A,hk1,hk2,hA,rfl,rfl,ht,rfl⟩:=hrel
    by_cases hlt:k<x.size
    · obtain ⟨g,rfl⟩:∃ g,gk=g+1:=⟨gk - 1,by omega⟩
      have hkz:(k:Int)<(x.size:Int):=by omega
      have hcut:=cut_one x k hlt
      rw [drop_at x k hlt] at ht
      have hex:(x.extract k (k+1)).size=1:=by rw [Lib.size_eq,hcut];rfl
      obtain ⟨E,hE⟩:∃ E,x.extract k (k+1)=E:=⟨_,rfl⟩
      rw [hE] at hcut hex
      obtain ⟨y,hy⟩:∃ y,x[k]'hlt=y:=⟨_,rfl⟩
      rw [hy] at ht hcut
      have hps:(mkB A).size≤4000000000:=by rw [mkB_size];omega
      have hz1:¬ 9223372036854775807<(mkB A).size+1:=by omega
      have hz2:¬ 9223372036854775807<(mkB A).size+E.size:=by omega
      have hsn1:mkB A++(⟨#[126]⟩:ByteArray)=mkB (A++[126]):=mkB_snoc A ⟨#[126]⟩
      have hsn2:mkB A++(⟨#[47]⟩:ByteArray)=mkB (A++[47]):=mkB_snoc A ⟨#[47]⟩
      have hsn3:mkB A++E=mkB (A++[y]):=by rw [mkB_snoc,hcut]
      have hk0:(0:Int)≤(k:Int):=by omega
      have hk5:(k:Int)+1≤(x.size:Int):=by omega
      have hk6:(k:Int)≤(k:Int)+1:=by omega
      clear hcut
      by_cases h126:y=126
      case neg =>
        have h126z:¬ ((y.toNat:Nat):Int)=126:=fun h=>h126 (UInt8.toNat_inj.1 (by rw [show (126:UInt8).toNat=126 from rfl];omega))
        have HN:=Lib.hid (show ToI x x.size g (.string (mkB (A++[y]))) (.int .i64 ((k:Int)+1)) wr wr from ⟨k+1,A++[y],by omega,by omega,by simp;omega,rfl,rfl,by rw [ht,tokL_plain h126,map_app],rfl⟩)
        clear ht h126
        go_wp2
        go_roundg g
        case rel=>exact HN.out
        case measure=>omega
      have h126z:((y.toNat:Nat):Int)=126:=by rw [h126];rfl
      rw [h126] at ht
      clear hsn3 h126
      by_cases hl2:k+1<x.size
      case neg =>
        have hl2z:¬ (k:Int)+1<(x.size:Int):=by omega
        have he:x.data.toList.drop (k+1)=[]:=List.drop_eq_nil_of_le (by rw [HLN.out];omega)
        rw [he,tokL_end] at ht
        have HF:=Lib.hid (show ToP x.data.toList wr (.returned (.tuple #[.string ⟨#[]⟩,.bool false])) wr from ⟨by rw [ht];rfl,rfl⟩)
        clear ht he
        go_wp2
        go_ret2
        exact HF.out
      have hl2z:(k:Int)+1<(x.size:Int):=by omega
      have hl3:(0:Int)≤(k:Int)+1:=by omega
      rw [drop_at x (k+1) hl2,tokL_two] at ht
      obtain ⟨z,hz⟩:∃ z,x[k+1]'hl2=z:=⟨_,rfl⟩
      rw [hz] at ht
      by_cases h48:z=48
      · have h48z:((z.toNat:Nat):Int)=48:=by rw [h48];rfl
        have HN:=Lib.hid (show ToI x x.size g (.string (mkB (A++[126]))) (.int .i64 ((k:Int)+1+1)) wr wr from ⟨k+1+1,A++[126],by omega,by omega,by simp;omega,rfl,rfl,by rw [ht,if_pos h48,map_app],rfl⟩)
        clear ht h48
        go_wp2
        go_roundg g
        case rel=>exact HN.out
        case measure=>omega
      by_cases h49:z=49
      · have h48z:¬ ((z.toNat:Nat):Int)=48:=by rw [h49];decide
        have h49z:((z.toNat:Nat):Int)=49:=by rw [h49];rfl
        have HN:=Lib.hid (show ToI x x.size g (.string (mkB (A++[47]))) (.int .i64 ((k:Int)+1+1)) wr wr from ⟨k+1+1,A++[47],by omega,by omega,by simp;omega,rfl,rfl,by rw [ht,if_neg h48,if_pos h49,map_app],rfl⟩)
        clear ht h48 h49
        go_wp2
        go_roundg g
        case rel=>exact HN.out
        case measure=>omega
      · have h48z:¬ ((z.toNat:Nat):Int)=48:=fun h=>h48 (UInt8.toNat_inj.1 (by rw [show (48:UInt8).toNat=48 from rfl];omega))
        have h49z:¬ ((z.toNat:Nat):Int)=49:=fun h=>h49 (UInt8.toNat_inj.1 (by rw [show (49:UInt8).toNat=49 from rfl];omega))
        rw [if_neg h48,if_neg h49] at ht
        have HF:=Lib.hid (show ToP x.data.toList wr (.returned (.tuple #[.string ⟨#[]⟩,.bool false])) wr from ⟨by rw [ht];rfl,rfl⟩)
        clear ht h48 h49
        go_wp2
        go_ret2
        exact HF.out
    · obtain rfl:k=x.size:=by omega
      have hkz:¬ (x.size:Int)<(x.size:Int):=by omega
      have he:x.data.toList.drop x.size=[]:=List.drop_eq_nil_of_le (by rw [HLN.out];exact Nat.le_refl _)
      rw [he,tokL_nil] at ht
      have HF:=Lib.hid (show ToP x.data.toList wr (.returned (.tuple #[.string (mkB A),.bool true])) wr from ⟨by rw [ht];simp [tokV],rfl⟩)
      clear ht he
      go_wp2
      go_ret2
      exact HF.out
theorem tok_til:∀ (n:Nat) (l:List UInt8),l.length≤n→tokL l=if tilW false l=true then some (unL l) else none:=by
  intro n
  induction n using Nat.strongRecOn with
  | _ n ih =>
  intro l hl
  cases l with
  | nil=>rfl
  | cons b l =>
    simp only [List.length_cons] at hl
    by_cases h:b=126
    · subst h
      rw [tilW_tilde]
      cases l with
      | nil=>rfl
      | cons c r =>
        simp only [List.length_cons] at hl
        rw [tokL_two]
        have hr:=ih r.length (by omega) r (Nat.le_refl _)
        by_cases h48:c=48
        · subst h48
          rw [if_pos rfl,tilW_two _ _ (.inl rfl),hr]
          by_cases ht:tilW false r=true
          · rw [if_pos ht,if_pos ht];rfl
          · rw [if_neg ht,if_neg ht];rfl
        · rw [if_neg h48]
          by_cases h49:c=49
          · subst h49
            rw [if_pos rfl,tilW_two _ _ (.inr rfl),hr]
            by_cases ht:tilW false r=true
            · rw [if_pos ht,if_pos ht];rfl
            · rw [if_neg ht,if_neg ht];rfl
          · rw [if_neg h49,if_neg]
            rw [tilW,if_neg (by rintro (h | h);exact h48 h;exact h49 h)]
            simp
    · rw [tokL_plain h,tilW_other _ _ h,ih l.length (by omega) l (Nat.le_refl _),unL_cons _ _ h]
      by_cases ht:tilW false l=true
      · rw [if_pos ht,if_pos ht];rfl
      · rw [if_neg ht,if_neg ht];rfl
theorem tok_plain (l:List UInt8):tokL l=if tilW false l=true then some (plainL l) else none:=by
  rw [tok_til l.length l (Nat.le_refl _)]
  by_cases ht:tilW false l=true
  · rw [if_pos ht,if_pos ht,plain_un l.length l (Nat.le_refl _) ht]
  · rw [if_neg ht,if_neg ht]
theorem til_cat : ∀ (t r : List UInt8) (w : Bool), tilW w t = true → tilW w (t ++ r) = tilW false r := by
  intro t
  induction t with
  | nil => intro r w h; cases w
           · rfl
           · cases h
  | cons b t ih =>
    intro r w h
    rw [List.cons_append, tilW]
    rw [tilW] at h
    split
    · rename_i hb; rw [if_pos hb] at h; exact ih r false h
    · rename_i hb
      rw [if_neg hb] at h
      cases w
      · exact ih r _ h
      · cases h
theorem til_join:∀ (ts:List (List UInt8)),(∀ x∈ts,tilW false x=true)→tilW false (ts.flatMap (fun x=>47::x))=true:=by
  intro ts
  induction ts with
  | nil=>intro _;rfl
  | cons t ts ih =>
    intro h
    rw [List.flatMap_cons,List.cons_append,tilW_other _ _ (by decide),til_cat _ _ _ (h t (by simp))]
    exact ih (fun x hx=>h x (by simp [hx]))
def tokA:List (List UInt8)→Option (List (List UInt8))
  | []=>some []
  | t::ts=>(tokL t).bind fun x=>(tokA ts).map (x :: ·)
theorem tokA_eq:∀ (ts:List (List UInt8)),tokA ts=if (∀ x∈ts,tilW false x=true) then some (ts.map plainL) else none:=by
  intro ts
  induction ts with
  | nil=>rw [if_pos (by simp)];rfl
  | cons t ts ih =>
    rw [tokA,tok_plain,ih]
    by_cases h1:tilW false t=true
    · rw [if_pos h1]
      by_cases h2:∀ x∈ts,tilW false x=true
      · rw [if_pos h2,if_pos (by intro x hx;rcases List.mem_cons.1 hx with rfl | hx;exact h1;exact h2 x hx)];rfl
      · rw [if_neg h2,if_neg (fun h=>h2 (fun x hx=>h x (by simp [hx])))];rfl
    · have hn:¬ ∀ x∈t::ts,tilW false x=true:=fun h=>h1 (h t List.mem_cons_self)
      rw [if_neg h1,if_neg hn];rfl
theorem parse_ref (l:List UInt8) (hv:validL (47::l)=true):parsePt (47::l)=match tokA (spl 47 l) with | none=>.inr 2 | some p=>if 63<p.length then .inr 4 else .inl p:=by
  unfold parsePt
  have hj:=spl_join 47 l
  have hc:(47::l).count 47=(spl 47 l).length:=by rw [spl_length,List.count_cons];simp
  rw [tokA_eq]
  by_cases ht:tilW false (47::l)=true
  · have hall:∀ x∈spl 47 l,tilW false x=true:=by
      rw [← hj] at ht
      have:=tilW_split (spl 47 l) [] false (by simpa using ht)
      exact this.2
    rw [if_pos hall]
    simp only [List.length_map]
    rw [if_neg (by rintro (h | h | h);exact h rfl;(rw [hv] at h;cases h);(rw [ht] at h;cases h)),hc]
  · have hall:¬ ∀ x∈spl 47 l,tilW false x=true:=fun h=>ht (by rw [← hj];exact til_join _ h)
    have hf:tilW false (47::l)=false:=by cases h:tilW false (47::l);rfl;exact absurd h ht
    rw [if_neg hall]
    exact if_pos (Or.inr (Or.inr hf))
theorem parse_bad {b:UInt8} {l:List UInt8} (h:b ≠ 47∨validL (b::l)=false):parsePt (b::l)=.inr 2:=by
  unfold parsePt
  exact if_pos (h.imp id .inl)
theorem tokA_cons (t:List UInt8) (ts:List (List UInt8)):tokA (t::ts)=(tokL t).bind fun x=>(tokA ts).map (x :: ·):=rfl
def PaT (S l:List UInt8) (n f i:Nat) (P:List (List UInt8)):Prop :=
  (i≤n∧(47:UInt8) ∉ (S.drop f).take (i - f)∧tokA (spl 47 l)=(tokA (spl 47 (S.drop f))).map (P++·))∨(i=n+1∧tokA (spl 47 l)=some P)
def PaR (S l:List UInt8) (n:Nat) (W1:World) (g:Nat) (lv fv iv:Value) (wr:World):Prop :=
  ∃ (i f:Nat) (P:List (List UInt8)),1≤f∧f≤i∧i≤n+1∧n+1 - i≤g∧P.length≤f∧fv=.int .i64 (f:Int)∧iv=.int .i64 (i:Int)∧wr.ownsRow W1.heap.size 9 1 lv P.length (sv (P.map mkB))∧Below W1.heap.size W1 wr∧PaT S l n f i P
theorem pat_more {S l:List UInt8} {n f i:Nat} {P:List (List UInt8)} (h:PaT S l n f i P) (hn:S.length=n) (hf:f≤i) (hi:i<n) (hb:S.getD i 0 ≠ 47):PaT S l n f (i+1) P:=by
  rcases h with ⟨h1,h2,h3⟩ | ⟨h1,_⟩
  · refine .inl ⟨by omega,?_,h3⟩
    have hd:i - f<(S.drop f).length:=by rw [List.length_drop];omega
    rw [show i+1 - f=(i - f)+1 by omega,List.take_add_one,List.getElem?_eq_getElem hd]
    simp only [Option.toList_some,List.mem_append,List.mem_singleton]
    rintro (h | h)
    · exact h2 h
    · refine hb ?_
      rw [List.getElem_drop] at h
      simp only [show f+(i - f)=i by omega] at h
      simp [List.getD,show i<S.length by omega,← h]
  · omega
theorem pat_piece {S l:List UInt8} {n f i:Nat} {P:List (List UInt8)} (h:PaT S l n f i P) (hn:S.length=n) (hf:f≤i) (hi:i≤n) (hb:i<n→S.getD i 0=47) :
    (tokL ((S.drop f).take (i - f))=none→tokA (spl 47 l)=none)∧∀ x,tokL ((S.drop f).take (i - f))=some x→PaT S l n (i+1) (i+1) (P++[x]):=by
  rcases h with ⟨h1,h2,h3⟩ | ⟨h1,_⟩
  · by_cases hlt:i<n
    · have hd:S.drop f=(S.drop f).take (i - f)++47::S.drop (i+1):=by
        conv=>lhs;rw [← List.take_append_drop (i - f) (S.drop f),List.drop_drop,show f+(i - f)=i by omega,List.drop_eq_getElem_cons (show i<S.length by omega)]
        have:=hb hlt
        simp [List.getD,show i<S.length by omega] at this
        rw [this]
      have hs:spl 47 (S.drop f)=(S.drop f).take (i - f)::spl 47 (S.drop (i+1)):=by
        conv=>lhs;rw [hd]
        exact spl_cat 47 _ _ h2
      rw [hs,tokA_cons] at h3
      refine ⟨fun h=>by rw [h3,h];rfl,fun x h=>.inl ⟨by omega,by simp,?_⟩⟩
      rw [h3,h]
      cases tokA (spl 47 (S.drop (i+1))) <;> simp
    · have hd:(S.drop f).take (i - f)=S.drop f:=List.take_of_length_le (by rw [List.length_drop];omega)
      rw [hd] at h2 ⊢
      rw [splP_none 47 _ h2,tokA_cons] at h3
      refine ⟨fun h=>by rw [h3,h];rfl,fun x h=>.inr ⟨by omega,?_⟩⟩
      rw [h3,h]
      simp [tokA]
  · omega
theorem cut_list (s:ByteArray) (f i:Nat):(s.extract f i).data.toList=(s.data.toList.drop f).take (i - f):=by
  rw [ByteArray.data_extract,Array.toList_extract,List.extract_eq_take_drop]
theorem refParseP_any (s:ByteArray) (w:World) (hs:s.size≤1000000) :
    Calls Tryd.prog 14 #[.string s] w (ParseA s.data.toList w):=by
  have hln:s.data.toList.length=s.size:=by rw [Array.length_toList];rfl
  by_cases h0:s.size=0
  · have e0:=str_nil s h0
    subst e0
    have HF:=Lib.hid (show ParseA [] w (.returned (.tuple #[.slice none 0 0,.int .i64 0])) w from .inr ⟨[],none,0,rfl,rfl,Nat.le_refl _,RdV.nil _ _,by decide,Below.refl _ _⟩)
    clear hln h0 hs
    go_enter Tryd.func14,Tryd.ntmps14
    go_wp2
    go_ret2
    exact HF.out
  have hne:=str_ne s h0
  have hp:0<s.size:=by omega
  obtain ⟨b,l,hbl⟩:∃ b l,s.data.toList=b::l:=by
    cases e:s.data.toList with
    | nil=>rw [e] at hln;simp at hln;omega
    | cons b l=>exact ⟨b,l,rfl⟩
  have hb0:s[0]'hp=b:=by rw [← str_getD s 0 hp,hbl];rfl
  have KV:=Lib.hid (refValid_any s w hs)
  have KT:=Lib.hid (fun f i W=>refToken_any (s.extract f i) W (by
    have:(s.extract f i).size≤s.size:=by rw [Lib.size_eq,cut_list,List.length_take,List.length_drop,Lib.size_eq];omega
    omega))
  have hx1:¬ 9223372036854775807<s.size:=by omega
  by_cases h47:b=47
  case neg =>
    have h47z:¬ ((b.toNat:Nat):Int)=47:=fun h=>h47 (UInt8.toNat_inj.1 (by rw [show (47:UInt8).toNat=47 from rfl];omega))
    have HF:=Lib.hid (show ParseA s.data.toList w (.returned (.tuple #[.slice none 0 0,.int .i64 2])) w from .inl ⟨2,by rw [hbl];exact parse_bad (.inl h47),rfl,Below.refl _ _⟩)
    clear hln hbl h47 hs KV
    go_enter Tryd.func14,Tryd.ntmps14
    go_wp2
    go_ret2
    exact HF.out
  have h47z:((b.toNat:Nat):Int)=47:=by rw [h47];rfl
  rw [h47] at hbl
  clear h47
  cases hv:validL (47::l) with
  | false =>
    have HF:=Lib.hid (fun W (h:Below w.heap.size w W)=>(show ParseA s.data.toList w (.returned (.tuple #[.slice none 0 0,.int .i64 2])) W from .inl ⟨2,by rw [hbl];exact parse_bad (.inr hv),rfl,h⟩))
    rw [hbl,hv] at KV
    clear hln hbl hs hv
    go_enter Tryd.func14,Tryd.ntmps14
    go_wp2_with fail
    refine KV.out.mono ?_
    rintro r w1 ⟨rfl,h1⟩
    have HF:=Lib.hid (HF.out w1 h1)
    clear h1
    go_wp2
    go_ret2
    exact HF.out
  | true =>
    have HPR:=Lib.hid (parse_ref l hv)
    rw [hbl,hv] at KV
    have HBL:=Lib.hid hbl
    have HLN:=Lib.hid hln
    clear hln hbl hv
    go_enter Tryd.func14,Tryd.ntmps14
    go_wp2_with fail
    refine KV.out.mono ?_
    rintro r w1 ⟨rfl,h1⟩
    have HB1:=Lib.hid h1
    have HST:=Lib.hid (show PaR s.data.toList l s.size w1 s.size (.slice none 0 0) (.int .i64 1) (.int .i64 1) w1 from
      ⟨1,1,[],by omega,by omega,by omega,by omega,by simp,rfl,rfl,⟨rfl,.inl ⟨rfl,rfl⟩⟩,Below.refl _ _,.inl ⟨by omega,by simp,by rw [HBL.out];simp⟩⟩)
    clear h1
    go_wp2_with fail
    go_loopg [4,5,6] s.size (fun g lv fv iv wr=>PaR s.data.toList l s.size w1 g lv fv iv wr)
    case atStart=>exact HST.out
    case round =>
      clear HST
      obtain ⟨i,f,P,hf1,hfi,hi,hg,hm,rfl,rfl,ho,hbw,hpt⟩:=hrel
      have HO:=Lib.hid ho
      have HBW:=Lib.hid hbw
      obtain ⟨ad,cap,rfl,hcap,hrd,_,hlo,hnil⟩:=own_viewN ho
      have HRD:=Lib.hid hrd
      clear ho hbw hrd
      by_cases hle:i≤s.size
      case neg =>
        obtain rfl:i=s.size+1:=by omega
        have hlez:¬ ((s.size+1:Nat):Int)≤(s.size:Int):=by omega
        have hlez2:¬ (s.size:Int)+1≤(s.size:Int):=by omega
        have hta:tokA (spl 47 l)=some P:=by
          rcases hpt with ⟨h,_⟩ | ⟨_,h⟩
          · omega
          · exact h
        by_cases h63:63<P.length
        · have h63z:(63:Int)<(P.length:Int):=by omega
          have HF:=Lib.hid (show ParseA s.data.toList w (.returned (.tuple #[.slice none 0 0,.int .i64 4])) wr from .inl ⟨4,by rw [HBL.out,HPR.out,hta];exact if_pos h63,rfl,HB1.out.trans (HBW.out.mono HB1.out.size)⟩)
          clear hta hpt
          go_wp2
          go_ret2
          exact HF.out
        · have h63z:¬ (63:Int)<(P.length:Int):=by omega
          have HF:=Lib.hid (show ParseA s.data.toList w (.returned (.tuple #[.slice ad P.length cap,.int .i64 0])) wr from .inr ⟨P,ad,cap,by rw [HBL.out,HPR.out,hta];exact if_neg h63,rfl,hcap,HRD.out,by omega,HB1.out.trans (HBW.out.mono HB1.out.size)⟩)
          clear hta hpt
          go_wp2
          go_ret2
          exact HF.out
      have hlez:(i:Int)≤(s.size:Int):=by omega
      obtain ⟨g,rfl⟩:∃ g,gk=g+1:=⟨gk - 1,by omega⟩
      by_cases hgo:i<s.size∧s.data.toList.getD i 0 ≠ 47
      · obtain ⟨hlt,hby⟩:=hgo
        have hltz:(i:Int)<(s.size:Int):=by omega
        rw [str_getD s i hlt] at hby
        have HN:=Lib.hid (show PaR s.data.toList l s.size w1 g (.slice ad P.length cap) (.int .i64 (f:Int)) (.int .i64 ((i:Int)+1)) wr from
          ⟨i+1,f,P,hf1,by omega,by omega,by omega,hm,rfl,rfl,HO.out,HBW.out,pat_more hpt HLN.out hfi hlt (by rw [str_getD s i hlt];exact hby)⟩)
        obtain ⟨y,hy⟩:∃ y,s[i]'hlt=y:=⟨_,rfl⟩
        rw [hy] at hby
        have h47y:¬ ((y.toNat:Nat):Int)=47:=fun h=>hby (UInt8.toNat_inj.1 (by rw [show (47:UInt8).toNat=47 from rfl];omega))
        clear hby hpt
        go_wp2
        go_roundg g
        case rel=>exact HN.out
        case measure=>omega
      · have hpp:=pat_piece hpt HLN.out hfi hle (fun h=>by
          cases hq:decide (s.data.toList.getD i 0=47)
          · exact absurd ⟨h,of_decide_eq_false hq⟩ hgo
          · exact of_decide_eq_true hq)
        have HPP:=Lib.hid hpp
        have KT2:=Lib.hid (KT.out f i wr)
        rw [cut_list] at KT2
        obtain ⟨E,hE⟩:∃ E,s.extract f i=E:=⟨_,rfl⟩
        rw [hE] at KT2
        have hk0:(0:Int)≤(f:Int):=by omega
        have hk1:(f:Int)≤(i:Int):=by omega
        have hW:(i<s.size∧s.data.toList.getD i 0=47)∨¬ i<s.size:=by
          by_cases h:i<s.size
          · left
            refine ⟨h,?_⟩
            cases hq:decide (s.data.toList.getD i 0=47)
            · exact absurd ⟨h,of_decide_eq_false hq⟩ hgo
            · exact of_decide_eq_true hq
          · exact .inr h
        generalize (s.data.toList.drop f).take (i - f)=T at *
        clear hpp hpt hgo
        have HGO:Hid (∀ (x:List UInt8),tokL T=some x→∀ (lv:Value) (W:World),W.ownsRow w1.heap.size 9 1 lv (P.length+1) (sv (P.map mkB)++[.string (mkB x)])→Below w1.heap.size w1 W→PaR s.data.toList l s.size w1 g lv (.int .i64 ((i:Int)+1)) (.int .i64 ((i:Int)+1)) W):=Lib.hid (fun x hx lv W h1 h2 =>
          ⟨i+1,i+1,P++[x],by omega,by omega,by omega,by omega,by simp;omega,rfl,rfl,by simpa [sv] using h1,h2,HPP.out.2 x hx⟩)
        have HNO:Hid (tokL T=none→ParseA s.data.toList w (.returned (.tuple #[.slice none 0 0,.int .i64 2])) wr):=Lib.hid (fun h=>.inl ⟨2,by rw [HBL.out,HPR.out,HPP.out.1 h],rfl,HB1.out.trans (HBW.out.mono HB1.out.size)⟩)
        have hml:P.length≤1000001:=by omega
        clear HPP
        unfold ToP at KT2
        rcases hW with ⟨hlt,hby⟩ | hnl
        · have hltz:(i:Int)<(s.size:Int):=by omega
          obtain ⟨y,hy⟩:∃ y,s[i]'hlt=y:=⟨_,rfl⟩
          rw [str_getD s i hlt,hy] at hby
          have h47y:((y.toNat:Nat):Int)=47:=by rw [hby];rfl
          clear hby
          cases hT:tokL T with
          | none =>
            rw [hT] at KT2
            simp only [tokV,Option.isSome_none] at KT2
            have HF:=Lib.hid (HNO.out hT)
            clear hT
            go_wp2_with fail
            refine KT2.out.mono ?_
            rintro r w2 ⟨rfl,hw2⟩
            replace hw2:=hw2.symm
            subst hw2
            go_wp2
            go_ret2
            exact HF.out
          | some x =>
            rw [hT] at KT2
            simp only [tokV,Option.isSome_some] at KT2
            have HGO:=Lib.hid (HGO.out x hT)
            clear hT
            go_wp2_with fail
            refine KT2.out.mono ?_
            rintro r w2 ⟨rfl,hw2⟩
            replace hw2:=hw2.symm
            subst hw2
            go_wp2_with (at_builtin;refine wpl_appV Tryd.underlying22 info_string rfl (by decide) (by decide) _ rfl _ _ rfl w1.heap.size (.slice ad P.length cap) P.length (sv (P.map mkB)) rfl (HO.out.alloc _) (some ⟨wr.heap.size,0,none⟩) 1 1 [.string (mkB x)] rfl rfl (rdv_new _ _ _) (sv_one [mkB x]) (fun h=>by cases h) (by omega) (by have:=HBW.out.size;simp;omega) ?_)
            intro v' w3 ho3 hg3
            have HN:=Lib.hid (HGO.out v' w3 ho3 ((grow_but (B:=0) (bu:=w1.heap.size) (But.of_below (HBW.out.alloc HBW.out.size _)) (HO.out.alloc _) hg3).below (Nat.le_refl _) (Nat.le_refl _)))
            clear ho3 hg3
            go_wp2
            go_roundg g
            case rel=>exact HN.out
            case measure=>omega
        · have hltz:¬ (i:Int)<(s.size:Int):=by omega
          cases hT:tokL T with
          | none =>
            rw [hT] at KT2
            simp only [tokV,Option.isSome_none] at KT2
            have HF:=Lib.hid (HNO.out hT)
            clear hT
            go_wp2_with fail
            refine KT2.out.mono ?_
            rintro r w2 ⟨rfl,hw2⟩
            replace hw2:=hw2.symm
            subst hw2
            go_wp2
            go_ret2
            exact HF.out
          | some x =>
            rw [hT] at KT2
            simp only [tokV,Option.isSome_some] at KT2
            have HGO:=Lib.hid (HGO.out x hT)
            clear hT
            go_wp2_with fail
            refine KT2.out.mono ?_
            rintro r w2 ⟨rfl,hw2⟩
            replace hw2:=hw2.symm
            subst hw2
            go_wp2_with (at_builtin;refine wpl_appV Tryd.underlying22 info_string rfl (by decide) (by decide) _ rfl _ _ rfl w1.heap.size (.slice ad P.length cap) P.length (sv (P.map mkB)) rfl (HO.out.alloc _) (some ⟨wr.heap.size,0,none⟩) 1 1 [.string (mkB x)] rfl rfl (rdv_new _ _ _) (sv_one [mkB x]) (fun h=>by cases h) (by omega) (by have:=HBW.out.size;simp;omega) ?_)
            intro v' w3 ho3 hg3
            have HN:=Lib.hid (HGO.out v' w3 ho3 ((grow_but (B:=0) (bu:=w1.heap.size) (But.of_below (HBW.out.alloc HBW.out.size _)) (HO.out.alloc _) hg3).below (Nat.le_refl _) (Nat.le_refl _)))
            clear ho3 hg3
            go_wp2
            go_roundg g
            case rel=>exact HN.out
            case measure=>omega
end Go.Proofs.YticgggjfmhiilaaDoor
