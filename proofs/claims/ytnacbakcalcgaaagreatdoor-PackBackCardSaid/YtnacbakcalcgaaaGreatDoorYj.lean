/- Texts of the claim. -/
import Derived.Test.YtnacbakcalcgaaaGreatDoorYi
set_option linter.unusedVariables false
set_option linter.unusedSimpArgs false
set_option maxHeartbeats 4000000
set_option maxRecDepth 100000
namespace Go.Proofs.YtnacbakcalcgaaaGreatDoor
open Go.RowKit Go.Shelf
def Tw:List Nat→MT
  | []=>leafT 1 false ⟨#[]⟩
  | b::bs=>arrT (some ⟨b,0,none⟩) 1 1 [Tw bs]
def RepB (s:Nat) (w:World) (t:MT):Prop:=∀ W,But s w W→Rep W t
theorem RepB.on {s:Nat} {w W:World} {t:MT} (h:RepB s w t) (hb:But s w W):RepB s W t:=fun U hU=>h U (hb.trans hU)
theorem RepB.rep {s:Nat} {w:World} {t:MT} (h:RepB s w t):Rep w t:=h w (But.refl s w)
def L1 (w:World) (s d:Nat) (k:Nat) (i:Value) (wr:World):Prop :=
  ∃ bs:List Nat,bs.length≤d∧d - bs.length≤k∧i=.int .i64 (bs.length:Int)∧BlkV wr s 29 (flat [(Tw bs).c])∧RepB s wr (Tw bs)∧Below w.heap.size w wr
def L2 (w1:World) (s n:Nat) (k:Nat) (i:Value) (wr:World):Prop :=
  ∃ (m:Nat) (ad:Option Addr) (cap:Nat),m≤n∧n - m≤k∧i=.int .i64 (m:Int)∧BlkV wr s 29 (flat [arrC ad m cap])∧wr.ownsRow (s+1) 29 8 (.slice ad m cap) m (flat (List.replicate m (leafC 2 true ⟨#[]⟩)))∧Below w1.heap.size w1 wr
def eqS (a b:ByteArray):Bool:=a.toList == b.toList
theorem eqS_iff {a b:ByteArray}:eqS a b=true ↔ a=b:=by
  unfold eqS
  rw [beq_iff_eq]
  refine ⟨fun h=>?_,fun h=>by rw [h]⟩
  rw [Lib.toList_data,Lib.toList_data] at h
  exact ByteArray.ext (Array.toList_inj.1 h)
theorem eqS_refl (a:ByteArray):eqS a a=true:=eqS_iff.2 rfl
def ixL:List ByteArray→ByteArray→Option Nat
  | [],_=>none
  | x::l,s=>if eqS x s then some 0 else (ixL l s).map (· + 1)
def plL:List ByteArray→ByteArray→Nat
  | [],_=>0
  | x::l,s=>if ltS s x then 0 else plL l s+1


theorem two2_box (w:World) (c d:Cel):BoxT (two2 w c d) w.heap.size c∧BoxT (two2 w c d) (w.heap.size+1) d:=by
  refine ⟨(Below.heap_alloc _ _ _ (by simp)).trans (heap_alloc_new w _),?_⟩
  have:=heap_alloc_new (w.alloc (.cells c.cells.toArray 29)) (.cells d.cells.toArray 29)
  rw [World.size_alloc] at this;exact this
theorem two2_size (w:World) (c d:Cel):(two2 w c d).heap.size=w.heap.size+2:=by simp [two2]
theorem getD_mapc {l:List MT} {i:Nat} (h:i<l.length) (d:MT):(l.map MT.c).getD i zeroC=(l.getD i d).c:=by simp [List.getD,h]
def partsL (t:MT):List MT:=if t.c.k=6∨t.c.k=7 then t.v else []
def alikeB (a b:MT):Bool :=
  if a.c.k=b.c.k then
    if a.c.k=2 then a.c.b == b.c.b
    else if a.c.k=3 then decide ((a.c.neg=b.c.neg∧a.c.e=b.c.e)∧a.m=b.m)
    else if a.c.k=4∨a.c.k=5 then eqS a.c.s b.c.s
    else if a.c.k=7 then decide (a.k=b.k) && decide (a.c.vn=b.c.vn)
    else if a.c.k=6 then decide (a.c.vn=b.c.vn)
    else true
  else false
mutual
def sameM:MT→MT→Bool | .mk c m k v,u=>alikeB (.mk c m k v) u && (if c.k=6∨c.k=7 then sameLs v u.v else true)
def sameLs:List MT→List MT→Bool | [],_=>true | _::_,[]=>false | t::l,u::r=>sameM t u && sameLs l r
end
theorem sameLs_nil (r:List MT):sameLs [] r=true:=by rw [sameLs]
theorem sameLs_cons (t:MT) (l:List MT) (u:MT) (r:List MT):sameLs (t::l) (u::r)=(sameM t u && sameLs l r):=by rw [sameLs]
theorem alike_kind {a b:MT} (h:alikeB a b=true):a.c.k=b.c.k:=by
  unfold alikeB at h
  split at h
  · assumption
  · cases h
theorem sameM_eq (t u:MT):sameM t u=(alikeB t u && sameLs (partsL t) (partsL u)):=by
  obtain ⟨c,m,k,v⟩:=t
  rw [sameM]
  cases h:alikeB (.mk c m k v) u
  · rfl
  · have hk:c.k=u.c.k:=alike_kind h
    unfold partsL
    rw [← hk]
    show (true && _)=(true && sameLs (if c.k=6∨c.k=7 then v else []) _)
    split
    · rfl
    · rw [sameLs_nil]
theorem alike_refl (t:MT):alikeB t t=true:=by
  unfold alikeB
  rw [if_pos rfl]
  split
  · simp
  · split
    · simp
    · split
      · exact eqS_refl _
      · split
        · simp
        · split
          · simp
          · rfl
theorem sameLs_refl (l:List MT) (h:∀ s∈l,sameM s s=true):sameLs l l=true:=by
  induction l with
  | nil=>exact sameLs_nil _
  | cons t l ih=>rw [sameLs_cons,h t (by simp),ih (fun s hs=>h s (by simp [hs]))];rfl
theorem sameM_refl:∀ t,sameM t t=true:=MT.ind fun t ih=>by
  rw [sameM_eq,alike_refl]
  show sameLs _ _=true
  refine sameLs_refl _ fun s hs=>ih s ?_
  unfold partsL at hs
  split at hs
  · exact hs
  · cases hs
theorem sameM_obj {a b:MT} (ha:a.c.k=7) (hb:b.c.k=7) (hk:a.k=b.k) (hv:a.v=b.v) (hn:a.c.vn=b.c.vn):sameM a b=true:=by
  rw [sameM_eq]
  have h1:alikeB a b=true:=by
    unfold alikeB
    rw [ha,hb,hk,hn]
    simp
  have h2:partsL a=partsL b:=by
    unfold partsL
    rw [ha,hb,hv]
  rw [h1,h2]
  exact sameLs_refl _ fun s _=>sameM_refl s
def NumsOk (t:MT):Prop:=∀ s,t.sub s→s.c.k=3→chkB s.c.neg s.m s.c.e=true
theorem NumsOk.part {t s:MT} (h:NumsOk t) (hs:s∈t.v):NumsOk s:=fun u hu=>h u (MT.sub_v hs hu)
theorem NumsOk.mk {t:MT} (h1:t.c.k=3→chkB t.c.neg t.m t.c.e=true) (h2:∀ s∈t.v,NumsOk s):NumsOk t:=by
  intro u hu
  rcases MT.sub_cases hu with rfl | ⟨s,hs,hu⟩
  · exact h1
  · exact h2 s hs u hu
theorem ltS_tr {a b c:ByteArray} (h:ltS a b=true) (h2:ltS b c=true):ltS a c=true:=bytesLess_tr _ _ _ h h2
def Ris (l:List ByteArray):Prop:=∀ i j,i<j→j<l.length→ltS (l.getD i ByteArray.empty) (l.getD j ByteArray.empty)=true
theorem ris_of {l:List ByteArray} (h:risesB l=true):Ris l:=by
  intro i j hij
  induction j with
  | zero=>omega
  | succ j ih =>
    intro hj
    have h1:=risesB_iff.1 h (j+1) hj
    unfold nameAt at h1
    simp at h1
    have h2:=h1.2
    by_cases e:i=j
    · subst e;simpa [List.getD] using h2
    · exact ltS_tr (ih (by omega) (by omega)) (by simpa [List.getD] using h2)
structure Spl (N:List ByteArray) (s:ByteArray) (p q:Nat):Prop where
  pq:p≤q
  qp:q≤p+1
  ql:q≤N.length
  lo:∀ j,j<p→ltS (N.getD j ByteArray.empty) s=true
  hi:∀ j,q≤j→j<N.length→ltS s (N.getD j ByteArray.empty)=true
  mid:q=p+1→N.getD p ByteArray.empty=s



def LightPost (n:Int) (w:World) (e:Ending) (w':World):Prop :=
  ∃ z:Int,e=.returned (.int .i64 z)∧-1≤z∧z≤1000∧Below w.heap.size w w'
def LN (W0:World) (n k:Nat) (i:Value) (wr:World):Prop :=
  ∃ j:Nat,j≤n∧n - j≤k∧i=.int .i64 (j:Int)∧Below W0.heap.size W0 wr
def LV (W0:World) (n k:Nat) (nv i:Value) (wr:World):Prop :=
  ∃ (j:Nat) (z:Int),j≤n∧n - j≤k∧i=.int .i64 (j:Int)∧nv=.int .i64 z∧-1≤z∧z≤1000∧Below W0.heap.size W0 wr
theorem light_any (t:MT):∀ (n:Int) (w:World),0≤n→n≤1000→Rep w t →
    Calls Tryz.prog 36 #[t.c.val,.int .i64 n] w (LightPost n w):=by
  refine MT.ind (P:=fun t=>∀ (n:Int) (w:World),0≤n→n≤1000→Rep w t→Calls Tryz.prog 36 #[t.c.val,.int .i64 n] w (LightPost n w)) ?_ t
  intro t ih n w hn0 hn1 hR
  have own:=hR.own
  obtain ⟨Wb,hWb⟩:∃ x,w.alloc (.cells t.c.cells.toArray 29)=x:=⟨_,rfl⟩
  have hb0:Below w.heap.size w Wb:=by rw [← hWb];exact (Below.refl _ _).alloc (Nat.le_refl _) _
  have hsz:Wb.heap.size=w.heap.size+1:=by rw [← hWb];simp
  have hbx:BoxT Wb w.heap.size t.c:=by unfold BoxT;rw [← hWb];exact heap_alloc_new w _
  have HB0:=Lib.hid (fun W (h:Below Wb.heap.size Wb W)=>hb0.trans (h.mono hb0.size))
  have HBX:=Lib.hid (fun W (h:Below Wb.heap.size Wb W)=>hbx.on (h.block _ (by omega)))
  have HK:=Lib.hid (fun W (h:Below w.heap.size w W)=>own.kr.on h)
  have HV:=Lib.hid (fun W (h:Below w.heap.size w W)=>own.vr.on h)
  have HKL:=Lib.hid own.kn
  have HVL:=Lib.hid own.vn
  have KI:=Lib.hid (fun (j:Nat) (hj:j<t.v.length) (z:Int) (W:World) (h0:0≤z) (h1:z≤1000) (h:Below w.heap.size w W)=>ih (t.v.getD j (leafT 0 false ⟨#[]⟩)) (by simp [List.getD,hj]) z W h0 h1 (by
    have hm:t.v.getD j (leafT 0 false ⟨#[]⟩)∈t.v:=by simp [List.getD,hj]
    exact (hR.part hm).on h))
  have hkc:=own.kc;have hvc:=own.vc;have hlm:=own.lm
  have HWB:=Lib.hid (show Below Wb.heap.size Wb (w.alloc (.cells t.c.cells.toArray 29)) by rw [hWb];exact Below.refl _ _)
  have HFN:=Lib.hid (show ∀ W (z:Int),-1≤z→z≤1000→Below Wb.heap.size Wb W→LightPost n w (.returned (.int .i64 z)) W from fun W z h1 h2 h3=>⟨z,rfl,h1,h2,HB0.out W h3⟩)
  have HZ:=Lib.hid hsz
  clear hb0 hsz hbx own hR ih hWb
  generalize t.k=names at *
  generalize t.v=vals at *
  generalize t.m=limbs at *
  generalize t.c=c at *
  obtain ⟨k,b,neg,ma,mn,mc,e,st,ka,kn,kc,va,vn,vc⟩:=c
  unfold Cel.val
  unfold Cel.cells at HWB
  simp only at HWB hkc hvc hlm HKL HVL HK HV
  obtain ⟨hl1,hl2,hl3⟩:=hlm
  have hw1:-9223372036854775808≤n - 1∧n - 1≤9223372036854775807:=by omega
  go_enter Tryz.func36,Tryz.ntmps36
  by_cases g1:(95:Int)<(mn:Int)
  · go_wp2
    go_ret
    exact HFN.out _ _ (by omega) (by omega) HWB.out
  by_cases g2:(2100:Int)<(st.size:Int)
  · go_wp2
    go_ret
    exact HFN.out _ _ (by omega) (by omega) HWB.out
  by_cases g3:(40:Int)<(kn:Int)
  · go_wp2
    go_ret
    exact HFN.out _ _ (by omega) (by omega) HWB.out
  by_cases g4:(40:Int)<(vn:Int)
  · go_wp2
    go_ret
    exact HFN.out _ _ (by omega) (by omega) HWB.out
  go_wp2
  go_loopg [5] kn (fun k i wr=>LN Wb kn k i wr)
  case atStart=>exact ⟨0,Nat.zero_le _,by omega,rfl,HWB.out⟩
  case round =>
    obtain ⟨j,hj,hk,rfl,hb⟩:=hrel
    obtain ⟨c0,c1,c2,c3,c4,c5,c6,c7⟩:=(HBX.out _ hb).cells
    simp only at c0 c1 c2 c3 c4 c5 c6 c7
    have HB:=Lib.hid hb
    clear hb
    by_cases hlt:j<kn
    · obtain ⟨k,rfl⟩:∃ k,gk=k+1:=⟨gk - 1,by omega⟩
      have hjz:(j:Int)<(kn:Int):=by omega
      have hjl:j<names.length:=by rw [HKL.out];exact hlt
      obtain ⟨bk,o,rfl,hbl,hc⟩:=HK.out wr (HB0.out _ HB.out) j (by rw [sv_len];exact hjl)
      rw [sv_get _ _ hjl] at hc
      generalize names.getD j ByteArray.empty=x at *
      by_cases g5:(2100:Int)<(x.size:Int)
      · go_wp2
        go_ret
        exact HFN.out _ _ (by omega) (by omega) HB.out
      · have HN:=Lib.hid (show LN Wb kn k (.int .i64 ((j:Int)+1)) wr from ⟨j+1,by omega,by omega,rfl,HB.out⟩)
        go_wp2
        go_roundg k
        case rel=>exact HN.out
        case measure=>omega
    · have hjz:¬ (j:Int)<(kn:Int):=by omega
      go_wp2
      clear c0 c1 c2 c3 c4 c5 c6 c7 hjz hlt
      go_loopg [1,6] vn (fun k nv i wr=>LV Wb vn k nv i wr)
      case atStart=>exact ⟨0,n - 1,Nat.zero_le _,by omega,rfl,rfl,by omega,by omega,HB.out⟩
      case round =>
        obtain ⟨j,z,hj,hk,rfl,rfl,hz1,hz2,hb⟩:=hrel
        obtain ⟨c0,c1,c2,c3,c4,c5,c6,c7⟩:=(HBX.out _ hb).cells
        simp only at c0 c1 c2 c3 c4 c5 c6 c7
        have HB:=Lib.hid hb
        clear hb
        by_cases hlt:j<vn
        · have hjz:(j:Int)<(vn:Int):=by omega
          by_cases hz0:0≤z
          · obtain ⟨k,rfl⟩:∃ k,gk=k+1:=⟨gk - 1,by omega⟩
            have hjl:j<vals.length:=by rw [HVL.out];exact hlt
            have hrd:=HV.out wr (HB0.out _ HB.out)
            obtain ⟨xbk,xo,rfl,hbl⟩:=hrd.shape (by rw [flat_len,List.length_map];omega)
            obtain ⟨x0,x1,x2,x3,x4,x5,x6,x7⟩:=flat_at hrd j (by rw [List.length_map];omega) (c:=(vals.getD j (leafT 0 false ⟨#[]⟩)).c) (getD_mapc hjl _)
            have K:=KI.out j hjl z wr hz0 hz2 (HB0.out _ HB.out)
            clear hrd
            generalize (vals.getD j (leafT 0 false ⟨#[]⟩)).c=xc at *
            obtain ⟨xk,xb,xneg,xma,xmn,xmc,xe,xs,xka,xkn,xkc,xva,xvn,xvc⟩:=xc
            unfold Cel.val at K
            simp only at K x0 x1 x2 x3 x4 x5 x6 x7
            have KX:=Lib.hid K
            have HN:=Lib.hid (fun (W:World) (z2:Int) (h1:-1≤z2) (h2:z2≤1000) (h:Below wr.heap.size wr W)=>(⟨j+1,z2,by omega,by omega,rfl,rfl,h1,h2,HB.out.trans (h.mono HB.out.size)⟩:LV Wb vn k (.int .i64 z2) (.int .i64 ((j:Int)+1)) W))
            clear K
            go_wp2_with fail
            refine KX.out.mono ?_
            rintro r w2 ⟨z2,rfl,h1,h2,h3⟩
            have HF:=Lib.hid (HN.out w2 z2 h1 h2 h3)
            clear h3
            go_wp2
            go_roundg k
            case rel=>exact HF.out
            case measure=>omega
          · have hz0':z<0:=by omega
            go_wp2
            go_ret
            exact HFN.out _ _ hz1 hz2 HB.out
        · have hjz:¬ (j:Int)<(vn:Int):=by omega
          go_wp2
          go_ret
          exact HFN.out _ _ hz1 hz2 HB.out


end Go.Proofs.YtnacbakcalcgaaaGreatDoor
