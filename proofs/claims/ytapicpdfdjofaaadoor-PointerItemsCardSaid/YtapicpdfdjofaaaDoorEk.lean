/- Texts of the claim. -/
import Derived.Test.YtapicpdfdjofaaaDoorEh
import Derived.Deep.RegionHeldLaw
import Derived.Deep.AppendLies
import Derived.Lib.AppendIntMem
set_option linter.unusedVariables false
set_option linter.unusedSimpArgs false
set_option maxHeartbeats 8000000
set_option maxRecDepth 100000
namespace Go.Proofs.YtapicpdfdjofaaaDoor
open Go.RowKit Go.Shelf
theorem nodesL_app (l r:List MT):MT.nodesL (l++r)=MT.nodesL l+MT.nodesL r:=by
  induction l with
  | nil=>rw [List.nil_append,MT.nodesL_nil];omega
  | cons t l ih=>rw [List.cons_append,MT.nodesL_cons,MT.nodesL_cons,ih];omega
theorem nodesL_cut (l:List MT) (p j:Nat) (h:p≤j):MT.nodesL (l.take p++l.drop j)≤MT.nodesL l:=by
  have h1:MT.nodesL l=MT.nodesL (l.take p)+MT.nodesL (l.drop p):=by rw [← nodesL_app,List.take_append_drop]
  have h2:MT.nodesL (l.drop p)=MT.nodesL ((l.drop p).take (j - p))+MT.nodesL ((l.drop p).drop (j - p)):=by rw [← nodesL_app,List.take_append_drop]
  rw [List.drop_drop,show p+(j - p)=j by omega] at h2
  rw [nodesL_app]
  omega
structure ObjOk (t:MT):Prop where
  k7:t.c.k=7
  kn:t.c.kn=t.k.length
  vn:t.c.vn=t.v.length
  kv:t.k.length=t.v.length
  le:t.k.length≤300
  ris:Ris t.k
  nums:NumsOk t
  nodes:t.nodes≤2000
structure UnsetY (t:MT) (p j:Nat) (y:MT):Prop where
  k7:y.c.k=7
  k:y.k=t.k.take p++t.k.drop j
  v:y.v=t.v.take p++t.v.drop j
  kn:y.c.kn=y.k.length
  vn:y.c.vn=y.v.length
  le:y.k.length+j=t.k.length+p
theorem UnsetY.nodes {t y:MT} {p j:Nat} (h:ObjOk t) (hpj:p≤j) (hy:UnsetY t p j y):y.nodes≤1000000:=by
  have h1:=nodesL_cut t.v p j hpj
  have h2:=MT.nodes_eq t
  have h3:=h.nodes
  rw [MT.nodes_eq,hy.v]
  omega
def Sml (t:MT):Prop:=∀ s,t.sub s→s.c.mn≤1000000∧s.c.kn≤1000000∧s.c.vn≤1000000
theorem Sml.part {t s:MT} (h:Sml t) (hs:s∈t.v):Sml s:=fun u hu=>h u (MT.sub_v hs hu)
def Ind (X:Nat→Prop) (w:World) (P:World→Prop):Prop:=∀ W,w.heap.size≤W.heap.size→(∀ k,k<w.heap.size→¬ X k→W.heap[k]? = w.heap[k]?)→P W
theorem Ind.to {X Y:Nat→Prop} {w w':World} {P Q:World→Prop} (h:Ind X w P) (hs:w.heap.size≤w'.heap.size) (hk:∀ k,k<w.heap.size→¬ X k→w'.heap[k]? = w.heap[k]?) (hy:∀ k,k<w.heap.size→Y k→X k) (hq:∀ W,P W→Q W):Ind Y w' Q :=
  fun W h1 h2=>hq W (h W (Nat.le_trans hs h1) (fun k hlt hx=>(h2 k (Nat.lt_of_lt_of_le hlt hs) (fun hyk=>hx (hy k hlt hyk))).trans (hk k hlt hx)))
theorem Ind.below {X:Nat→Prop} {w w':World} {P:World→Prop} (h:Ind X w P) (hb:Below w.heap.size w w'):Ind X w' P :=
  h.to hb.size (fun k hk _=>hb.block k hk) (fun _ _ h=>h) (fun _ h=>h)
theorem box_set {w:World} {b:Nat} {k:Int} {b0 neg:Bool} {ma:Option Addr} {mn mc:Nat} {e:Int} {st:ByteArray} {ka:Option Addr} {kn kc:Nat} {va:Option Addr} {vn vc:Nat} (h:BoxT w b ⟨k,b0,neg,ma,mn,mc,e,st,ka,kn,kc,va,vn,vc⟩) (va':Option Addr) (vn' vc':Nat) :
    BoxT (w.setCell ⟨b,7,none⟩ (.slice va' vn' vc')) b ⟨k,b0,neg,ma,mn,mc,e,st,ka,kn,kc,va',vn',vc'⟩:=by
  unfold BoxT at h ⊢
  simp only [World.setCell,Array.getElem?_modify,h]
  simp [Cel.cells]
def placeM (t:MT) (s:ByteArray):Option Nat :=
  if t.c.k=7 then (if 0≤Lib.idxOfS t.k s∧Lib.idxOfS t.k s<(t.c.vn:Int) then some (Lib.idxOfS t.k s).toNat else none)
  else if t.c.k=6 then idxL s.data.toList ((t.c.vn:Int) - 1) else none
theorem placeM_lt {t:MT} {s:ByteArray} {j:Nat} (h:placeM t s=some j):j<t.c.vn:=by
  unfold placeM at h
  split at h
  · split at h
    · rename_i h2;simp at h;omega
    · cases h
  · split at h
    · have:=idxL_lt h;omega
    · cases h
def PlP (t:MT) (s:ByteArray) (w:World) (e:Ending) (w':World):Prop :=
  ∃ i:Int,e=.returned (.tuple #[.int .i64 i,.bool (placeM t s).isSome])∧(∀ j,placeM t s=some j→i=(j:Int))∧Below w.heap.size w w'
theorem place_t (t:MT) (s:ByteArray) (w:World) (hR:Rep w t) (hs:s.size≤4000000000000) :
    Calls Tryd.prog 47 #[t.c.val,.string s] w (PlP t s w):=by
  have own:=hR.own
  obtain ⟨Wb,hWb⟩:∃ x,w.alloc (.cells t.c.cells.toArray 28)=x:=⟨_,rfl⟩
  have hb0:Below w.heap.size w Wb:=by rw [← hWb];exact (Below.refl _ _).alloc (Nat.le_refl _) _
  have hbx:BoxT Wb w.heap.size t.c:=by unfold BoxT;rw [← hWb];exact heap_alloc_new w _
  have hlm:=own.lm
  have hkc:=own.kc
  have KI:=Lib.hid (fun W=>ptIndex_any s ((t.c.vn:Int) - 1) W (by omega) hs)
  have hidx:Calls Tryd.prog 64 #[.slice t.c.ka t.c.kn t.c.kc,.string s] Wb fun e w'=>e=.returned (.int .i64 (Lib.idxOfS t.k s))∧w'=Wb:=by
    have hkr:=own.kr.on hb0
    have hkn:=own.kn
    cases hn:t.c.kn with
    | zero =>
      have:t.k=[]:=List.eq_nil_of_length_eq_zero (by omega)
      rw [this]
      exact Tryd.slices_Index_string_empty t.c.ka t.c.kc s Wb
    | succ m =>
      obtain ⟨b,o,e,_⟩:=hkr.shape (by rw [sv_len];omega)
      rw [e] at hkr
      have:=Tryd.slices_Index_string b o (m+1) t.c.kc t.k s Wb (by omega) (by omega) (fun j hj=>by rw [hkr.at j (by rw [sv_len];exact hj),sv_get _ _ hj])
      rw [List.take_of_length_le (by omega)] at this
      rw [e]
      exact this
  have KX:=Lib.hid hidx
  have HB:=Lib.hid hb0
  have HWB:=Lib.hid hWb
  have HBX:=Lib.hid hbx
  have hpl:placeM t s=placeM t s:=rfl
  conv at hpl=>rhs;unfold placeM
  have HPL:=Lib.hid hpl
  obtain ⟨c0,c1,c2,c3,c4,c5,c6,c7⟩:=hbx.cells
  clear own hR hidx hpl hbx hb0 hWb
  generalize Lib.idxOfS t.k s=ix at *
  obtain ⟨pm,hpm⟩:∃ p,placeM t s=p:=⟨_,rfl⟩
  have HFN:=Lib.hid (fun (i:Int) (b:Bool) W (h1:pm.isSome=b) (h2:∀ j,pm=some j→i=(j:Int)) (h3:Below w.heap.size w W)=>(show PlP t s w (.returned (.tuple #[.int .i64 i,.bool b])) W from ⟨i,by rw [hpm,h1],by rw [hpm];exact h2,h3⟩))
  rw [hpm] at HPL
  clear hpm
  generalize t.c=c at *
  obtain ⟨k,b0,neg,ma,mn,mc,e,st,ka,kn,kc,va,vn,vc⟩:=c
  unfold Cel.val
  unfold Cel.cells at HWB
  simp only at HWB KI KX HPL c0 c1 c2 c3 c4 c5 c6 c7 hlm
  obtain ⟨hl1,hl2,hl3⟩:=hlm
  by_cases k7:k=7
  · subst k7
    rw [if_pos rfl] at HPL
    go_enter Tryd.func47,Tryd.ntmps47
    go_wp2_with fail
    rw [HWB.out]
    refine KX.out.mono ?_
    rintro r w2 ⟨rfl,rfl⟩
    by_cases h0:0≤ix
    · have d0:decide ((0:Int)≤ix)=true:=decide_eq_true h0
      by_cases h1:ix<(vn:Int)
      · rw [if_pos ⟨h0,h1⟩] at HPL
        have d1:decide (ix<(vn:Int))=true:=decide_eq_true h1
        have HF:=Lib.hid (fun q=>HFN.out ix true (w2.drewN q) (by rw [HPL.out];rfl) (fun j hj=>by rw [HPL.out] at hj;simp at hj;omega) (below_drewN HB.out q))
        go_wp2
        go_quiet (fail)
        go_wp2
        go_ret2
        exact HF.out _
      · rw [if_neg (fun h=>h1 h.2)] at HPL
        have d1:decide (ix<(vn:Int))=false:=decide_eq_false h1
        have HF:=Lib.hid (fun q=>HFN.out ix false (w2.drewN q) (by rw [HPL.out];rfl) (fun j hj=>by rw [HPL.out] at hj;cases hj) (below_drewN HB.out q))
        go_wp2
        go_quiet (fail)
        go_wp2
        go_ret2
        exact HF.out _
    · rw [if_neg (fun h=>h0 h.1)] at HPL
      have d0:decide ((0:Int)≤ix)=false:=decide_eq_false h0
      have HF:=Lib.hid (fun q=>HFN.out ix false (w2.drewN q) (by rw [HPL.out];rfl) (fun j hj=>by rw [HPL.out] at hj;cases hj) (below_drewN HB.out q))
      go_wp2
      go_quiet (fail)
      go_wp2
      go_ret2
      exact HF.out _
  · rw [if_neg k7] at HPL
    by_cases k6:k=6
    · subst k6
      rw [if_pos rfl] at HPL
      have hx1:-9223372036854775808≤(vn:Int) - 1∧(vn:Int) - 1≤9223372036854775807:=by omega
      go_enter Tryd.func47,Tryd.ntmps47
      go_wp2_with fail
      rw [HWB.out]
      refine (KI.out _).mono ?_
      rintro r w2 ⟨rfl,h2⟩
      have HF:=Lib.hid (HFN.out (idxV (idxL s.data.toList ((vn:Int) - 1))) (idxL s.data.toList ((vn:Int) - 1)).isSome w2 (by rw [HPL.out]) (fun j hj=>by rw [← HPL.out,hj];rfl) (HB.out.trans (h2.mono HB.out.size)))
      clear h2
      generalize idxV (idxL s.data.toList ((vn:Int) - 1))=iv at *
      generalize (idxL s.data.toList ((vn:Int) - 1)).isSome=bv at *
      go_wp2
      go_ret2
      exact HF.out
    · rw [if_neg k6] at HPL
      have HF:=Lib.hid (HFN.out 0 false Wb (by rw [HPL.out];rfl) (fun j hj=>by rw [HPL.out] at hj;cases hj) HB.out)
      go_enter Tryd.func47,Tryd.ntmps47
      go_wp2_with fail
      rw [HWB.out]
      go_ret2
      exact HF.out
def stepM (t:MT) (s:ByteArray):Option MT:=(placeM t s).map fun j=>t.v.getD j (leafT 0 false ⟨#[]⟩)
def getM (t:MT):List ByteArray→Option MT
  | []=>some t
  | s::r=>(stepM t s).bind fun u=>getM u r
theorem getM_append (a b:List ByteArray):∀ t,getM t (a++b)=(getM t a).bind fun u=>getM u b:=by
  induction a with
  | nil=>intro t;rfl
  | cons s a ih =>
    intro t
    rw [List.cons_append,getM,getM]
    cases stepM t s with
    | none=>rfl
    | some u=>exact ih u
theorem stepM_rep {w:World} {t u:MT} {s:ByteArray} (hR:Rep w t) (h:stepM t s=some u):Rep w u:=by
  unfold stepM at h
  cases e:placeM t s with
  | none=>rw [e] at h;cases h
  | some j =>
    rw [e] at h
    have hj:=placeM_lt e
    have hv:=hR.own.vn
    simp at h
    subst h
    exact hR.part (by simp [show j<t.v.length by omega])
theorem getM_rep {w:World}:∀ (l:List ByteArray) {t u:MT},Rep w t→getM t l=some u→Rep w u:=by
  intro l
  induction l with
  | nil=>intro t u hR h;simp [getM] at h;subst h;exact hR
  | cons s l ih =>
    intro t u hR h
    rw [getM] at h
    cases e:stepM t s with
    | none=>rw [e] at h;cases h
    | some x=>rw [e] at h;exact ih (stepM_rep hR e) h
def zeroV:Value:=.agg #[.int .i64 0,.bool false,.bool false,.slice none 0 0,.int .i64 0,.string ⟨#[]⟩,.slice none 0 0,.slice none 0 0]
def GetP (t:MT) (l:List ByteArray) (w:World) (e:Ending) (w':World):Prop :=
  ((∃ u,getM t l=some u∧e=.returned (.tuple #[u.c.val,.bool true]))∨(getM t l=none∧e=.returned (.tuple #[zeroV,.bool false])))∧Below w.heap.size w w'
def GtI (t:MT) (l:List ByteArray) (w:World) (b n k:Nat) (i:Value) (wr:World):Prop :=
  ∃ (j:Nat) (u:MT),j≤n∧n - j≤k∧i=.int .i64 (j:Int)∧getM t (l.take j)=some u∧BoxT wr b u.c∧BoxT wr (b+1) (leafC 0 false ⟨#[]⟩)∧Below w.heap.size w wr
theorem get_t (t:MT) (ad:Option Addr) (n cap:Nat) (l:List ByteArray) (w:World) (hR:Rep w t) (hl:l.length=n) (hr:RdV w ad (sv l)) (hn:n≤1000000000000000) (hcap:n≤cap) (hs:∀ x∈l,x.size≤4000000000000) :
    Calls Tryd.prog 22 #[t.c.val,.slice ad n cap] w (GetP t l w):=by
  obtain ⟨Wb,hWb⟩:∃ x,two2 w t.c (leafC 0 false ⟨#[]⟩)=x:=⟨_,rfl⟩
  have hb0:Below w.heap.size w Wb:=by rw [← hWb];exact two_below2 _ _ _
  have hb2:BoxT Wb w.heap.size t.c∧BoxT Wb (w.heap.size+1) (leafC 0 false ⟨#[]⟩):=by rw [← hWb];exact two2_box w t.c (leafC 0 false ⟨#[]⟩)
  have HST:=Lib.hid (show GtI t l w w.heap.size n n (.int .i64 0) Wb from ⟨0,t,by omega,by omega,rfl,by simp [getM],hb2.1,hb2.2,hb0⟩)
  have HRR:=Lib.hid (fun W (h:Below w.heap.size w W)=>(hR.on h:Rep W t))
  have HPR:=Lib.hid (fun W (h:Below w.heap.size w W)=>hr.on h)
  have HL:=Lib.hid hl
  have HS:=Lib.hid hs
  obtain ⟨b,hb⟩:∃ b,w.heap.size=b:=⟨_,rfl⟩
  have HBB:=Lib.hid hb
  clear hR hr hs hl hb0 hb2
  generalize hc:t.c=c at *
  obtain ⟨zk,zb,zneg,zma,zmn,zmc,ze,zs,zka,zkn,zkc,zva,zvn,zvc⟩:=c
  unfold Cel.val
  unfold two2 Cel.cells leafC at hWb
  simp only at hWb
  have HWB:=Lib.hid hWb
  clear hWb hc
  go_enter Tryd.func22,Tryd.ntmps22
  go_wp2_with fail
  rw [HWB.out]
  rw [hb] at HST
  clear HWB hb
  go_loopg [12] n (fun k i wr=>GtI t l w b n k i wr)
  case atStart=>exact HST.out
  case round =>
    clear HST
    obtain ⟨j,u,hj,hk,rfl,hg,hx1,hx2,hbw⟩:=hrel
    have HG:=Lib.hid hg
    have HBW:=Lib.hid hbw
    have hur:=getM_rep _ (HRR.out wr hbw) hg
    have HX1:=Lib.hid hx1
    have HX2:=Lib.hid hx2
    obtain ⟨c0,c1,c2,c3,c4,c5,c6,c7⟩:=hx1.cells
    clear hg hx1 hx2 hbw
    by_cases hlt:j<n
    · obtain ⟨k,rfl⟩:∃ k,gk=k+1:=⟨gk - 1,by omega⟩
      have hjz:(j:Int)<(n:Int):=by omega
      have hjl:j<l.length:=by rw [HL.out];exact hlt
      obtain ⟨bk,o,rfl,_,hcx⟩:=HPR.out wr HBW.out j (by rw [sv_len];exact hjl)
      rw [sv_get _ _ hjl] at hcx
      have htk:l.take (j+1)=l.take j++[l.getD j ByteArray.empty]:=by rw [List.take_add_one];simp [List.getD,hjl]
      have hdr:l=l.take j++l.getD j ByteArray.empty::l.drop (j+1):=by
        conv=>lhs;rw [← List.take_append_drop j l,List.drop_eq_getElem_cons hjl]
        simp [List.getD,hjl]
      have hxs:=HS.out (l.getD j ByteArray.empty) (by simp [List.getD,hjl])
      generalize l.getD j ByteArray.empty=x at *
      have HGS:=Lib.hid (show getM t (l.take (j+1))=stepM u x by rw [htk,getM_append,HG.out];simp [getM])
      have HGN:=Lib.hid (fun (h:stepM u x=none)=>(show getM t l=none by rw [hdr,getM_append,HG.out];simp [getM,h]))
      have KPL:=Lib.hid (place_t u x wr hur hxs)
      have HUR:=Lib.hid (fun W (h:Below wr.heap.size wr W)=>hur.on h)
      clear htk hdr hur
      generalize hc:u.c=c at *
      have HC:=Lib.hid hc
      clear hc
      obtain ⟨uk,ub,uneg,uma,umn,umc,ue,us,uka,ukn,ukc,uva,uvn,uvc⟩:=c
      unfold Cel.val at KPL
      simp only at c0 c1 c2 c3 c4 c5 c6 c7
      go_wp2_with fail
      refine KPL.out.mono ?_
      rintro r w5 ⟨i,rfl,hi,h5⟩
      have hx1:=HX1.out.on (h5.block _ HX1.out.lt)
      have hx2:=HX2.out.on (h5.block _ HX2.out.lt)
      have hb5:=HBW.out.trans (h5.mono HBW.out.size)
      have hur:=HUR.out _ h5
      clear c0 c1 c2 c3 c4 c5 c6 c7 KPL h5
      cases hpm:placeM u x with
      | none =>
        have HE:=Lib.hid (show GetP t l w (.returned (.tuple #[zeroV,.bool false])) (put0 w5 (b+1) (leafC 0 false ⟨#[]⟩)) from ⟨.inr ⟨HGN.out (by unfold stepM;rw [hpm];rfl),rfl⟩,hb5.trans ((put0_but _ _ _).below (by have:=HBB.out;omega) hb5.size)⟩)
        obtain ⟨⟨g0,g1,g2,g3,g4,g5,g6,g7⟩,f0,f1,f2,f3,f4,f5,f6,f7⟩:=hx2.var
        have hbx:=(put0_box hx2 (c:=leafC 0 false ⟨#[]⟩)).cells
        unfold put0 leafC at hbx HE
        unfold zeroV at HE
        simp only [leafC] at hbx HE g0 g1 g2 g3 g4 g5 g6 g7
        obtain ⟨d0,d1,d2,d3,d4,d5,d6,d7⟩:=hbx
        clear hx1 hx2 hb5 hur hi
        go_wp2
        exact bodyPost_ret (v:=.tuple #[.agg #[.int .i64 0,.bool false,.bool false,.slice none 0 0,.int .i64 0,.string ⟨#[]⟩,.slice none 0 0,.slice none 0 0],.bool false]) (by simp [results,Tryd.results22,go_sem,d0,d1,d2,d3,d4,d5,d6,d7]) rfl HE.out
      | some q =>
        obtain rfl:i=(q:Int):=hi q hpm
        have hq:=placeM_lt hpm
        rw [HC.out] at hq
        simp only at hq
        have hqz:(q:Int)<(uvn:Int):=by omega
        have hvn:=hur.own.vn
        rw [HC.out] at hvn
        simp only at hvn
        have hqv:q<u.v.length:=by omega
        have hrd:=hur.own.vr
        rw [HC.out] at hrd
        simp only at hrd
        have hvm:=hur.own.lm.2.2
        rw [HC.out] at hvm
        simp only at hvm
        obtain ⟨xbk,xo,rfl,hxl⟩:=hrd.shape (by rw [flat_len,List.length_map];omega)
        obtain ⟨x0,x1,x2,x3,x4,x5,x6,x7⟩:=flat_at hrd q (by rw [List.length_map];omega) (c:=(u.v.getD q (leafT 0 false ⟨#[]⟩)).c) (getD_mapc hqv _)
        have HN:=Lib.hid (show GtI t l w b n k (.int .i64 ((j:Int)+1)) (put0 w5 b (u.v.getD q (leafT 0 false ⟨#[]⟩)).c) from ⟨j+1,u.v.getD q (leafT 0 false ⟨#[]⟩),by omega,by omega,rfl,by rw [HGS.out];unfold stepM;rw [hpm];rfl,put0_box hx1,hx2.on ((put0_but w5 b _).block _ hx2.lt (by omega)),hb5.trans ((put0_but _ _ _).below (by have:=HBB.out;omega) hb5.size)⟩)
        obtain ⟨⟨g0,g1,g2,g3,g4,g5,g6,g7⟩,f0,f1,f2,f3,f4,f5,f6,f7⟩:=hx1.var
        clear hrd hx1 hx2 hb5 hur hi hvn
        generalize (u.v.getD q (leafT 0 false ⟨#[]⟩)).c=xc at *
        obtain ⟨xk,xb,xneg,xma,xmn,xmc,xe,xs,xka,xkn,xkc,xva,xvn,xvc⟩:=xc
        simp only at x0 x1 x2 x3 x4 x5 x6 x7 g0 g1 g2 g3 g4 g5 g6 g7
        unfold put0 at HN
        simp only at HN
        go_wp2
        go_roundg k
        case rel=>exact HN.out
        case measure=>omega
    · obtain rfl:j=n:=by omega
      have hjz:¬ (j:Int)<(j:Int):=by omega
      have hal:l.take j=l:=by rw [← HL.out];exact List.take_length
      have HG2:=Lib.hid (show getM t l=some u by rw [← hal];exact HG.out)
      obtain ⟨⟨g0,g1,g2,g3,g4,g5,g6,g7⟩,f0,f1,f2,f3,f4,f5,f6,f7⟩:=HX2.out.var
      have HE:=Lib.hid (show GetP t l w (.returned (.tuple #[u.c.val,.bool true])) (put0 wr (b+1) u.c) from ⟨.inl ⟨u,HG2.out,rfl⟩,HBW.out.trans ((put0_but _ _ _).below (by have:=HBB.out;omega) HBW.out.size)⟩)
      have hbx:=(put0_box HX2.out (c:=u.c)).cells
      clear hal hur
      generalize u.c=c at *
      obtain ⟨uk,ub,uneg,uma,umn,umc,ue,us,uka,ukn,ukc,uva,uvn,uvc⟩:=c
      unfold put0 at hbx HE
      unfold Cel.val at HE
      simp only [leafC] at hbx HE g0 g1 g2 g3 g4 g5 g6 g7 c0 c1 c2 c3 c4 c5 c6 c7
      obtain ⟨d0,d1,d2,d3,d4,d5,d6,d7⟩:=hbx
      go_wp2
      exact bodyPost_ret (v:=.tuple #[.agg #[.int .i64 uk,.bool ub,.bool uneg,.slice uma umn umc,.int .i64 ue,.string us,.slice uka ukn ukc,.slice uva uvn uvc],.bool true]) (by simp [results,Tryd.results22,go_sem,d0,d1,d2,d3,d4,d5,d6,d7]) rfl HE.out
def decP (n:Nat):List UInt8:=if h:n<10 then [48+UInt8.ofNat n] else decP (n / 10)++[48+UInt8.ofNat (n % 10)]
termination_by n
decreasing_by omega
theorem decP_lt {n:Nat} (h:n<10):decP n=[48+UInt8.ofNat n]:=by rw [decP,dif_pos h]
theorem decP_ge {n:Nat} (h:10≤n):decP n=decP (n / 10)++[48+UInt8.ofNat (n % 10)]:=by rw [decP,dif_neg (by omega)]
def dS (n:Nat):ByteArray:=mkB (decP n)
theorem dig_cut (a:Nat) (h:a<10):(⟨#[48,49,50,51,52,53,54,55,56,57]⟩:ByteArray).extract a (a+1)=⟨#[48+UInt8.ofNat a]⟩:=by
  have:∀ a,a<10→(⟨#[48,49,50,51,52,53,54,55,56,57]⟩:ByteArray).extract a (a+1)=⟨#[48+UInt8.ofNat a]⟩:=by decide +kernel
  exact this a h
def DcI (n:Nat) (w:World) (k:Nat) (vv sv':Value) (wr:World):Prop :=
  ∃ (m:Nat) (s:ByteArray),m≤k∧m≤n∧vv=.int .i64 (m:Int)∧sv'=.string s∧decP n=decP m++s.data.toList∧s.size≤1000 - m∧wr=w
theorem dec_any (n:Nat) (w:World) (hn:n≤900):Calls Tryd.prog 32 #[.int .i64 (n:Int)] w fun e w'=>e=.returned (.string (dS n))∧w'=w:=by
  have hn0:(n:Int)≤900:=by omega
  have HN:=Lib.hid hn
  go_enter Tryd.func32,Tryd.ntmps32
  go_wp2
  go_loopg [0,3] n (fun k v s wr=>DcI n w k v s wr)
  case atStart=>exact ⟨n,⟨#[]⟩,Nat.le_refl _,Nat.le_refl _,rfl,rfl,by simp,by simp [ByteArray.size],rfl⟩
  case round =>
    obtain ⟨m,s,hm,hmn,rfl,rfl,hd,hs,rfl⟩:=hrel
    by_cases h10:10≤m
    · obtain ⟨k,rfl⟩:∃ k,gk=k+1:=⟨gk - 1,by omega⟩
      have hz:(10:Int)≤(m:Int):=by omega
      have ht:Int.tmod (m:Int) 10=((m % 10:Nat):Int):=by rw [Int.tmod_eq_emod_of_nonneg (by omega)];omega
      have hq:Int.tdiv (m:Int) 10=((m / 10:Nat):Int):=by rw [Int.tdiv_eq_ediv_of_nonneg (by omega)];omega
      have hr:=decP_ge h10
      have hlt:m % 10<10:=Nat.mod_lt _ (by decide)
      generalize hmr:m % 10=r at *
      generalize hmq:m / 10=q at *
      have hx0:(0:Int)≤(r:Int)∧(r:Int)≤(r:Int)+1:=by omega
      have hx1:(r:Int)+1≤10:=by omega
      have hcut:=dig_cut r hlt
      have hz2:¬ 9223372036854775807<1+s.size:=by omega
      have HN2:=Lib.hid (show DcI n wr k (.int .i64 (q:Int)) (.string ((⟨#[48+UInt8.ofNat r]⟩:ByteArray)++s)) wr from
        ⟨q,_,by omega,by omega,rfl,rfl,by rw [hd,hr,ByteArray.data_append];simp,by rw [ByteArray.size_append];have:(⟨#[48+UInt8.ofNat r]⟩:ByteArray).size=1:=rfl;omega,rfl⟩)
      have hqw:-9223372036854775808≤(q:Int)∧(q:Int)≤9223372036854775807:=by omega
      clear hd hr hmr hmq
      go_wp2
      go_roundg k
      case rel=>exact HN2.out
      case measure=>omega
    · have hz:¬ (10:Int)≤(m:Int):=by omega
      have hr:=decP_lt (show m<10 by omega)
      have hcut:=dig_cut m (by omega)
      have hx0:(0:Int)≤(m:Int)∧(m:Int)≤(m:Int)+1:=by omega
      have hx1:(m:Int)+1≤10:=by omega
      have hz2:¬ 9223372036854775807<1+s.size:=by omega
      have HF:=Lib.hid (show ((⟨#[48+UInt8.ofNat m]⟩:ByteArray)++s)=dS n by
        unfold dS;rw [hd,hr];unfold mkB
        apply ByteArray.ext
        rw [ByteArray.data_append];simp)
      clear hd hr
      go_wp2
      go_ret
      exact ⟨by rw [← HF.out];rfl,rfl⟩
def chkItem (n:Nat):Bool :=
  (idxF 0 (decP n) == some n) && ((decP n).length≤3 && ((decP n).getD 0 0 ≠ 48 || n=0)) && (idxL (48::decP n) 9999).isNone && (idxL (43::decP n) 9999).isNone && (idxL (decP n++[46]) 9999).isNone && (idxL (32::decP n) 9999).isNone
theorem chk_all:∀ n,n<150→chkItem n=true:=by decide +kernel
structure PathV where
  ad:Option Addr
  n:Nat
  cap:Nat
  l:List ByteArray
def PathV.val (p:PathV):Value:=.slice p.ad p.n p.cap
structure PathV.Ok (w:World) (p:PathV):Prop where
  ln:p.l.length=p.n
  lc:p.n≤p.cap
  lm:p.n≤9223372036854775807
  rd:RdV w p.ad (sv p.l)
theorem PathV.Ok.on {w w':World} {p:PathV} (h:p.Ok w) (hb:Below w.heap.size w w'):p.Ok w':=⟨h.ln,h.lc,h.lm,h.rd.on hb⟩

end Go.Proofs.YtapicpdfdjofaaaDoor
namespace Go.Proofs.YtapicpdfdjofaaaDoor
open Go.RowKit Go.Sort
open Go.RowKit Go.Sort
def TB (w:World):Prop:=Lib.TabIs Tryd.prog w "internal/strconv.uint64pow10" .u64 Lib.pow10Tab
theorem TB.below {w w':World} (h:TB w) (hb:Below w.heap.size w w'):TB w':=Lib.tabBelow_of_tabIs h w' hb
end Go.Proofs.YtapicpdfdjofaaaDoor
