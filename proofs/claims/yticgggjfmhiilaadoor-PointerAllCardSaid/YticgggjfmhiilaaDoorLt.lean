/- Texts of the claim. -/
import Derived.Test.YticgggjfmhiilaaDoorLs
set_option linter.unusedVariables false
set_option linter.unusedSimpArgs false
set_option maxHeartbeats 8000000
set_option maxRecDepth 100000
namespace Go.Proofs.YticgggjfmhiilaaDoor
open Go.RowKit Go.Shelf
structure Obj7 (t:MT):Prop where
  k7:t.k ≠ []→t.c.k=7
  kn:t.c.kn=t.k.length
  vn:t.c.vn=t.k.length
  kv:t.v.length=t.k.length
  le:t.k.length≤100
  ris:Ris t.k
theorem spl_at {N:List ByteArray} {s:ByteArray} {p q i:Nat} (h:Spl N s p q) (hi:i<N.length) :
    (i<p→eqS (N.getD i ByteArray.empty) s=false∧ltS s (N.getD i ByteArray.empty)=false∧ltS (N.getD i ByteArray.empty) s=true) ∧
    (p≤i→i<q→eqS (N.getD i ByteArray.empty) s=true)∧(q≤i→eqS (N.getD i ByteArray.empty) s=false∧ltS s (N.getD i ByteArray.empty)=true∧ltS (N.getD i ByteArray.empty) s=false):=by
  have h1:=h.pq;have h2:=h.qp
  refine ⟨fun hp=>?_,fun h3 h4=>?_,fun h3=>?_⟩
  · have h5:=h.lo i hp
    refine ⟨eqS_no.2 (fun e=>by rw [e] at h5;rw [ltS_irr] at h5;cases h5),?_,h5⟩
    cases h6:ltS s (N.getD i ByteArray.empty)
    · rfl
    · have:=ltS_tr h5 h6;rw [ltS_irr] at this;cases this
  · obtain rfl:i=p:=by omega
    exact eqS_iff.2 (h.mid (by omega))
  · have h5:=h.hi i h3 hi
    refine ⟨eqS_no.2 (fun e=>by rw [e] at h5;rw [ltS_irr] at h5;cases h5),h5,?_⟩
    cases h6:ltS (N.getD i ByteArray.empty) s
    · rfl
    · have:=ltS_tr h5 h6;rw [ltS_irr] at this;cases this
def MRel (Wb:World) (n q p k:Nat) (i:Value) (wr:World):Prop:=∃ j:Nat,j≤n∧n - j≤k∧(q=p+1→j≤p)∧i=.int .i64 (j:Int)∧Below Wb.heap.size Wb wr
def RMem (b:Bool) (w:World) (e:Ending) (w':World):Prop:=∃ c:Cel,e=.returned (.tuple #[c.val,.bool b])∧Below w.heap.size w w'
theorem refMember_any (t:MT) (s:ByteArray) (p q:Nat) (w:World) (hR:Rep w t) (ho:Obj7 t) (hp:Spl t.k s p q) (hs:s.size≤maxLen) :
    Calls Tryd.prog 80 #[t.c.val,.string s] w (RMem (decide (q=p+1)) w):=by
  obtain ⟨Wb,hWb⟩:∃ x,two2 w t.c (leafC 0 false ⟨#[]⟩)=x:=⟨_,rfl⟩
  have HB0:=Lib.hid (show Below w.heap.size w Wb by rw [← hWb];exact two_below2 _ _ _)
  have HBX:=Lib.hid (fun W (h:Below Wb.heap.size Wb W)=>((by rw [← hWb] at h;exact ⟨(two2_box w t.c (leafC 0 false ⟨#[]⟩)).1.on (h.block _ (by rw [two2_size];omega)),(two2_box w t.c (leafC 0 false ⟨#[]⟩)).2.on (h.block _ (by rw [two2_size];omega))⟩):BoxT W w.heap.size t.c∧BoxT W (w.heap.size+1) (leafC 0 false ⟨#[]⟩)))
  have HRR:=Lib.hid (fun W (h:Below Wb.heap.size Wb W)=>(hR.on (HB0.out.trans (h.mono HB0.out.size)):Rep W t))
  obtain ⟨c,hc⟩:∃ c,t.c=c:=⟨_,rfl⟩
  have HK:=Lib.hid (fun W (h:Rep W t)=>h.own.kr)
  have HV:=Lib.hid (fun W (h:Rep W t)=>h.own.vr)
  have HAT:=Lib.hid (fun i (hi:i<t.k.length)=>spl_at hp hi)
  have HVL:=Lib.hid ho.kv
  have hpq:=hp.pq;have hqp:=hp.qp;have hql:=hp.ql
  have h7:0<t.k.length→t.c.k=7:=fun h=>ho.k7 (fun e=>by rw [e] at h;cases h)
  have hkn:=ho.kn;have hvn:=ho.vn;have hle:=ho.le
  rw [hc] at HBX HK HV h7 hkn hvn hWb ⊢
  have HC:=Lib.hid hc
  clear hR ho hp hc
  obtain ⟨k,b0,neg,ma,mn,mc,e,st,ka,kn,kc,va,vn,vc⟩:=c
  simp only at h7 hkn hvn HK HV
  subst hkn hvn
  unfold Cel.val
  unfold two2 Cel.cells leafC at hWb
  simp only at hWb
  have HWB:=Lib.hid hWb
  clear hWb
  have HN300:=Lib.hid hle
  generalize hn:t.k.length=n at *
  have HNL:=Lib.hid hn
  have HK7:=Lib.hid h7
  clear hn h7
  go_enter Tryd.func80,Tryd.ntmps80
  go_wp2_with fail
  rw [HWB.out]
  clear HWB
  go_loopg [6] n (fun k i wr=>MRel Wb n q p k i wr)
  case atStart=>exact ⟨0,Nat.zero_le _,by omega,by omega,rfl,Below.refl _ _⟩
  case round =>
    obtain ⟨j,hj,hk,hjp,rfl,hb⟩:=hrel
    obtain ⟨c0,c1,c2,c3,c4,c5,c6,c7⟩:=(HBX.out _ hb).1.cells
    simp only at c0 c1 c2 c3 c4 c5 c6 c7
    have hvar:=(HBX.out _ hb).2.var
    unfold Var at hvar
    obtain ⟨⟨g0,g1,g2,g3,g4,g5,g6,g7⟩,f0,f1,f2,f3,f4,f5,f6,f7⟩:=hvar
    simp only [leafC] at g0 g1 g2 g3 g4 g5 g6 g7
    have HB:=Lib.hid hb
    have HBOX:=Lib.hid (HBX.out _ hb).2
    have HEND:=Lib.hid (fun cc=>(show Below w.heap.size w (put0 wr (w.heap.size+1) cc) from (HB0.out.trans (hb.mono HB0.out.size)).trans ((put0_but _ _ _).below (by omega) (Nat.le_trans HB0.out.size hb.size))))
    clear hb
    by_cases hlt:j<n
    · obtain rfl:k=7:=HK7.out (by omega)
      obtain ⟨kk,rfl⟩:∃ k,gk=k+1:=⟨gk - 1,by omega⟩
      have hjz:(j:Int)<(n:Int):=by omega
      have hjl:j<t.k.length:=by rw [HNL.out];exact hlt
      have hat:=HAT.out j hlt
      obtain ⟨bk,o,rfl,hbl,hcx⟩:=HK.out wr (HRR.out _ HB.out) j (by rw [sv_len];exact hjl)
      rw [sv_get _ _ hjl] at hcx
      generalize t.k.getD j ByteArray.empty=x at *
      by_cases hjq:j=p∧q=p+1
      · obtain ⟨rfl,hq⟩:=hjq
        have he:=hat.2.1 (Nat.le_refl _) (by omega)
        clear hat
        unfold eqS at he
        have hvl:j<t.v.length:=by rw [HVL.out];exact hlt
        have hrd:=HV.out wr (HRR.out _ HB.out)
        obtain ⟨xbk,xo,rfl,hxl⟩:=hrd.shape (by rw [flat_len,List.length_map];omega)
        obtain ⟨x0,x1,x2,x3,x4,x5,x6,x7⟩:=flat_at hrd j (by rw [List.length_map];omega) (c:=(t.v.getD j (leafT 0 false ⟨#[]⟩)).c) (getD_mapc hvl _)
        clear hrd
        generalize (t.v.getD j (leafT 0 false ⟨#[]⟩)).c=xc at *
        obtain ⟨xk,xb,xneg,xma,xmn,xmc,xe,xs,xka,xkn,xkc,xva,xvn,xvc⟩:=xc
        simp only at x0 x1 x2 x3 x4 x5 x6 x7
        have HD:=Lib.hid (decide_eq_true hq)
        have HE2:=Lib.hid (HEND.out ⟨xk,xb,xneg,xma,xmn,xmc,xe,xs,xka,xkn,xkc,xva,xvn,xvc⟩)
        have hbx:=(put0_box HBOX.out (c:=⟨xk,xb,xneg,xma,xmn,xmc,xe,xs,xka,xkn,xkc,xva,xvn,xvc⟩)).cells
        unfold put0 at hbx HE2
        simp only at hbx HE2
        obtain ⟨d0,d1,d2,d3,d4,d5,d6,d7⟩:=hbx
        clear hq hjp
        go_wp2
        exact bodyPost_ret (v:=.tuple #[.agg #[.int .i64 xk,.bool xb,.bool xneg,.slice xma xmn xmc,.int .i64 xe,.string xs,.slice xka xkn xkc,.slice xva xvn xvc],.bool true]) (by simp [results,Tryd.results80,go_sem,d0,d1,d2,d3,d4,d5,d6,d7]) rfl ⟨⟨xk,xb,xneg,xma,xmn,xmc,xe,xs,xka,xkn,xkc,xva,xvn,xvc⟩,by rw [HD.out];rfl,HE2.out⟩
      · have he:eqS x s=false:=by
          by_cases h1:j<p
          · exact (hat.1 h1).1
          · exact (hat.2.2 (by omega)).1
        clear hat
        unfold eqS at he
        have HN:=Lib.hid (show MRel Wb n q p kk (.int .i64 ((j:Int)+1)) wr from ⟨j+1,by omega,by omega,by omega,rfl,HB.out⟩)
        clear hjp hjq
        have hj100:(j:Int)≤100:=by have:=HN300.out;omega
        go_wp2
        go_roundg kk
        case rel=>exact HN.out
        case measure=>omega
    · have hjz:¬ (j:Int)<(n:Int):=by omega
      have HD:=Lib.hid (show decide (q=p+1)=false from decide_eq_false (by omega))
      have HE2:=Lib.hid (HEND.out (leafC 0 false ⟨#[]⟩))
      have hbx:=(put0_box HBOX.out (c:=leafC 0 false ⟨#[]⟩)).cells
      unfold put0 leafC at hbx HE2
      simp only at hbx HE2
      obtain ⟨d0,d1,d2,d3,d4,d5,d6,d7⟩:=hbx
      clear hjp
      go_wp2
      exact bodyPost_ret (v:=.tuple #[.agg #[.int .i64 0,.bool false,.bool false,.slice none 0 0,.int .i64 0,.string ⟨#[]⟩,.slice none 0 0,.slice none 0 0],.bool false]) (by simp [results,Tryd.results80,go_sem,d0,d1,d2,d3,d4,d5,d6,d7]) rfl ⟨leafC 0 false ⟨#[]⟩,by rw [HD.out];rfl,HE2.out⟩
def objC3 (ka:Option Addr) (kn kc:Nat) (va:Option Addr) (vn vc:Nat):Cel:=⟨7,false,false,none,0,0,0,⟨#[]⟩,ka,kn,kc,va,vn,vc⟩
structure Grw (W2:World) (bu:Nat) (c:Cel) (vK:Value) (nK:Nat) (xK:List Value) (vV:Value) (nV:Nat) (xV:List Value) (W:World):Prop where
  but:But bu W2 W
  lt:bu<W2.heap.size
  box:BoxT W bu c
  ok:W.ownsRow W2.heap.size 9 1 vK nK xK
  ov:W.ownsRow W2.heap.size 28 8 vV nV xV
theorem own_block {w:World} {B:Nat} {e:TypeId} {size:Nat} {v:Value} {n:Nat} {xs:List Value} (h:w.ownsRow B e size v n xs) {k:Nat} (hk:v.ownBlock=some k):B≤k∧∃ cs,w.heap[k]? = some (.cells cs e):=by
  rcases h.2 with ⟨rfl,_⟩ | ⟨g,cap,cur,rfl,hB,hg,_⟩
  · cases hk
  · simp only [Value.ownBlock,Option.some.injEq] at hk
    subst hk
    exact ⟨hB,cur,hg⟩
theorem own_heap {w w':World} {B:Nat} {e:TypeId} {size:Nat} {v:Value} {n:Nat} {xs:List Value} (h:w.ownsRow B e size v n xs) (hb:∀ k,v.ownBlock=some k→w'.heap[k]? = w.heap[k]?):w'.ownsRow B e size v n xs:=by
  refine ⟨h.1,?_⟩
  rcases h.2 with h2 | ⟨g,cap,cur,rfl,hB,hg,rest⟩
  · exact .inl h2
  · exact .inr ⟨g,cap,cur,rfl,hB,by rw [hb g rfl];exact hg,rest⟩
theorem grown_type {w w':World} {B:Nat} {e e':TypeId} {size:Nat} {v:Value} {n:Nat} {xs:List Value} (h:w.ownsRow B e size v n xs) (hg:w.grownBy w' v.ownBlock) {k:Nat} {cs:Array Value} (hk:w.heap[k]? = some (.cells cs e')) (hne:e ≠ e'):w'.heap[k]? = w.heap[k]?:=by
  refine hg.block k (Array.getElem?_eq_some_iff.1 hk).1 (fun he=>?_)
  obtain ⟨_,cs',h2⟩:=own_block h he.symm
  rw [h2] at hk
  simp only [Option.some.injEq,Obj.cells.injEq] at hk
  exact hne hk.2.1
theorem str_ne_tree:(9:TypeId) ≠ 28:=by decide
section
variable {W2 W w' : World} {bu : Nat} {c : Cel} {vK vV : Value} {nK nV : Nat} {xK xV : List Value}
theorem Grw.below (h:Grw W2 bu c vK nK xK vV nV xV W) (hb:Below W.heap.size W w'):Grw W2 bu c vK nK xK vV nV xV w' :=
  ⟨h.but.trans (But.of_below hb),h.lt,h.box.on (hb.block _ h.box.lt),own_onN h.ok hb,own_onN h.ov hb⟩
theorem Grw.alloc (h:Grw W2 bu c vK nK xK vV nV xV W) (o:Obj):Grw W2 bu c vK nK xK vV nV xV (W.alloc o):=h.below ((Below.refl _ _).alloc (Nat.le_refl _) _)
theorem grow_but {W2 W w':World} {bu:Nat} (h:But bu W2 W) {B:Nat} {e:TypeId} {size:Nat} {v:Value} {n:Nat} {xs:List Value} (ho:W.ownsRow W2.heap.size e size v n xs) (hg:W.grownBy w' v.ownBlock):But bu W2 w' :=
  ⟨hg.os.trans h.os,hg.tape.trans h.tape,hg.output.trans h.output,Nat.le_trans h.size hg.size,fun k h1 h2=>by
    rw [hg.block k (Nat.lt_of_lt_of_le h1 h.size) (fun e=>by have:=(own_block ho e.symm).1;omega)];exact h.block k h1 h2⟩
theorem Grw.appK (h:Grw W2 bu c vK nK xK vV nV xV W) {v':Value} {n':Nat} {x':List Value} (ho:w'.ownsRow W2.heap.size 9 1 v' n' x') (hg:W.grownBy w' vK.ownBlock):Grw W2 bu c v' n' x' vV nV xV w' :=
  ⟨grow_but (B:=0) h.but h.ok hg,h.lt,h.box.on (hg.block _ h.box.lt (fun e=>by have:=(own_block h.ok e.symm).1;have:=h.lt;omega)),ho,
    own_heap h.ov (fun k hk=>by obtain ⟨_,cs,h2⟩:=own_block h.ov hk;exact grown_type h.ok hg h2 str_ne_tree)⟩
theorem Grw.appV (h:Grw W2 bu c vK nK xK vV nV xV W) {v':Value} {n':Nat} {x':List Value} (ho:w'.ownsRow W2.heap.size 28 8 v' n' x') (hg:W.grownBy w' vV.ownBlock):Grw W2 bu c vK nK xK v' n' x' w' :=
  ⟨grow_but (B:=0) h.but h.ov hg,h.lt,h.box.on (hg.block _ h.box.lt (fun e=>by have:=(own_block h.ov e.symm).1;have:=h.lt;omega)),
    own_heap h.ok (fun k hk=>by obtain ⟨_,cs,h2⟩:=own_block h.ok hk;exact grown_type h.ov hg h2 str_ne_tree.symm),ho⟩
theorem Grw.litV (h:Grw W2 bu c vK nK xK vV nV xV W) (hg:W.grownBy w' vK.ownBlock) {g:Nat} {cs:Array Value} (hl:W.heap[g]? = some (.cells cs 28)):w'.heap[g]? = some (.cells cs 28):=by
  rw [grown_type h.ok hg hl str_ne_tree];exact hl
theorem set_heap (w:World) (b i k:Nat) (v:Value) (h:k ≠ b):(w.setCell ⟨b,i,none⟩ v).heap[k]? = w.heap[k]?:=by
  simp [World.setCell,Array.getElem?_modify,Ne.symm h]
theorem Grw.set (h:Grw W2 bu c vK nK xK vV nV xV W) (i:Nat) (v:Value) {c':Cel} (hb:BoxT (W.setCell ⟨bu,i,none⟩ v) bu c'):Grw W2 bu c' vK nK xK vV nV xV (W.setCell ⟨bu,i,none⟩ v) :=
  ⟨h.but.trans ((But.refl _ _).setCell _ _),h.lt,hb,
    own_heap h.ok (fun k hk=>set_heap _ _ _ _ _ (by have:=(own_block h.ok hk).1;have:=h.lt;omega)),
    own_heap h.ov (fun k hk=>set_heap _ _ _ _ _ (by have:=(own_block h.ov hk).1;have:=h.lt;omega))⟩
theorem box_set6 {b:Nat} {k:Int} {b0 neg:Bool} {ma:Option Addr} {mn mc:Nat} {e:Int} {st:ByteArray} {ka:Option Addr} {kn kc:Nat} {va:Option Addr} {vn vc:Nat} (h:BoxT W b ⟨k,b0,neg,ma,mn,mc,e,st,ka,kn,kc,va,vn,vc⟩) (ka':Option Addr) (kn' kc':Nat) :
    BoxT (W.setCell ⟨b,6,none⟩ (.slice ka' kn' kc')) b ⟨k,b0,neg,ma,mn,mc,e,st,ka',kn',kc',va,vn,vc⟩:=by
  unfold BoxT at h ⊢
  simp only [World.setCell,Array.getElem?_modify,h]
  simp [Cel.cells]
theorem rd_lit (W:World) (g:Nat) (cs:List Value) (e:TypeId) (h:W.heap[g]? = some (.cells cs.toArray e)):RdV W (some ⟨g,0,none⟩) cs :=
  BlkV.all (e:=e) (by unfold BlkV;exact h)
end
def PCut (W2:World) (bu:Nat) (ks:List ByteArray) (us:List MT) (wx:World):Prop :=
  ∃ ka kc va vc,Grw W2 bu (objC3 ka ks.length kc va us.length vc) (.slice ka ks.length kc) ks.length (sv ks) (.slice va us.length vc) us.length (flat (us.map MT.c)) wx
theorem si2 {A B:Prop} {L:Array Bool} (i a b:Nat) (ha:(i == a)=false) (hb:(i == b)=false) (M:Prop) :
    (M∧((L.setIfInBounds i true).getD a false=false→A)∧((L.setIfInBounds i true).getD b false=false→B)) ↔ (M∧(L.getD a false=false→A)∧(L.getD b false=false→B)):=by
  rw [getD_set_ne false (by simpa using ha),getD_set_ne false (by simpa using hb)]
theorem flat_range {w:World} {b o:Nat} {l:List MT} (h:RdV w (some ⟨b,o,none⟩) (flat (l.map MT.c))) (p:Nat) (hp:p<l.length) {c:Cel} (hc:(l.getD p (leafT 0 false ⟨#[]⟩)).c=c):w.rangeAt b (o+p*8) c.cells:=fun j v hv=>by
  have hj:j<8:=by have:=(List.getElem?_eq_some_iff.1 hv).1;simpa [Cel.cells] using this
  obtain ⟨x0,x1,x2,x3,x4,x5,x6,x7⟩:=flat_at h p (by rw [List.length_map];exact hp) (c:=c) (by rw [← hc];exact getD_mapc hp _)
  unfold Cel.cells at hv
  match j,hj,hv with
  | 0,_,hv=>simp at hv;subst hv;exact x0
  | 1,_,hv=>simp at hv;subst hv;exact x1
  | 2,_,hv=>simp at hv;subst hv;exact x2
  | 3,_,hv=>simp at hv;subst hv;exact x3
  | 4,_,hv=>simp at hv;subst hv;exact x4
  | 5,_,hv=>simp at hv;subst hv;exact x5
  | 6,_,hv=>simp at hv;subst hv;exact x6
  | 7,_,hv=>simp at hv;subst hv;exact x7
theorem box_range {w:World} {b:Nat} {c:Cel} (h:BoxT w b c):w.rangeAt b 0 c.cells:=fun j v hv=>by
  unfold BoxT at h
  simp [World.cell?,h,hv]
theorem take_up {α:Type} (l:List α) (i:Nat) (d:α) (h:i<l.length):l.take (i+1)=l.take i++[l.getD i d]:=by
  rw [List.take_add_one]
  simp [List.getD,h]
theorem sv_at {w:World} {b o:Nat} {l:List ByteArray} (h:RdV w (some ⟨b,o,none⟩) (sv l)) (i:Nat) (hi:i<l.length):w.cell? ⟨b,o+i,none⟩=some (.string (l.getD i ByteArray.empty)):=by
  obtain ⟨b',o',e,_,hc⟩:=h i (by rw [sv_len];exact hi)
  cases e
  rw [sv_get _ _ hi] at hc;exact hc
theorem pcut_of {W2 W:World} {bu:Nat} {ks:List ByteArray} {us:List MT} {x:ByteArray} {y:MT} {ka va:Option Addr} {kc vc:Nat} {c:Cel} (hc:y.c=c)
    (h:Grw W2 bu ⟨7,false,false,none,0,0,0,⟨#[]⟩,ka,ks.length+1,kc,va,us.length+1,vc⟩ (.slice ka (ks.length+1) kc) (ks.length+1) (sv ks++[.string x]) (.slice va (us.length+1) vc) (us.length+1) (flat (us.map MT.c)++c.cells) W):PCut W2 bu (ks++[x]) (us++[y]) W:=by
  refine ⟨ka,kc,va,vc,?_⟩
  have e1:(ks++[x]).length=ks.length+1:=by simp
  have e2:(us++[y]).length=us.length+1:=by simp
  have e3:sv (ks++[x])=sv ks++[.string x]:=by simp [sv]
  have e4:flat ((us++[y]).map MT.c)=flat (us.map MT.c)++c.cells:=by simp [flat,hc]
  rw [e1,e2,e3,e4]
  exact h
end Go.Proofs.YticgggjfmhiilaaDoor
