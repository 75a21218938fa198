/- Texts of the claim. -/
import Derived.Test.YtnacbakcalcgaaaGreatDoorEs
import Derived.Deep.CutRange
import Derived.Deep.RegionHeldLaw
import Derived.Test.YtnacbakcalcgaaaGreatDoorEp
import Derived.Deep.AppendLies
set_option linter.unusedVariables false
set_option linter.unusedSimpArgs false
set_option maxHeartbeats 4000000
set_option maxRecDepth 100000
namespace Go.Proofs.YtnacbakcalcgaaaGreatDoor
open Go.RowKit Go.Shelf
theorem nodesL_app (l r:List MT):MT.nodesL (l++r)=MT.nodesL l+MT.nodesL r:=by
  induction l with
  | nil=>rw [List.nil_append,MT.nodesL_nil];omega
  | cons t l ih=>rw [List.cons_append,MT.nodesL_cons,MT.nodesL_cons,ih];omega
theorem nodesL_cut (l:List MT) (p j:Nat) (h:p≤j):MT.nodesL (l.take p++l.drop j)≤MT.nodesL l:=by
  have h1:MT.nodesL l=MT.nodesL (l.take p)+MT.nodesL (l.drop p):=by rw [← nodesL_app,List.take_append_drop]
  have h2:MT.nodesL (l.drop p)=MT.nodesL ((l.drop p).take (j - p))+MT.nodesL ((l.drop p).drop (j - p)):=by rw [← nodesL_app,List.take_append_drop]
  rw [List.drop_drop,show p+(j - p)=j by omega] at h2
  rw [nodesL_app]
  omega
structure ObjOk (t:MT):Prop where
  k7:t.c.k=7
  kn:t.c.kn=t.k.length
  vn:t.c.vn=t.v.length
  kv:t.k.length=t.v.length
  le:t.k.length≤300
  ris:Ris t.k
  nums:NumsOk t
  nodes:t.nodes≤2000
structure PlaceOk (t:MT) (s:ByteArray) (p j:Nat) (has:Bool):Prop where
  spl:Spl t.k s p j
  yes:has=true→ixL t.k s=some p∧j=p+1
  no:has=false→ixL t.k s=none∧j=p∧plL t.k s=p
structure UnsetY (t:MT) (p j:Nat) (y:MT):Prop where
  k7:y.c.k=7
  k:y.k=t.k.take p++t.k.drop j
  v:y.v=t.v.take p++t.v.drop j
  kn:y.c.kn=y.k.length
  vn:y.c.vn=y.v.length
  le:y.k.length+j=t.k.length+p
theorem UnsetY.same {t y z:MT} {p j:Nat} (hy:UnsetY t p j y) (hz:UnsetY t p j z):sameM y z=true :=
  sameM_obj hy.k7 hz.k7 (by rw [hy.k,hz.k]) (by rw [hy.v,hz.v]) (by rw [hy.vn,hz.vn,hy.v,hz.v])
theorem UnsetY.nodes {t y:MT} {p j:Nat} (h:ObjOk t) (hpj:p≤j) (hy:UnsetY t p j y):y.nodes≤1000000:=by
  have h1:=nodesL_cut t.v p j hpj
  have h2:=MT.nodes_eq t
  have h3:=h.nodes
  rw [MT.nodes_eq,hy.v]
  omega
theorem UnsetY.back {t y:MT} {s:ByteArray} {p j:Nat} (h:ObjOk t) (hp:PlaceOk t s p j false) (hy:UnsetY t p j y):sameM y t=true:=by
  obtain ⟨h1,h2,h3⟩:=hp.no rfl
  subst h2
  exact sameM_obj hy.k7 h.k7 (by rw [hy.k,List.take_append_drop]) (by rw [hy.v,List.take_append_drop]) (by rw [hy.vn,h.vn,hy.v,List.take_append_drop])
def LightOk (n:Int) (w:World) (e:Ending) (w':World):Prop:=∃ b,e=.returned (.bool b)∧Below w.heap.size w w'
theorem lightB_any (t:MT) (n:Int) (w:World) (h0:0≤n) (h1:n≤1000) (hR:Rep w t) :
    Calls Tryz.prog 13 #[t.c.val,.int .i64 n] w (LightOk n w):=by
  obtain ⟨Wb,hWb⟩:∃ x,w.alloc (.cells t.c.cells.toArray 29)=x:=⟨_,rfl⟩
  have hb0:Below w.heap.size w Wb:=by rw [← hWb];exact (Below.refl _ _).alloc (Nat.le_refl _) _
  have K:=Lib.hid (light_any t n Wb h0 h1 (hR.on hb0))
  have HB0:=Lib.hid hb0
  have hwb:=hWb
  clear hR hb0 hWb
  generalize t.c=c at *
  obtain ⟨k,bo,neg,ma,mn,mc,e,st,ka,kn,kc,va,vn,vc⟩:=c
  unfold Cel.val at K ⊢
  unfold Cel.cells at hwb
  simp only at hwb
  have HWB:=Lib.hid hwb
  clear hwb
  go_enter Tryz.func13,Tryz.ntmps13
  go_wp2_with fail
  rw [HWB.out]
  refine K.out.mono ?_
  rintro r w2 ⟨z,rfl,h2,h3,h4⟩
  have H4:=Lib.hid (HB0.out.trans (h4.mono HB0.out.size))
  clear h4
  go_wp2
  go_ret
  exact ⟨_,rfl,H4.out⟩
def Cel.bare (c:Cel):Cel:=⟨c.k,c.b,c.neg,none,c.mn,0,c.e,c.s,none,c.kn,0,none,c.vn,0⟩
mutual
def MT.bare:MT→MT | .mk c m k v=>.mk c.bare m k (MT.bareL v)
def MT.bareL:List MT→List MT | []=>[] | t::l=>MT.bare t::MT.bareL l
end
theorem MT.bareL_map (l:List MT):MT.bareL l=l.map MT.bare:=by
  induction l with
  | nil=>rw [MT.bareL];rfl
  | cons t l ih=>rw [MT.bareL,ih];rfl
theorem MT.bare_eq (t:MT):t.bare=.mk t.c.bare t.m t.k (t.v.map MT.bare):=by
  obtain ⟨c,m,k,v⟩:=t
  rw [MT.bare,MT.bareL_map];rfl
def Sml (t:MT):Prop:=∀ s,t.sub s→s.c.mn≤1000000∧s.c.kn≤1000000∧s.c.vn≤1000000
theorem Sml.part {t s:MT} (h:Sml t) (hs:s∈t.v):Sml s:=fun u hu=>h u (MT.sub_v hs hu)
def Ind (X:Nat→Prop) (w:World) (P:World→Prop):Prop:=∀ W,w.heap.size≤W.heap.size→(∀ k,k<w.heap.size→¬ X k→W.heap[k]? = w.heap[k]?)→P W
theorem Ind.to {X Y:Nat→Prop} {w w':World} {P Q:World→Prop} (h:Ind X w P) (hs:w.heap.size≤w'.heap.size) (hk:∀ k,k<w.heap.size→¬ X k→w'.heap[k]? = w.heap[k]?) (hy:∀ k,k<w.heap.size→Y k→X k) (hq:∀ W,P W→Q W):Ind Y w' Q :=
  fun W h1 h2=>hq W (h W (Nat.le_trans hs h1) (fun k hlt hx=>(h2 k (Nat.lt_of_lt_of_le hlt hs) (fun hyk=>hx (hy k hlt hyk))).trans (hk k hlt hx)))
theorem Ind.below {X:Nat→Prop} {w w':World} {P:World→Prop} (h:Ind X w P) (hb:Below w.heap.size w w'):Ind X w' P :=
  h.to hb.size (fun k hk _=>hb.block k hk) (fun _ _ h=>h) (fun _ h=>h)
theorem Ind.and {X:Nat→Prop} {w:World} {P Q:World→Prop} (h:Ind X w P) (h2:Ind X w Q):Ind X w (fun W=>P W∧Q W):=fun W a b=>⟨h W a b,h2 W a b⟩
theorem ind_rdv {X:Nat→Prop} {w:World} {ad:Option Addr} {vs:List Value} (h:RdV w ad vs) (hx:∀ a,ad=some a→¬ X a.block):Ind X w (fun W=>RdV W ad vs):=by
  intro W hs hk i hi
  obtain ⟨b,o,e,hlt,hc⟩:=h i hi
  exact ⟨b,o,e,Nat.lt_of_lt_of_le hlt hs,by rw [World.cell?_of_block (w:=w) (hk b hlt (hx _ e))];exact hc⟩
theorem ind_rd {X:Nat→Prop} {w:World} {ad:Option Addr} {xs:List Nat} (h:Rd w ad xs) (hx:∀ a,ad=some a→¬ X a.block):Ind X w (fun W=>Rd W ad xs):=by
  intro W hs hk i hi
  obtain ⟨b,o,e,hlt,hc⟩:=h i hi
  exact ⟨b,o,e,Nat.lt_of_lt_of_le hlt hs,by rw [World.cell?_of_block (w:=w) (hk b hlt (hx _ e))];exact hc⟩
end Go.Proofs.YtnacbakcalcgaaaGreatDoor
