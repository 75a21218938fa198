/- Texts of the claim. -/
import Derived.Test.YticgggjfmhiilaaDoorLj
import Derived.Deep.AppendLies
set_option linter.unusedVariables false
set_option linter.unusedSimpArgs false
set_option maxHeartbeats 4000000
set_option maxRecDepth 100000
namespace Go.Proofs.YticgggjfmhiilaaDoor
open Go.RowKit Go.Shelf
theorem nodesL_app (l r:List MT):MT.nodesL (l++r)=MT.nodesL l+MT.nodesL r:=by
  induction l with
  | nil=>rw [List.nil_append,MT.nodesL_nil];omega
  | cons t l ih=>rw [List.cons_append,MT.nodesL_cons,MT.nodesL_cons,ih];omega
theorem nodesL_cut (l:List MT) (p j:Nat) (h:p≤j):MT.nodesL (l.take p++l.drop j)≤MT.nodesL l:=by
  have h1:MT.nodesL l=MT.nodesL (l.take p)+MT.nodesL (l.drop p):=by rw [← nodesL_app,List.take_append_drop]
  have h2:MT.nodesL (l.drop p)=MT.nodesL ((l.drop p).take (j - p))+MT.nodesL ((l.drop p).drop (j - p)):=by rw [← nodesL_app,List.take_append_drop]
  rw [List.drop_drop,show p+(j - p)=j by omega] at h2
  rw [nodesL_app]
  omega
structure ObjOk (t:MT):Prop where
  k7:t.c.k=7
  kn:t.c.kn=t.k.length
  vn:t.c.vn=t.v.length
  kv:t.k.length=t.v.length
  le:t.k.length≤300
  ris:Ris t.k
  nums:NumsOk t
  nodes:t.nodes≤2000
structure UnsetY (t:MT) (p j:Nat) (y:MT):Prop where
  k7:y.c.k=7
  k:y.k=t.k.take p++t.k.drop j
  v:y.v=t.v.take p++t.v.drop j
  kn:y.c.kn=y.k.length
  vn:y.c.vn=y.v.length
  le:y.k.length+j=t.k.length+p
theorem UnsetY.nodes {t y:MT} {p j:Nat} (h:ObjOk t) (hpj:p≤j) (hy:UnsetY t p j y):y.nodes≤1000000:=by
  have h1:=nodesL_cut t.v p j hpj
  have h2:=MT.nodes_eq t
  have h3:=h.nodes
  rw [MT.nodes_eq,hy.v]
  omega
def Cel.bare (c:Cel):Cel:=⟨c.k,c.b,c.neg,none,c.mn,0,c.e,c.s,none,c.kn,0,none,c.vn,0⟩
mutual
def MT.bare:MT→MT | .mk c m k v=>.mk c.bare m k (MT.bareL v)
def MT.bareL:List MT→List MT | []=>[] | t::l=>MT.bare t::MT.bareL l
end
theorem MT.bareL_map (l:List MT):MT.bareL l=l.map MT.bare:=by
  induction l with
  | nil=>rw [MT.bareL];rfl
  | cons t l ih=>rw [MT.bareL,ih];rfl
theorem MT.bare_eq (t:MT):t.bare=.mk t.c.bare t.m t.k (t.v.map MT.bare):=by
  obtain ⟨c,m,k,v⟩:=t
  rw [MT.bare,MT.bareL_map];rfl
def Sml (t:MT):Prop:=∀ s,t.sub s→s.c.mn≤1000000∧s.c.kn≤1000000∧s.c.vn≤1000000
theorem Sml.part {t s:MT} (h:Sml t) (hs:s∈t.v):Sml s:=fun u hu=>h u (MT.sub_v hs hu)
def Ind (X:Nat→Prop) (w:World) (P:World→Prop):Prop:=∀ W,w.heap.size≤W.heap.size→(∀ k,k<w.heap.size→¬ X k→W.heap[k]? = w.heap[k]?)→P W
theorem Ind.here {X:Nat→Prop} {w:World} {P:World→Prop} (h:Ind X w P):P w:=h w (Nat.le_refl _) (fun _ _ _=>rfl)
theorem Ind.to {X Y:Nat→Prop} {w w':World} {P Q:World→Prop} (h:Ind X w P) (hs:w.heap.size≤w'.heap.size) (hk:∀ k,k<w.heap.size→¬ X k→w'.heap[k]? = w.heap[k]?) (hy:∀ k,k<w.heap.size→Y k→X k) (hq:∀ W,P W→Q W):Ind Y w' Q :=
  fun W h1 h2=>hq W (h W (Nat.le_trans hs h1) (fun k hlt hx=>(h2 k (Nat.lt_of_lt_of_le hlt hs) (fun hyk=>hx (hy k hlt hyk))).trans (hk k hlt hx)))
theorem Ind.below {X:Nat→Prop} {w w':World} {P:World→Prop} (h:Ind X w P) (hb:Below w.heap.size w w'):Ind X w' P :=
  h.to hb.size (fun k hk _=>hb.block k hk) (fun _ _ h=>h) (fun _ h=>h)
theorem Ind.and {X:Nat→Prop} {w:World} {P Q:World→Prop} (h:Ind X w P) (h2:Ind X w Q):Ind X w (fun W=>P W∧Q W):=fun W a b=>⟨h W a b,h2 W a b⟩
theorem ind_rdv {X:Nat→Prop} {w:World} {ad:Option Addr} {vs:List Value} (h:RdV w ad vs) (hx:∀ a,ad=some a→¬ X a.block):Ind X w (fun W=>RdV W ad vs):=by
  intro W hs hk i hi
  obtain ⟨b,o,e,hlt,hc⟩:=h i hi
  exact ⟨b,o,e,Nat.lt_of_lt_of_le hlt hs,by rw [World.cell?_of_block (w:=w) (hk b hlt (hx _ e))];exact hc⟩
theorem ind_rd {X:Nat→Prop} {w:World} {ad:Option Addr} {xs:List Nat} (h:Rd w ad xs) (hx:∀ a,ad=some a→¬ X a.block):Ind X w (fun W=>Rd W ad xs):=by
  intro W hs hk i hi
  obtain ⟨b,o,e,hlt,hc⟩:=h i hi
  exact ⟨b,o,e,Nat.lt_of_lt_of_le hlt hs,by rw [World.cell?_of_block (w:=w) (hk b hlt (hx _ e))];exact hc⟩
def CopyPost (t:MT) (w:World) (e:Ending) (w':World):Prop:=∃ u:MT,e=.returned u.c.val∧Ind (fun k=>k<w.heap.size) w' (fun W=>Rep W u)∧u.bare=t.bare∧Below w.heap.size w w'
theorem num_copy (ng:Bool) (ad:Option Addr) (n cap:Nat) (xs:List Nat) (E:Int) (w:World) (hn:xs.length=n) (hcap:n≤cap) (hm:n≤1000000) (ho:Okl xs) (hr:Rd w ad xs) :
    Calls Tryd.prog 54 #[.agg #[.bool ng,.slice ad n cap,.int .i64 E]] w fun r w'=>∃ a c,r=.returned (.agg #[.bool ng,.slice a n c,.int .i64 E])∧n≤c∧Rd w' a xs∧(∀ x,a=some x→w.heap.size≤x.block∧x.block<w'.heap.size)∧Below w.heap.size w w':=by
  have hbl:Below w.heap.size w ((w.alloc (.cells #[.bool ng,.slice ad n cap,.int .i64 E] 25)).alloc (.cells #[.bool false,.slice none 0 0,.int .i64 0] 25)):=((Below.refl _ _).alloc (Nat.le_refl _) _).alloc (by simp) _
  obtain ⟨W0,hW0⟩:∃ W0,W0=(w.alloc (.cells #[.bool ng,.slice ad n cap,.int .i64 E] 25)).alloc (.cells #[.bool false,.slice none 0 0,.int .i64 0] 25):=⟨_,rfl⟩
  rw [← hW0] at hbl
  have hsz:W0.heap.size=w.heap.size+2:=by rw [hW0];simp
  have q0:W0.cell? ⟨w.heap.size,0,none⟩=some (.bool ng):=by rw [hW0];simp
  have q1:W0.cell? ⟨w.heap.size,1,none⟩=some (.slice ad n cap):=by rw [hW0];simp
  have q2:W0.cell? ⟨w.heap.size,2,none⟩=some (.int .i64 E):=by rw [hW0];simp
  have p0:W0.cell? ⟨w.heap.size+1,0,none⟩=some (.bool false):=by rw [hW0];simp
  have p1:W0.cell? ⟨w.heap.size+1,1,none⟩=some (.slice none 0 0):=by rw [hW0];simp
  have p2:W0.cell? ⟨w.heap.size+1,2,none⟩=some (.int .i64 0):=by rw [hW0];simp
  have g0:W0.frozen? ⟨w.heap.size+1,0,none⟩=false:=by rw [hW0];simp
  have g1:W0.frozen? ⟨w.heap.size+1,1,none⟩=false:=by rw [hW0];simp
  have g2:W0.frozen? ⟨w.heap.size+1,2,none⟩=false:=by rw [hW0];simp
  have KL:=Lib.hid (fun W (h:Below W0.heap.size W0 W)=>limbs_any ad n cap xs W hn (by omega) ho ((hr.below hbl).below h))
  have HB:=Lib.hid hbl
  have HNN:=Lib.hid hn
  clear hbl hn ho hr
  go_enter Tryd.func54,Tryd.ntmps54
  go_upto_region 1 with fail
  rw [← hW0]
  clear hW0
  have hz0:w.heap.size<W0.heap.size:=by omega
  have hz1:w.heap.size+1<W0.heap.size:=by omega
  go_region_held_law (fun w'=>w'.cell? ⟨w.heap.size,0,none⟩=some (.bool ng)∧w'.cell? ⟨w.heap.size,1,none⟩=some (.slice ad n cap)∧w'.cell? ⟨w.heap.size,2,none⟩=some (.int .i64 E)) (first | exact ⟨x0,x1,x2⟩ | go_keep | (refine ⟨?_,?_,?_⟩ <;> (repeat rw [World.cell?_setCell_other (h:=by simp)]) <;> first | exact x0 | exact x1 | exact x2))
    (first | (refine step_callT rfl 79 _ Tryd.func79 (by kernel_rfl) (by kernel_rfl) _ _ rfl #[.slice ad n cap] (by simp [Act.eval,Act.put]) (KL.out _ (below_drew (Below.refl _ _))) ?_;rintro r w8 ⟨v8,rfl,ho8,hb8⟩;have x0:=(hb8.cell (p:=⟨w.heap.size,0,none⟩) hz0).trans q0;have x1:=(hb8.cell (p:=⟨w.heap.size,1,none⟩) hz0).trans q1;have x2:=(hb8.cell (p:=⟨w.heap.size,2,none⟩) hz0).trans q2;have y0:=(hb8.cell (p:=⟨w.heap.size+1,0,none⟩) hz1).trans p0;have y1:=(hb8.cell (p:=⟨w.heap.size+1,1,none⟩) hz1).trans p1;have y2:=(hb8.cell (p:=⟨w.heap.size+1,2,none⟩) hz1).trans p2;have z0:=(hb8.frozen (p:=⟨w.heap.size+1,0,none⟩) hz1).trans g0;have z1:=(hb8.frozen (p:=⟨w.heap.size+1,1,none⟩) hz1).trans g1;have z2:=(hb8.frozen (p:=⟨w.heap.size+1,2,none⟩) hz1).trans g2;obtain ⟨a8,c8,rfl,hc8,hr8,ha8⟩:=ho8.view;refine ⟨_,rfl,?_⟩))
  all_goals (try go_wp2_with fail)
  have hbw:=HB.out.trans ((bdc hb8).mono HB.out.size)
  have hs8:=(bdc hb8).size
  have hbut:But (w.heap.size+1) w8 (((w8.setCell ⟨w.heap.size+1,0,none⟩ (.bool ng)).setCell ⟨w.heap.size+1,1,none⟩ (.slice a8 xs.length c8)).setCell ⟨w.heap.size+1,2,none⟩ (.int .i64 E)):=(((But.refl _ _).setCell _ _).setCell _ _).setCell _ _
  have HX:=Lib.hid (show ∃ a c,Ending.returned (.agg #[.bool ng,.slice a8 xs.length c8,.int .i64 E])=.returned (.agg #[.bool ng,.slice a n c,.int .i64 E])∧n≤c∧Rd (((w8.setCell ⟨w.heap.size+1,0,none⟩ (.bool ng)).setCell ⟨w.heap.size+1,1,none⟩ (.slice a8 xs.length c8)).setCell ⟨w.heap.size+1,2,none⟩ (.int .i64 E)) a xs∧(∀ x,a=some x→w.heap.size≤x.block∧x.block<(((w8.setCell ⟨w.heap.size+1,0,none⟩ (.bool ng)).setCell ⟨w.heap.size+1,1,none⟩ (.slice a8 xs.length c8)).setCell ⟨w.heap.size+1,2,none⟩ (.int .i64 E)).heap.size)∧Below w.heap.size w (((w8.setCell ⟨w.heap.size+1,0,none⟩ (.bool ng)).setCell ⟨w.heap.size+1,1,none⟩ (.slice a8 xs.length c8)).setCell ⟨w.heap.size+1,2,none⟩ (.int .i64 E)) from
    ⟨a8,c8,by rw [HNN.out],by rw [← HNN.out];exact hc8,(ind_rd (X:=fun k=>k=w.heap.size+1) hr8 (fun a e h=>by have:=(ha8 a e).1;simp at this;omega)) _ hbut.size (fun k h1 h2=>hbut.block k h1 h2),(fun x e=>by have h1:=(ha8 x e);have h2:=hbut.size;simp at h1;omega),hbw.trans (hbut.below (by omega) (by omega))⟩)
  clear ho8 hb8
  exact bodyPost_ret (v:=.agg #[.bool ng,.slice a8 xs.length c8,.int .i64 E]) (by simp [results,Tryd.results54,go_sem,y0,y1,y2]) rfl HX.out
theorem str_copy (ad:Option Addr) (n cap:Nat) (l:List ByteArray) (w:World) (hl:l.length=n) (hn:n≤1000000) (hr:RdV w ad (sv l)) :
    Calls Tryd.prog 19 #[.slice ad n cap] w fun r w'=>∃ a c,r=.returned (.slice a n c)∧n≤c∧RdV w' a (sv l)∧(∀ x,a=some x→w.heap.size≤x.block∧x.block<w'.heap.size)∧Below w.heap.size w w' :=
  (strings_any ad n cap l w hl (by omega) hr).mono fun r w' ⟨v,hr,ho,hb⟩=>by
    obtain ⟨a,c,rfl,h1,h2,_,h3,_⟩:=own_viewN ho
    rw [sv_len,hl] at hr h1
    exact ⟨a,c,hr,h1,h2,h3,hb⟩
def CCut (Wb:World) (k:Int) (b0 neg:Bool) (mn:Nat) (e:Int) (st:ByteArray) (kn:Nat) (limbs:List Nat) (names:List ByteArray) (v:Value) (wx:World):Prop :=
  ∃ b ma mc ka kc,v=.pointer (some ⟨b,0,none⟩)∧Wb.heap.size≤b∧BoxT wx b ⟨k,b0,neg,ma,mn,mc,e,st,ka,kn,kc,none,0,0⟩∧mn≤mc∧kn≤kc∧Ind (fun k=>k<Wb.heap.size∨k=b) wx (fun W=>Rd W ma limbs∧RdV W ka (sv names))∧Below Wb.heap.size Wb wx
theorem bdz {w w':World} {o:Obj} (h:Below (w.alloc o).drew.heap.size (w.alloc o).drew w'):Below w.heap.size w w':=((bal w o).drew).trans (h.mono (by simp))
theorem bbz {w w1 w2:World} {o:Obj} (h:Below w.heap.size w w1) (h2:Below (w1.alloc o).heap.size (w1.alloc o) w2):Below w.heap.size w w2:=h.trans (((bal w1 o).trans (h2.mono (by simp))).mono h.size)
theorem ccut_early {Wb w4:World} {k:Int} {b0 neg:Bool} {mn:Nat} {e:Int} {st:ByteArray} {kn:Nat} {limbs:List Nat} {names:List ByteArray} {a3 a4:Option Addr} {c3 c4 b:Nat} (hb:Wb.heap.size≤b) (hz:BoxT w4 b (leafC 0 false ⟨#[]⟩)) (h:Below Wb.heap.size Wb w4) (hc3:mn≤c3) (hc4:kn≤c4) (hr3:Rd w4 a3 limbs) (hr4:RdV w4 a4 (sv names))
    (h3:∀ x,a3=some x→Wb.heap.size≤x.block∧x.block ≠ b) (h4:∀ x,a4=some x→Wb.heap.size≤x.block∧x.block ≠ b):CCut Wb k b0 neg mn e st kn limbs names (.pointer (some ⟨b,0,none⟩)) (put0 w4 b ⟨k,b0,neg,a3,mn,c3,e,st,a4,kn,c4,none,0,0⟩) :=
  ⟨b,a3,c3,a4,c4,rfl,hb,put0_box hz,hc3,hc4,
    ((ind_rd (X:=fun k=>k<Wb.heap.size∨k=b) hr3 (fun a e hx=>by have:=h3 a e;omega)).and (ind_rdv hr4 (fun a e hx=>by have:=h4 a e;omega))).to (put0_but _ _ _).size (fun k hk hx=>(put0_but _ _ _).block k hk (fun e=>hx (.inr e))) (fun _ _ h=>h) (fun _ h=>h),
    h.trans ((put0_but _ _ _).below hb h.size)⟩
theorem ccut_late {Wb w4:World} {k:Int} {b0 neg:Bool} {mn:Nat} {e:Int} {st:ByteArray} {kn:Nat} {limbs:List Nat} {names:List ByteArray} {a3 a4:Option Addr} {c3 c4:Nat} (h:Below Wb.heap.size Wb w4) (hc3:mn≤c3) (hc4:kn≤c4) (hr3:Rd w4 a3 limbs) (hr4:RdV w4 a4 (sv names))
    (h3:∀ x,a3=some x→Wb.heap.size≤x.block∧x.block<w4.heap.size) (h4:∀ x,a4=some x→Wb.heap.size≤x.block∧x.block<w4.heap.size):CCut Wb k b0 neg mn e st kn limbs names (.pointer (some ⟨w4.heap.size,0,none⟩)) (w4.alloc (.cells (Cel.cells ⟨k,b0,neg,a3,mn,c3,e,st,a4,kn,c4,none,0,0⟩).toArray 28)) :=
  ⟨w4.heap.size,a3,c3,a4,c4,rfl,h.size,heap_alloc_new w4 _,hc3,hc4,
    ((ind_rd (X:=fun k=>k<Wb.heap.size∨k=w4.heap.size) hr3 (fun a e hx=>by have:=h3 a e;omega)).and (ind_rdv hr4 (fun a e hx=>by have:=h4 a e;omega))).below ((Below.refl _ _).alloc (Nat.le_refl _) _),
    h.alloc h.size _⟩
theorem ccut_below {Wb w:World} {k:Int} {b0 neg:Bool} {mn:Nat} {e:Int} {st:ByteArray} {kn:Nat} {limbs:List Nat} {names:List ByteArray} {v:Value} (h:CCut Wb k b0 neg mn e st kn limbs names v w):Below Wb.heap.size Wb w:=by obtain ⟨_,_,_,_,_,_,_,_,_,_,_,h⟩:=h;exact h
theorem boxz_on {w w':World} (h:Below (w.alloc (.cells #[.int .i64 0,.bool false,.bool false,.slice none 0 0,.int .i64 0,.string ⟨#[]⟩,.slice none 0 0,.slice none 0 0] 28)).heap.size (w.alloc (.cells #[.int .i64 0,.bool false,.bool false,.slice none 0 0,.int .i64 0,.string ⟨#[]⟩,.slice none 0 0,.slice none 0 0] 28)) w'):BoxT w' w.heap.size (leafC 0 false ⟨#[]⟩):=(show BoxT _ w.heap.size (leafC 0 false ⟨#[]⟩) from heap_alloc_new w _).on (h.block _ (by simp))
theorem blk_up {w:World} {o:Obj} {a:Option Addr} {n:Nat} (h:∀ x,a=some x→(w.alloc o).heap.size≤x.block∧x.block<n):∀ x,a=some x→w.heap.size<x.block∧x.block<n:=fun x e=>by have:=h x e;rw [World.size_alloc] at this;omega
def CX (Wb:World) (b:Nat) (v:Value) (k:Nat):Prop:=k<Wb.heap.size∨k=b∨v.ownBlock=some k
def CR (Wb Wc : World) (k : Int) (b0 neg : Bool) (mn : Nat) (e : Int) (st : ByteArray) (kn : Nat) (limbs : List Nat) (names : List ByteArray) (vals : List MT) (b : Nat) (a3 : Option Addr) (c3 : Nat) (a4 : Option Addr) (c4 n g : Nat) (i : Value) (wr : World) : Prop :=
  ∃ (us : List MT) (va : Option Addr) (vc : Nat), us.length ≤ n ∧ n - us.length ≤ g ∧ i = .int .i64 (us.length : Int) ∧ BoxT wr b ⟨k, b0, neg, a3, mn, c3, e, st, a4, kn, c4, va, us.length, vc⟩ ∧
    wr.ownsRow Wc.heap.size 28 8 (.slice va us.length vc) us.length (flat (us.map MT.c)) ∧ Ind (CX Wb b (.slice va us.length vc)) wr (fun W => (Rd W a3 limbs ∧ RdV W a4 (sv names)) ∧ ∀ u ∈ us, Rep W u) ∧ us.map MT.bare = (vals.take us.length).map MT.bare ∧ Below Wb.heap.size Wb wr ∧ Wc.heap.size ≤ wr.heap.size
theorem box_set {w:World} {b:Nat} {k:Int} {b0 neg:Bool} {ma:Option Addr} {mn mc:Nat} {e:Int} {st:ByteArray} {ka:Option Addr} {kn kc:Nat} {va:Option Addr} {vn vc:Nat} (h:BoxT w b ⟨k,b0,neg,ma,mn,mc,e,st,ka,kn,kc,va,vn,vc⟩) (va':Option Addr) (vn' vc':Nat) :
    BoxT (w.setCell ⟨b,7,none⟩ (.slice va' vn' vc')) b ⟨k,b0,neg,ma,mn,mc,e,st,ka,kn,kc,va',vn',vc'⟩:=by
  unfold BoxT at h ⊢
  simp only [World.setCell,Array.getElem?_modify,h]
  simp [Cel.cells]
theorem cr_step {Wb Wc:World} {k:Int} {b0 neg:Bool} {mn:Nat} {e:Int} {st:ByteArray} {kn:Nat} {limbs:List Nat} {names:List ByteArray} {vals:List MT} {b:Nat} {a3:Option Addr} {c3:Nat} {a4:Option Addr} {c4 n g:Nat} {wr w1 w5:World} {us:List MT} {va:Option Addr} {vc:Nat} {x:MT} {gg cap:Nat}
    (hbb:Wb.heap.size≤b) (hbc:b<Wc.heap.size) (hlt:us.length<n) (hn:n=vals.length) (hg:n - us.length≤g+1) (hbx:BoxT wr b ⟨k,b0,neg,a3,mn,c3,e,st,a4,kn,c4,va,us.length,vc⟩) (ho:wr.ownsRow Wc.heap.size 28 8 (.slice va us.length vc) us.length (flat (us.map MT.c)))
    (hi:Ind (CX Wb b (.slice va us.length vc)) wr (fun W=>(Rd W a3 limbs∧RdV W a4 (sv names))∧∀ u∈us,Rep W u)) (hm:us.map MT.bare=(vals.take us.length).map MT.bare) (hw:Below Wb.heap.size Wb wr) (hs:Wc.heap.size≤wr.heap.size)
    (h1:Below wr.heap.size wr w1) (hx:Ind (fun k=>k<wr.heap.size) w1 (fun W=>Rep W x)) (hxb:x.bare=(vals.getD us.length (leafT 0 false ⟨#[]⟩)).bare)
    (ho5:w5.ownsRow Wc.heap.size 28 8 (.slice (some ⟨gg,0,none⟩) (us.length+1) cap) (us.length+1) (flat (us.map MT.c)++x.c.cells)) (hg5:(w1.alloc (.cells x.c.cells.toArray 28)).grownBy w5 (Value.slice va us.length vc).ownBlock)
    (hor:(Value.slice va us.length vc).ownBlock=some gg∨gg=(w1.alloc (.cells x.c.cells.toArray 28)).heap.size) :
    CR Wb Wc k b0 neg mn e st kn limbs names vals b a3 c3 a4 c4 n g (.int .i64 ((us.length:Int)+1)) (w5.setCell ⟨b,7,none⟩ (.slice (some ⟨gg,0,none⟩) (us.length+1) cap)):=by
  obtain ⟨_,_,e0,_,_,_,ha0,_⟩:=own_viewN ho
  cases e0
  have hown:∀ j,(Value.slice va us.length vc).ownBlock=some j→Wc.heap.size≤j∧j<wr.heap.size:=by
    intro j hj
    cases va with
    | none=>cases hj
    | some a=>simp only [Value.ownBlock,Option.some.injEq] at hj;have:=ha0 a rfl;omega
  have hgg:Wc.heap.size≤gg:=by
    rcases hor with h | h
    · exact (hown gg h).1
    · have:=h1.size;simp at h;omega
  have s1:=h1.size
  have s5:=hg5.size
  simp only [World.size_alloc] at s5
  have hblk:∀ j,j<w1.heap.size→some j ≠ (Value.slice va us.length vc).ownBlock→w5.heap[j]? = w1.heap[j]?:=fun j hj hne=>by
    rw [hg5.block j (by simp;omega) hne,Below.heap_alloc _ _ _ hj]
  have hset:∀ j,j ≠ b→(w5.setCell ⟨b,7,none⟩ (.slice (some ⟨gg,0,none⟩) (us.length+1) cap)).heap[j]? = w5.heap[j]?:=fun j hj=>Below.heap_setCell _ _ _ _ (by simpa using hj)
  have hsz:(w5.setCell ⟨b,7,none⟩ (.slice (some ⟨gg,0,none⟩) (us.length+1) cap)).heap.size=w5.heap.size:=by simp [World.setCell]
  have hbw:b<wr.heap.size:=hbx.lt
  have hbo:some b ≠ (Value.slice va us.length vc).ownBlock:=fun h=>by have:=hown b h.symm;omega
  refine ⟨us++[x],some ⟨gg,0,none⟩,cap,by simp;omega,by simp;omega,by simp,?_,?_,?_,?_,?_,by rw [hsz];omega⟩
  · have h5:BoxT w5 b ⟨k,b0,neg,a3,mn,c3,e,st,a4,kn,c4,va,us.length,vc⟩:=hbx.on ((hblk b (by omega) hbo).trans (h1.block b hbw))
    have:=box_set h5 (some ⟨gg,0,none⟩) (us.length+1) cap
    simpa using this
  · have e1:flat ((us++[x]).map MT.c)=flat (us.map MT.c)++x.c.cells:=by rw [List.map_append,List.map_cons,List.map_nil,flat_append1]
    rw [e1,show (us++[x]).length=us.length+1 by simp]
    exact own_other ho5 (fun j hj=>hset j (fun e=>by simp only [Value.ownBlock,Option.some.injEq] at hj;omega))
  · have hl:(us++[x]).length=us.length+1:=by simp
    rw [hl]
    have i1:Ind (CX Wb b (.slice (some ⟨gg,0,none⟩) (us.length+1) cap)) (w5.setCell ⟨b,7,none⟩ (.slice (some ⟨gg,0,none⟩) (us.length+1) cap)) (fun W=>(Rd W a3 limbs∧RdV W a4 (sv names))∧∀ u∈us,Rep W u):=by
      refine (hi.below h1).to (by omega) (fun j hj hxj=>?_) (fun j hj hy=>?_) (fun _ h=>h)
      · rw [hset j (fun e=>hxj (.inr (.inl e))),hblk j hj (fun e=>hxj (.inr (.inr e.symm)))]
      · rcases hy with h | h | h
        · exact .inl h
        · exact .inr (.inl h)
        · simp only [Value.ownBlock,Option.some.injEq] at h
          rcases hor with h2 | h2
          · exact .inr (.inr (by rw [h2,h]))
          · simp at h2;omega
    have i2:Ind (CX Wb b (.slice (some ⟨gg,0,none⟩) (us.length+1) cap)) (w5.setCell ⟨b,7,none⟩ (.slice (some ⟨gg,0,none⟩) (us.length+1) cap)) (fun W=>Rep W x):=by
      refine hx.to (by omega) (fun j hj hxj=>?_) (fun j hj hy=>?_) (fun _ h=>h)
      · rw [hset j (fun e=>hxj (by omega)),hblk j hj (fun e=>hxj (by have:=hown j e.symm;omega))]
      · have:=hw.size
        rcases hy with h | h | h
        iterate 2
          · omega
        · simp only [Value.ownBlock,Option.some.injEq] at h
          rcases hor with h2 | h2
          · have:=hown gg h2;omega
          · simp at h2;omega
    intro W q1 q2
    obtain ⟨p1,p2⟩:=i1 W q1 q2
    refine ⟨p1,fun u hu=>?_⟩
    rcases List.mem_append.1 hu with hu | hu
    · exact p2 u hu
    · rw [List.mem_singleton.1 hu];exact i2 W q1 q2
  · have hl:us.length<vals.length:=by omega
    rw [show (us++[x]).length=us.length+1 by simp,List.take_succ_eq_append_getElem hl,List.map_append,List.map_append,hm]
    congr 1
    simp only [List.map_cons,List.map_nil,hxb]
    simp [List.getD,hl]
  · have g1:=(hw.trans (h1.mono hw.size)).alloc (hw.trans (h1.mono hw.size)).size (.cells x.c.cells.toArray 28)
    exact (g1.grown hg5 (by have:=hw.size;simp;omega) (fun j hj=>by have:=hown j hj;omega)).setCell hbb _
theorem set_cells {w:World} {b g h q:Nat} (v:Value) {vT v0 v1 v2 v3 v4 v5 v6 v7:Value} (h1:g ≠ b) (h2:h ≠ b) (c:w.cell? ⟨g,7,none⟩=some vT)
    (d:w.cell? ⟨h,q,none⟩=some v0∧w.cell? ⟨h,q+1,none⟩=some v1∧w.cell? ⟨h,q+2,none⟩=some v2∧w.cell? ⟨h,q+3,none⟩=some v3∧w.cell? ⟨h,q+4,none⟩=some v4∧w.cell? ⟨h,q+5,none⟩=some v5∧w.cell? ⟨h,q+6,none⟩=some v6∧w.cell? ⟨h,q+7,none⟩=some v7) :
    (w.setCell ⟨b,7,none⟩ v).cell? ⟨g,7,none⟩=some vT∧(w.setCell ⟨b,7,none⟩ v).cell? ⟨h,q,none⟩=some v0∧(w.setCell ⟨b,7,none⟩ v).cell? ⟨h,q+1,none⟩=some v1∧(w.setCell ⟨b,7,none⟩ v).cell? ⟨h,q+2,none⟩=some v2∧(w.setCell ⟨b,7,none⟩ v).cell? ⟨h,q+3,none⟩=some v3∧(w.setCell ⟨b,7,none⟩ v).cell? ⟨h,q+4,none⟩=some v4∧(w.setCell ⟨b,7,none⟩ v).cell? ⟨h,q+5,none⟩=some v5∧(w.setCell ⟨b,7,none⟩ v).cell? ⟨h,q+6,none⟩=some v6∧(w.setCell ⟨b,7,none⟩ v).cell? ⟨h,q+7,none⟩=some v7:=by
  obtain ⟨d0,d1,d2,d3,d4,d5,d6,d7⟩:=d
  refine ⟨?_,?_,?_,?_,?_,?_,?_,?_,?_⟩ <;> (rw [World.cell?_setCell_other (h:=by simp [h1,h2])];assumption)
theorem step_appT {w:World} {ops:Array Oper} {o:Oper} {a:Act} {K:Act→World→Prop} {Q:Exit→Act→World→Prop} {E:Prop} (hgd:o.guard=none) (s x:Operand)
    (ho:o.op=.call { callee:=.builtin .append,args:=#[s,x],argTypes:=#[26,26] }) (B:Nat) (v:Value) (n:Nat) (xs:List Value) (hs:a.eval s=v) (hown:w.ownsRow B 28 8 v n xs)
    (ad:Addr) (c:Nat) (y:Cel) (hx:a.eval x=.slice (some ad) 1 c) (hr:RdV w (some ad) y.cells) (hn:n≤1000000000) (hB:B≤w.heap.size)
    (h:∀ g cap w',w'.ownsRow B 28 8 (.slice (some ⟨g,0,none⟩) (n+1) cap) (n+1) (xs++y.cells)→w.grownBy w' v.ownBlock→(v.ownBlock=some g∨g=w.heap.size)→K (a.put o.dst (.slice (some ⟨g,0,none⟩) (n+1) cap)) w') :
    if Region.wanted o (yielded ops a.tmps)=true then Oper.wp Tryd.prog o a w K Q else E:=by
  obtain ⟨i0,hi,hz0,hz1,hz2⟩:=info_parts info_tree
  refine step_append_lies w hgd s x 26 ho B 28 i0 zeroC.val 8 120 Tryd.underlying26 hi hz0 hz1 hz2 rfl (by decide) v n xs hs hown ad 1 c y.cells hx rfl ?_ (cel_one y) (by decide) (by unfold maxLen;omega) (by omega) hB _ rfl (fun g cap w' h1 h2 h3 _=>h g cap w' h1 h2 h3)
  intro j u hj
  have hjl:j<y.cells.length:=(List.getElem?_eq_some_iff.1 hj).1
  obtain ⟨b,o',e,_,hc⟩:=hr j hjl
  cases e
  have hadd:(⟨b,o',none⟩:Addr).add j=⟨b,o'+j,none⟩:=by unfold Addr.add;split <;> simp_all
  rw [hadd,hc,hj]
theorem copy_any (t:MT):∀ w:World,Sml t→Rep w t→Calls Tryd.prog 25 #[t.c.val] w (CopyPost t w):=by
  refine MT.ind (P:=fun t=>∀ w:World,Sml t→Rep w t→Calls Tryd.prog 25 #[t.c.val] w (CopyPost t w)) ?_ t
  intro t ih w hS hR
  have own:=hR.own
  obtain ⟨hs1,hs2,hs3⟩:=hS t t.sub_refl
  obtain ⟨Wb,hWb⟩:∃ x,two2 w t.c (leafC 0 false ⟨#[]⟩)=x:=⟨_,rfl⟩
  have hb0:Below w.heap.size w Wb:=by rw [← hWb];exact two_below2 _ _ _
  have hsz:Wb.heap.size=w.heap.size+2:=by rw [← hWb,two2_size]
  have HB0:=Lib.hid hb0
  have HBX:=Lib.hid (fun W (h:Below Wb.heap.size Wb W)=>(by
    rw [← hWb] at h
    exact (two2_box w t.c (leafC 0 false ⟨#[]⟩)).1.on (h.block _ (by rw [two2_size];omega)):BoxT W w.heap.size t.c))
  have HBR:=Lib.hid (fun W (h:Below Wb.heap.size Wb W)=>(by
    rw [← hWb] at h
    exact (two2_box w t.c (leafC 0 false ⟨#[]⟩)).2.on (h.block _ (by rw [two2_size];omega)):BoxT W (w.heap.size+1) (leafC 0 false ⟨#[]⟩)))
  have KN:=Lib.hid (fun W (h:Below Wb.heap.size Wb W)=>num_copy t.c.neg t.c.ma t.c.mn t.c.mc t.m t.c.e W own.mn own.mc hs1 own.mo ((own.mr.below hb0).below h))
  have KS:=Lib.hid (fun W (h:Below Wb.heap.size Wb W)=>str_copy t.c.ka t.c.kn t.c.kc t.k W own.kn hs2 ((own.kr.on hb0).on h))
  have HV:=Lib.hid (fun W (h:Below Wb.heap.size Wb W)=>(own.vr.on hb0).on h)
  have HVL:=Lib.hid own.vn
  have KI:=Lib.hid (fun (j:Nat) (hj:j<t.v.length) (W:World) (h:Below Wb.heap.size Wb W)=>ih (t.v.getD j (leafT 0 false ⟨#[]⟩)) (by simp [List.getD,hj]) W (hS.part (by simp [List.getD,hj])) (((hR.part (by simp [List.getD,hj])).on hb0).on h))
  have HT:=Lib.hid (⟨own.mo,own.lm,own.ls,own.lk,own.le,own.lq,own.mn,own.kn⟩:_∧_∧_∧_∧_∧_∧_∧_)
  have HTB:=Lib.hid (show t.bare=.mk t.c.bare t.m t.k (t.v.map MT.bare) from t.bare_eq)
  have HZ:=Lib.hid hsz
  have hwb:=hWb
  unfold CopyPost
  clear hb0 hsz own hR hS ih hWb hs1 hs2
  generalize t.bare=tb at *
  generalize t.k=names at *
  generalize t.v=vals at *
  generalize t.m=limbs at *
  generalize t.c=c at *
  obtain ⟨k,b0,neg,ma,mn,mc,e,st,ka,kn,kc,va,vn,vc⟩:=c
  unfold Cel.val
  unfold two2 leafC Cel.cells at hwb
  simp only at hwb KN KS HV HVL HT HTB hs3
  have HWB:=Lib.hid hwb
  clear hwb
  go_enter Tryd.func25,Tryd.ntmps25
  go_upto_region 1 with fail
  rw [HWB.out]
  have hg1:w.heap.size<Wb.heap.size:=by have:=HZ.out;omega
  have HF:=Lib.hid (fun W (h:Below Wb.heap.size Wb W)=>(HBX.out W h).cells)
  obtain ⟨q0,q1,q2,q3,q4,q5,q6,q7⟩:=HF.out Wb (Below.refl _ _)
  simp only at q0 q1 q2 q3 q4 q5 q6 q7
  go_cut [3] from 5 to 17 (fun v wx=>CCut Wb k b0 neg mn e st kn limbs names v wx)
  case first =>
    rename_i J K hJ hK
    have HJ:=Lib.hid hJ
    refine wp_first J hK ?_
    clear hJ hK
    go_region_held_law? (fun w'=>w'.cell? ⟨w.heap.size,0,none⟩=some (.int .i64 k)∧w'.cell? ⟨w.heap.size,1,none⟩=some (.bool b0)∧w'.cell? ⟨w.heap.size,2,none⟩=some (.bool neg)∧w'.cell? ⟨w.heap.size,3,none⟩=some (.slice ma mn mc)∧w'.cell? ⟨w.heap.size,4,none⟩=some (.int .i64 e)∧w'.cell? ⟨w.heap.size,5,none⟩=some (.string st)∧w'.cell? ⟨w.heap.size,6,none⟩=some (.slice ka kn kc)∧w'.cell? ⟨w.heap.size,7,none⟩=some (.slice va vn vc)) (exact HF.out _ (by (repeat (first | with_reducible exact Below.refl _ _ | with_reducible exact HW4.out | with_reducible exact HW3.out | with_reducible exact HWW.out | with_reducible refine below_drew ?_ | with_reducible refine Below.alloc ?_ (by first | exact HW4.out.size | exact HW3.out.size | exact Nat.le_refl _) _ | with_reducible refine below_put ?_ ?_))))
      (first
        | (refine step_callT rfl 54 _ Tryd.func54 (by kernel_rfl) (by kernel_rfl) #[.tmp 10] _ rfl #[.agg #[.bool neg,.slice ma mn mc,.int .i64 e]] (by simp [Act.eval,Act.put]) (KN.out _ (by (repeat (first | with_reducible exact Below.refl _ _ | with_reducible exact HW4.out | with_reducible exact HW3.out | with_reducible exact HWW.out | with_reducible refine below_drew ?_ | with_reducible refine Below.alloc ?_ (by first | exact HW4.out.size | exact HW3.out.size | exact Nat.le_refl _) _ | with_reducible refine below_put ?_ ?_)))) ?_;rintro r3 w3 ⟨a3,c3,rfl,hc3,hr3,ha3,h3⟩;have HW3:=Lib.hid (show Below Wb.heap.size Wb w3 from (by with_reducible first | exact bdc h3 | exact bdz h3 | exact bby HW4.out h3 | exact bbz HW4.out h3));have HC3:=Lib.hid hc3;have HR3:=Lib.hid hr3;(first | (have HZ3:=Lib.hid (boxz_on (bdc h3));have HA3:=Lib.hid (blk_up ha3)) | (have HA3:=Lib.hid (show ∀ x,a3=some x→Wb.heap.size≤x.block∧x.block<w3.heap.size from ha3)));clear hc3 hr3 ha3 h3;refine ⟨_,rfl,?_⟩)
        | (refine step_callT rfl 19 _ Tryd.func19 (by kernel_rfl) (by kernel_rfl) #[.tmp 15] _ rfl #[.slice ka kn kc] (by simp [Act.eval,Act.put]) (KS.out _ (by (repeat (first | with_reducible exact Below.refl _ _ | with_reducible exact HW4.out | with_reducible exact HW3.out | with_reducible exact HWW.out | with_reducible refine below_drew ?_ | with_reducible refine Below.alloc ?_ (by first | exact HW4.out.size | exact HW3.out.size | exact Nat.le_refl _) _ | with_reducible refine below_put ?_ ?_)))) ?_;rintro r4 w4 ⟨a4,c4,rfl,hc4,hr4,ha4,h4⟩;have HW4:=Lib.hid (show Below Wb.heap.size Wb w4 from (by with_reducible first | exact bdc h4 | exact bdz h4 | exact bby HW3.out h4 | exact bbz HW3.out h4));(first | (have hz4:=HZ3.out.on (h4.block _ HZ3.out.lt);obtain ⟨W2,hW2⟩:∃ x,put0 w4 Wb.heap.size ⟨k,b0,neg,a3,mn,c3,e,st,a4,kn,c4,none,0,0⟩=x:=⟨_,rfl⟩;have HC:=Lib.hid (by rw [← hW2];exact ccut_early (Nat.le_refl _) hz4 HW4.out HC3.out hc4 (HR3.out.below h4) hr4 (fun x e=>by have:=HA3.out x e;omega) (fun x e=>by have:=ha4 x e;have:=HW3.out.size;have:=HZ3.out.lt;omega):CCut Wb k b0 neg mn e st kn limbs names (.pointer (some ⟨Wb.heap.size,0,none⟩)) W2);have HWW:=Lib.hid (ccut_below HC.out);have hvv:=hz4.var;unfold Var at hvv;obtain ⟨⟨g0,g1,g2,g3,g4,g5,g6,g7⟩,f0,f1,f2,f3,f4,f5,f6,f7⟩:=hvv;simp only [leafC] at g0 g1 g2 g3 g4 g5 g6 g7;unfold put0 at hW2;simp only at hW2;clear hz4) | (have hz4:=boxz_on h4;have h34:=(bal w3 _).trans (h4.mono (by simp));have ha5:=blk_up ha4;obtain ⟨W2,hW2⟩:∃ x,put0 w4 w3.heap.size ⟨k,b0,neg,a3,mn,c3,e,st,a4,kn,c4,none,0,0⟩=x:=⟨_,rfl⟩;have HC:=Lib.hid (by rw [← hW2];exact ccut_early HW3.out.size hz4 HW4.out HC3.out hc4 (HR3.out.below h34) hr4 (fun x e=>by have:=HA3.out x e;omega) (fun x e=>by have:=ha5 x e;have:=HW3.out.size;omega):CCut Wb k b0 neg mn e st kn limbs names (.pointer (some ⟨w3.heap.size,0,none⟩)) W2);have HWW:=Lib.hid (ccut_below HC.out);have hvv:=hz4.var;unfold Var at hvv;obtain ⟨⟨g0,g1,g2,g3,g4,g5,g6,g7⟩,f0,f1,f2,f3,f4,f5,f6,f7⟩:=hvv;simp only [leafC] at g0 g1 g2 g3 g4 g5 g6 g7;unfold put0 at hW2;simp only at hW2;clear hz4) | (have HC:=Lib.hid (ccut_late HW4.out HC3.out hc4 (HR3.out.below h4) hr4 (fun x e=>by have:=HA3.out x e;have:=h4.size;omega) (fun x e=>by have:=ha4 x e;have:=HW3.out.size;omega):CCut Wb k b0 neg mn e st kn limbs names (.pointer (some ⟨w4.heap.size,0,none⟩)) (w4.alloc (.cells (Cel.cells ⟨k,b0,neg,a3,mn,c3,e,st,a4,kn,c4,none,0,0⟩).toArray 28)))));clear hc4 hr4 ha4 h4;refine ⟨_,rfl,?_⟩))
    all_goals
      refine HJ.out _ _ ?_
      (repeat apply Exists.intro)
      exact ⟨HC.out,rfl⟩
  case rest =>
    obtain ⟨b,a3,c3,a4,c4,rfl,hbb,hbx,hc3,hc4,hind,hbw⟩:=hcut
    obtain ⟨Wc,hWc⟩:∃ x,x=wc:=⟨_,rfl⟩
    subst hWc
    have hbc:b<Wc.heap.size:=hbx.lt
    have HST:=Lib.hid (show CR Wb Wc k b0 neg mn e st kn limbs names vals b a3 c3 a4 c4 vn vn (.int .i64 0) Wc from
      ⟨[],none,0,Nat.zero_le _,by simp,rfl,hbx,World.ownsRow_nil _ _ _ _,hind.to (Nat.le_refl _) (fun _ _ _=>rfl) (fun j _ h=>by rcases h with h | h | h;exact .inl h;exact .inr h;cases h) (fun W h=>⟨h,fun u hu=>by cases hu⟩),rfl,hbw,Nat.le_refl _⟩)
    have HC3:=Lib.hid hc3;have HC4:=Lib.hid hc4;have HBB:=Lib.hid hbb;have HBC:=Lib.hid hbc
    clear q0 q1 q2 q3 q4 q5 q6 q7 hbx hind hbw hc3 hc4 hbb hbc KN KS
    have hvn:vn≤1000000:=hs3
    go_wp2
    go_loopg [4] vn (fun g i wr=>CR Wb Wc k b0 neg mn e st kn limbs names vals b a3 c3 a4 c4 vn g i wr)
    case atStart=>exact HST.out
    case round =>
      clear HST
      obtain ⟨us,va',vc',hul,hug,rfl,hbx,ho,hi,hm,hw,hs⟩:=hrel
      have HBQ:=Lib.hid hbx;have HO:=Lib.hid ho;have HI:=Lib.hid hi;have HM:=Lib.hid hm;have HBW:=Lib.hid hw;have HS:=Lib.hid hs
      have HUL:=Lib.hid (show us.length≤1000000 by omega)
      by_cases hlt:us.length<vn
      · obtain ⟨g,rfl⟩:∃ g,gk=g+1:=⟨gk - 1,by omega⟩
        have hltz:(us.length:Int)<(vn:Int):=by omega
        have hu6:(us.length:Int)≤1000000:=by omega
        have hjl:us.length<vals.length:=by rw [HVL.out];exact hlt
        have hrd:=HV.out wr hw
        obtain ⟨xbk,xo,rfl,hxl⟩:=hrd.shape (by rw [flat_len,List.length_map];omega)
        have hxx:=flat_at hrd us.length (by rw [List.length_map];omega) (c:=(vals.getD us.length (leafT 0 false ⟨#[]⟩)).c) (getD_mapc hjl _)
        have hxb:xbk<Wb.heap.size:=by
          obtain ⟨_,_,e,h⟩:=(HV.out Wb (Below.refl _ _)).shape (by rw [flat_len,List.length_map];omega)
          cases e;exact h
        have K:=Lib.hid (KI.out us.length hjl)
        have HNX:=Lib.hid (fun w1 y w5 gg cap (h1:Below wr.heap.size wr w1) (hx:Ind (fun k=>k<wr.heap.size) w1 (fun W=>Rep W y)) (hxb:y.bare=(vals.getD us.length (leafT 0 false ⟨#[]⟩)).bare) ho5 hg5 hor=>cr_step (gg:=gg) (cap:=cap) (w5:=w5) (g:=g) (n:=vn) HBB.out HBC.out hlt HVL.out.symm hug hbx ho hi hm hw hs h1 hx hxb ho5 hg5 hor)
        have hbw:b<wr.heap.size:=hbx.lt
        have hwt:w.heap.size<wr.heap.size:=(HBX.out wr hw).lt
        have z7:=(HF.out wr hw).2.2.2.2.2.2.2
        try simp only at z7
        have y7:=hbx.cells.2.2.2.2.2.2.2
        try simp only at y7
        have y8:=hbx.free 7
        have hown:∀ j,(Value.slice va' us.length vc').ownBlock=some j→Wc.heap.size≤j:=by
          intro j hj
          obtain ⟨_,_,e0,_,_,_,ha0,_⟩:=own_viewN ho
          cases e0
          cases va' with
          | none=>cases hj
          | some a=>simp only [Value.ownBlock,Option.some.injEq] at hj;have:=ha0 a rfl;omega
        generalize (vals.getD us.length (leafT 0 false ⟨#[]⟩)).c=cx at K hxx
        obtain ⟨xk,xb,xneg,xma,xmn,xmc,xe,xs,xka,xkn,xkc,xva,xvn,xvc⟩:=cx
        unfold Cel.val at K
        obtain ⟨x0,x1,x2,x3,x4,x5,x6,x7⟩:=hxx
        try simp only at x0 x1 x2 x3 x4 x5 x6 x7
        have HALG:=Lib.hid (fun (W:World) (h:∀ bb o,bb=w.heap.size∨bb=xbk∨bb=b→W.cell? ⟨bb,o,none⟩=wr.cell? ⟨bb,o,none⟩∧W.frozen? ⟨bb,o,none⟩=wr.frozen? ⟨bb,o,none⟩)=>And.intro (And.intro ((h w.heap.size 7 (.inl rfl)).1.trans z7) (And.intro ((h b 7 (.inr (.inr rfl))).1.trans y7) ((h b 7 (.inr (.inr rfl))).2.trans y8))) (And.intro ((h xbk (xo+us.length*8) (.inr (.inl rfl))).1.trans x0) (And.intro ((h xbk (xo+us.length*8+1) (.inr (.inl rfl))).1.trans x1) (And.intro ((h xbk (xo+us.length*8+2) (.inr (.inl rfl))).1.trans x2) (And.intro ((h xbk (xo+us.length*8+3) (.inr (.inl rfl))).1.trans x3) (And.intro ((h xbk (xo+us.length*8+4) (.inr (.inl rfl))).1.trans x4) (And.intro ((h xbk (xo+us.length*8+5) (.inr (.inl rfl))).1.trans x5) (And.intro ((h xbk (xo+us.length*8+6) (.inr (.inl rfl))).1.trans x6) ((h xbk (xo+us.length*8+7) (.inr (.inl rfl))).1.trans x7)))))))))
        have HALL:=Lib.hid (fun (W:World) (h:Below wr.heap.size wr W)=>HALG.out W (fun bb o hb=>⟨h.cell (p:=⟨bb,o,none⟩) (by rcases hb with rfl | rfl | rfl <;> assumption),h.frozen (p:=⟨bb,o,none⟩) (by rcases hb with rfl | rfl | rfl <;> assumption)⟩))
        have HALF:=Lib.hid (fun (W W':World) (h:Below wr.heap.size wr W) (hg:W.grownBy W' (Value.slice va' us.length vc').ownBlock)=>HALG.out W' (fun bb o hb=>(by
          have hlt:bb<wr.heap.size:=by rcases hb with rfl | rfl | rfl <;> assumption
          have hk:=hg.block bb (Nat.lt_of_lt_of_le hlt h.size) (fun e=>by have h1:=hown bb e.symm;have h2:=HBC.out;have h3:=hw.size;have h4:=HBB.out;rcases hb with rfl | rfl | rfl <;> omega)
          exact ⟨(World.cell?_of_block (a:=⟨bb,o,none⟩) hk).trans (h.cell (p:=⟨bb,o,none⟩) hlt),(World.frozen?_of_block (a:=⟨bb,o,none⟩) hk).trans (h.frozen (p:=⟨bb,o,none⟩) hlt)⟩)))
        have hnb1:w.heap.size ≠ b:=by have h1:=HZ.out;have h2:=HBB.out;omega
        have hnb2:xbk ≠ b:=by have h2:=HBB.out;omega
        clear hul hug hbx ho hi hm hw hs hrd hown
        go_wp2_with fail
        refine wp_norm (fun J hJ=>?_)
        have HJ:=Lib.hid hJ
        clear hJ
        go_region_law (first
            | (refine step_callT rfl 25 _ Tryd.func25 (by kernel_rfl) (by kernel_rfl) #[.tmp 31] _ rfl #[.agg #[.int .i64 xk,.bool xb,.bool xneg,.slice xma xmn xmc,.int .i64 xe,.string xs,.slice xka xkn xkc,.slice xva xvn xvc]] (by simp [Act.eval,Act.put]) (K.out _ (HBW.out.trans ((show Below wr.heap.size wr _ from by (repeat (first | with_reducible exact Below.refl _ _ | with_reducible exact HW5.out | with_reducible refine below_drew ?_ | with_reducible refine Below.alloc ?_ (by first | exact HW5.out.size | exact Nat.le_refl _) _))).mono HBW.out.size))) ?_;rintro r5 w5 ⟨y,hr5,hy5,hyb5,h5⟩;have HW5:=Lib.hid (show Below wr.heap.size wr w5 from by with_reducible exact bdc h5);have HY5:=Lib.hid hy5;have HYB:=Lib.hid hyb5;obtain ⟨cy,hcy⟩:∃ c,y.c=c:=⟨_,rfl⟩;rw [hcy] at hr5;obtain ⟨yk,yb,yneg,yma,ymn,ymc,ye,ys,yka,ykn,ykc,yva,yvn,yvc⟩:=cy;have HCY:=Lib.hid hcy;unfold Cel.val at hr5;simp only at hr5;subst hr5;obtain ⟨⟨_,yy7,yy8⟩,_⟩:=HALL.out w5 HW5.out;have hb5:b<w5.heap.size:=(by have h1:=HW5.out.size;omega);clear hy5 hyb5 h5 hcy;refine ⟨_,rfl,?_⟩)
            | (refine step_appT rfl (.tmp 26) (.tmp 33) rfl Wc.heap.size (.slice va' us.length vc') us.length (flat (us.map MT.c)) (by simp [Act.eval,Act.put]) (own_onN HO.out (by (repeat (first | with_reducible exact Below.refl _ _ | with_reducible exact HW5.out | with_reducible refine below_drew ?_ | with_reducible refine Below.alloc ?_ (by first | exact HW5.out.size | exact Nat.le_refl _) _)))) ⟨w5.heap.size,0,none⟩ 1 ⟨yk,yb,yneg,yma,ymn,ymc,ye,ys,yka,ykn,ykc,yva,yvn,yvc⟩ (by simp [Act.eval,Act.put]) (rdv_new _ _ _) (by have:=HUL.out;omega) (by have:=HS.out;have:=HW5.out.size;simp;omega) ?_;intro gg cap w7 ho7 hg7 hor;have HF9:=Lib.hid (HALF.out _ _ (by (repeat (first | with_reducible exact Below.refl _ _ | with_reducible exact HW5.out | with_reducible refine below_drew ?_ | with_reducible refine Below.alloc ?_ (by first | exact HW5.out.size | exact Nat.le_refl _) _))) hg7);have HF7:=Lib.hid (And.intro HF9.out.1.1 HF9.out.2);have HF8:=Lib.hid (fun v=>set_cells (w:=w7) (b:=b) v hnb1 hnb2 HF9.out.1.1 HF9.out.2);have HN:=Lib.hid (HNX.out w5 y w7 gg cap HW5.out HY5.out HYB.out (by rw [HCY.out];exact ho7) (by rw [HCY.out];exact hg7) (by rw [HCY.out];exact hor));obtain ⟨⟨_,yw7,yw8⟩,_⟩:=HF9.out;have hb7:b<w7.heap.size:=(by have h1:=hg7.size;have h2:=HW5.out.size;simp at h1;omega);clear ho7 hg7 hor))
        all_goals
          refine HJ.out _ _ ?_
          try dsimp
          go_wp2
          go_roundg g
          case rel=>exact HN.out
          case measure=>omega
      · have hltz:¬ (us.length:Int)<(vn:Int):=by omega
        have hun:us.length=vn:=by omega
        have z7:=(HF.out wr hw).2.2.2.2.2.2.2
        obtain ⟨y0,y1,y2,y3,y4,y5,y6,y7⟩:=hbx.cells
        simp only at y0 y1 y2 y3 y4 y5 y6 y7
        have hvar:=(HBR.out wr hw).var
        unfold Var at hvar
        obtain ⟨⟨g0,g1,g2,g3,g4,g5,g6,g7⟩,f0,f1,f2,f3,f4,f5,f6,f7⟩:=hvar
        simp only [leafC] at g0 g1 g2 g3 g4 g5 g6 g7
        have hbw:b<wr.heap.size:=hbx.lt
        have hwt:w.heap.size<wr.heap.size:=(HBX.out wr hw).lt
        have hwr:w.heap.size+1<wr.heap.size:=(HBR.out wr hw).lt
        obtain ⟨W2,hW2⟩:∃ x,put0 wr (w.heap.size+1) ⟨k,b0,neg,a3,mn,c3,e,st,a4,kn,c4,va',us.length,vc'⟩=x:=⟨_,rfl⟩
        have hbox2:BoxT W2 (w.heap.size+1) ⟨k,b0,neg,a3,mn,c3,e,st,a4,kn,c4,va',us.length,vc'⟩:=by rw [← hW2];exact put0_box (HBR.out wr hw)
        have hbut:But (w.heap.size+1) wr W2:=by rw [← hW2];exact put0_but _ _ _
        have HFIN:=Lib.hid (show ∃ u:MT,Ending.returned (.agg #[.int .i64 k,.bool b0,.bool neg,.slice a3 mn c3,.int .i64 e,.string st,.slice a4 kn c4,.slice va' us.length vc'])=.returned u.c.val∧Ind (fun k=>k<w.heap.size) W2 (fun W=>Rep W u)∧u.bare=tb∧Below w.heap.size w W2 from by
          obtain ⟨ad0,cap0,e0,hvc,hvr,_,ha0,_⟩:=own_viewN ho
          cases e0
          obtain ⟨t1,t2,t3,t4,t5,t6,t7,t8⟩:=HT.out
          have hbz:=HB0.out.size
          refine ⟨.mk ⟨k,b0,neg,a3,mn,c3,e,st,a4,kn,c4,va',us.length,vc'⟩ limbs names us,rfl,?_,?_,?_⟩
          · have i1:Ind (fun k=>k<w.heap.size) W2 (fun W=>(Rd W a3 limbs∧RdV W a4 (sv names))∧∀ u∈us,Rep W u) :=
              hi.to hbut.size (fun j hj hxj=>hbut.block j hj (fun e=>hxj (.inl (by have:=HZ.out;omega)))) (fun j hj hy=>.inl (by omega)) (fun _ h=>h)
            have i2:Ind (fun k=>k<w.heap.size) W2 (fun W=>RdV W va' (flat (us.map MT.c))) :=
              (ind_rdv (X:=fun k=>k<w.heap.size∨k=w.heap.size+1) hvr (fun a e h=>by have h1:=(ha0 a e).1;have h2:=HBC.out;have h3:=HBB.out;have h4:=HZ.out;omega)).to hbut.size (fun j hj hxj=>hbut.block j hj (fun e=>hxj (.inr e))) (fun j hj hy=>.inl hy) (fun _ h=>h)
            intro W q1 q2
            obtain ⟨⟨p1,p2⟩,p3⟩:=i1 W q1 q2
            exact Rep.mk ⟨t7,HC3.out,t1,p1,t8,HC4.out,p2,rfl,hvc,i2 W q1 q2,⟨t2.1,t2.2.1,by show us.length≤_;omega⟩,t3,t4,t5,t6⟩ p3
          · rw [HTB.out,MT.bare_eq]
            show MT.mk _ _ _ _=_
            have hl:=HVL.out
            rw [show (MT.mk ⟨k,b0,neg,a3,mn,c3,e,st,a4,kn,c4,va',us.length,vc'⟩ limbs names us).v=us from rfl,hm,hun,List.take_of_length_le (by omega)]
            simp [Cel.bare,hun,MT.c]
            exact ⟨rfl,rfl⟩
          · exact (HB0.out.trans (hw.mono hbz)).trans (hbut.below (by omega) (by omega)))
        have hw2:=hW2
        unfold put0 at hw2
        simp only at hw2
        obtain ⟨d0,d1,d2,d3,d4,d5,d6,d7⟩:=hbox2.cells
        simp only at d0 d1 d2 d3 d4 d5 d6 d7
        clear hbox2 hbut hW2 hug hul hbx ho hi hm hw hs hun
        go_wp2
        exact bodyPost_ret (v:=.agg #[.int .i64 k,.bool b0,.bool neg,.slice a3 mn c3,.int .i64 e,.string st,.slice a4 kn c4,.slice va' us.length vc']) (by simp [results,Tryd.results25,go_sem,d0,d1,d2,d3,d4,d5,d6,d7]) rfl HFIN.out
theorem info_i32:(Tryd.prog.info? 21).map (fun i=>(i.zero,i.size,i.bytes))=some (some (.int .i32 0),1,4):=by kernel_rfl
theorem wpl_app (w:World) {ops:Array Oper} {rest:List Oper} {o:Oper} {a:Act} {Q:Exit→Act→World→Prop}
    (hg:o.guard=none) (s x:Operand) (hop:o.op=.call { callee:=.builtin .append,args:=#[s,x],argTypes:=#[101,101] })
    (B:Nat) (v:Value) (n:Nat) (xs:List Value) (hs:a.eval s=v) (hown:w.ownsRow B 21 1 v n xs) (g:Nat) (y:Int) (hx:a.eval x=.slice (some ⟨g,0,none⟩) 1 1) (hc:w.cell? ⟨g,0,none⟩=some (.int .i32 y))
    (hn:n≤1000000000) (hB:B≤w.heap.size)
    (h:∀ v' w',w'.ownsRow B 21 1 v' (n+1) (xs++[.int .i32 y])→w.grownBy w' v.ownBlock→wpList Tryd.prog ops Q rest (a.put o.dst v') w') :
    wpList Tryd.prog ops Q (o::rest) a w:=by
  obtain ⟨i0,hi,hz0,hz1,hz2⟩:=info_parts info_i32
  refine wpList_append_own w hg s x 101 hop B 21 i0 (.int .i32 0) 1 4 Tryd.underlying101 hi hz0 hz1 hz2 rfl (by decide) v n xs hs hown ⟨g,0,none⟩ 1 1 [.int .i32 y] hx rfl ?_ ?_ (by unfold maxLen;omega) (by omega) hB (fun v' w' h1 h2 _=>h v' w' h1 h2)
  · intro j u hj
    match j,hj with
    | 0,hj=>simp at hj;subst hj;simpa [Addr.add] using hc
  · intro u hu;simp at hu;subst hu;rfl
def rv (l:List Int):List Value:=l.map (Value.int .i32)
def RunesPost (l:List Int) (w:World) (e:Ending) (w':World):Prop :=
  ∃ v,e=.returned v∧w'.ownsRow w.heap.size 21 1 v l.length (rv l)∧Below w.heap.size w w'
def RR (s:ByteArray) (B IT:Nat) (w:World) (k:Nat) (v:Value) (wr:World):Prop :=
  ∃ pos acc,s.size - pos≤k∧acc++runesL (tailL s pos)=runesL s.data.toList∧acc.length≤pos∧pos≤s.size∧wr.ownsRow B 21 1 v acc.length (rv acc)∧wr.heap[IT]? = some (.stringIter s pos)∧Below B w wr
theorem own_below {w w':World} {B:Nat} {e:TypeId} {v:Value} {n:Nat} {xs:List Value} (h:w.ownsRow B e 1 v n xs) (hb:Below w.heap.size w w'):w'.ownsRow B e 1 v n xs:=by
  refine ⟨h.1,?_⟩
  rcases h.2 with h2 | ⟨g,cap,cur,rfl,hB,hg,rest⟩
  · exact .inl h2
  · refine .inr ⟨g,cap,cur,rfl,hB,?_,rest⟩
    rw [hb.block g (Array.getElem?_eq_some_iff.1 hg).1];exact hg
theorem iter_grown {w w':World} {B:Nat} {e:TypeId} {v:Value} {n:Nat} {xs:List Value} {IT:Nat} {s:ByteArray} {p:Nat} (hi:w.heap[IT]? = some (.stringIter s p)) (h:w.ownsRow B e 1 v n xs) (hg:w.grownBy w' v.ownBlock):w'.heap[IT]? = some (.stringIter s p):=by
  rw [hg.block IT (Array.getElem?_eq_some_iff.1 hi).1];exact hi
  intro e
  rcases h.2 with ⟨rfl,_⟩ | ⟨g,cap,cur,rfl,hB,hg,rest⟩
  · simp [Value.ownBlock] at e
  · simp [Value.ownBlock] at e;subst e;rw [hg] at hi;cases hi
theorem iter_alloc {w:World} {IT:Nat} {s:ByteArray} {p:Nat} (hi:w.heap[IT]? = some (.stringIter s p)) (o:Obj):(w.alloc o).heap[IT]? = some (.stringIter s p):=by
  rw [Lib.alloc_old w o IT (Array.getElem?_eq_some_iff.1 hi).1];exact hi
theorem RR.step {s:ByteArray} {B IT:Nat} {w wr w':World} {k pos:Nat} {acc:List Int} {v v':Value} {o:Obj} (hp:pos<s.size) (hk:s.size - pos≤k+1) (ha:acc++runesL (tailL s pos)=runesL s.data.toList) (hl:acc.length≤pos)
    (ho:wr.ownsRow B 21 1 v acc.length (rv acc)) (hi:wr.heap[IT]? = some (.stringIter s (pos+(runeL (tailL s pos)).2))) (hb:Below B w wr) (hB:B≤wr.heap.size)
    (h1:w'.ownsRow B 21 1 v' (acc.length+1) (rv acc++[.int .i32 (runeL (tailL s pos)).1])) (h2:(wr.alloc o).grownBy w' v.ownBlock):RR s B IT w k v' w':=by
  have hw:=runeL_width (tailL s pos) (tailL_ne hp)
  rw [tailL_length] at hw
  refine ⟨pos+(runeL (tailL s pos)).2,acc++[(runeL (tailL s pos)).1],by omega,?_,by simp;omega,by omega,?_,?_,?_⟩
  · rw [← ha,runesL_cons (tailL_ne hp),tailL_drop];simp
  · simpa [rv] using h1
  · exact iter_grown (iter_alloc hi o) (ho.alloc o) h2
  · exact (hb.alloc hB o).grown h2 (by simp;omega) (fun g hg=>(ho.lt g hg).1)
def Rk (k:IntKind) (w:World) (ad:Option Addr) (xs:List Int):Prop :=
  ∀ i,i<xs.length→∃ b o,ad=some ⟨b,o,none⟩∧b<w.heap.size∧w.cell? ⟨b,o+i,none⟩=some (.int k (xs.getD i 0))
theorem Rk.at {k:IntKind} {w:World} {b o:Nat} {xs:List Int} (h:Rk k w (some ⟨b,o,none⟩) xs) (i:Nat) (hi:i<xs.length) :
    w.cell? ⟨b,o+i,none⟩=some (.int k (xs.getD i 0)):=by
  obtain ⟨b',o',e,_,hc⟩:=h i hi
  cases e;exact hc
theorem Rk.nil (k:IntKind) (w:World) (ad:Option Addr):Rk k w ad []:=by intro i h;simp at h
theorem Rk.below {k:IntKind} {w w':World} {ad:Option Addr} {xs:List Int} (h:Rk k w ad xs) (hb:Below w.heap.size w w'):Rk k w' ad xs:=by
  intro i hi
  obtain ⟨b,o,e,hlt,hc⟩:=h i hi
  exact ⟨b,o,e,Nat.lt_of_lt_of_le hlt hb.size,by rw [hb.cell (p:=⟨b,o+i,none⟩) hlt];exact hc⟩
theorem own_rk {w:World} {B:Nat} {v:Value} {l:List Int} (h:w.ownsRow B 21 1 v l.length (rv l)) :
    ∃ ad cap,v=.slice ad l.length cap∧l.length≤cap∧Rk .i32 w ad l:=by
  rcases h.2 with ⟨rfl,h0⟩ | ⟨g,cap,cur,rfl,hB,hg,hc,rest⟩
  · have:l=[]:=List.eq_nil_of_length_eq_zero h0
    subst this
    exact ⟨none,0,rfl,Nat.le_refl _,Rk.nil _ _ _⟩
  · refine ⟨_,cap,rfl,hc,?_⟩
    intro i hi
    refine ⟨g,0,rfl,(Array.getElem?_eq_some_iff.1 hg).1,?_⟩
    have:=World.ownsRow.cells h (g:=g) rfl i (.int .i32 (l.getD i 0)) (by simp [rv,List.getD,hi])
    have hadd:(⟨g,0,none⟩:Addr).add i=⟨g,0+i,none⟩:=by unfold Addr.add;split <;> simp_all
    rw [hadd] at this;exact this
def JR (rs:List Int) (B:Nat) (w:World) (k:Nat) (v:Value) (wr:World):Prop :=
  ∃ i,rs.length - i≤k∧i≤rs.length∧v=.int .i64 i∧okAll (rs.take i)=true∧Lib.IsBuilderF 77 5 B B (Lib.byteCells (joinL (rs.take i))) wr∧Below B w wr∧B<wr.heap.size
theorem take_snocI (rs:List Int) (i:Nat) (hi:i<rs.length):rs.take (i+1)=rs.take i++[rs.getD i 0]:=by
  rw [List.take_succ_eq_append_getElem hi];simp [List.getD,hi]
theorem okAll_snoc {rs:List Int} {r:Int} (h:okAll rs=true) (hr:okR r=true):okAll (rs++[r])=true:=by
  simp [okAll] at h ⊢;exact ⟨h,hr⟩
theorem JR.step {rs:List Int} {B i k:Nat} {w wr w':World} {p:Value} (hi:i<rs.length) (hk:rs.length - i≤k+1) (ha:okAll (rs.take i)=true) (hr:okR (rs.getD i 0)=true) (hb:Below B w wr) (hB:B<wr.heap.size)
    (h1:Lib.BuilderAtF 77 5 B B (.pointer (some ⟨B,0,none⟩)) (Lib.byteCells (joinL (rs.take i))++Lib.runeCells (rs.getD i 0)) w') (h2:Below B wr w'):JR rs B w k (.int .i64 ((i+1:Nat):Int)) w':=by
  refine ⟨i+1,by omega,by omega,rfl,?_,?_,hb.trans h2,Nat.lt_of_lt_of_le hB h2.size⟩
  · rw [take_snocI rs i hi];exact okAll_snoc ha hr
  · rw [take_snocI rs i hi,joinL_append]
    have e:joinL [rs.getD i 0]=Lib.encodeRune (rs.getD i 0):=by rw [encodeRune_enc hr];simp [joinL]
    rw [e,Lib.byteCells_append,Lib.byteCells_encodeRune]
    exact Or.inr h1
end Go.Proofs.YticgggjfmhiilaaDoor
