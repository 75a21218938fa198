/- Texts of the claim. -/
import Derived.Test.YtijaphbccnadbaaGreatDoorUr
import Derived.Test.YtijaphbccnadbaaGreatDoorUl
import Derived.Test.YtijaphbccnadbaaGreatDoorUt
import Derived.Deep.AppendLies
import Derived.Test.YtijaphbccnadbaaGreatDoorUq
set_option linter.unusedVariables false
set_option linter.unusedSimpArgs false
set_option maxHeartbeats 4000000
set_option maxRecDepth 100000
namespace Go.Proofs.YtijaphbccnadbaaGreatDoor
open Go.RowKit Go.Shelf
theorem nodesL_app (l r:List MT):MT.nodesL (l++r)=MT.nodesL l+MT.nodesL r:=by
  induction l with
  | nil=>rw [List.nil_append,MT.nodesL_nil];omega
  | cons t l ih=>rw [List.cons_append,MT.nodesL_cons,MT.nodesL_cons,ih];omega
theorem nodesL_cut (l:List MT) (p j:Nat) (h:p≤j):MT.nodesL (l.take p++l.drop j)≤MT.nodesL l:=by
  have h1:MT.nodesL l=MT.nodesL (l.take p)+MT.nodesL (l.drop p):=by rw [← nodesL_app,List.take_append_drop]
  have h2:MT.nodesL (l.drop p)=MT.nodesL ((l.drop p).take (j - p))+MT.nodesL ((l.drop p).drop (j - p)):=by rw [← nodesL_app,List.take_append_drop]
  rw [List.drop_drop,show p+(j - p)=j by omega] at h2
  rw [nodesL_app]
  omega
structure ObjOk (t:MT):Prop where
  k7:t.c.k=7
  kn:t.c.kn=t.k.length
  vn:t.c.vn=t.v.length
  kv:t.k.length=t.v.length
  le:t.k.length≤300
  ris:Ris t.k
  nums:NumsOk t
  nodes:t.nodes≤2000
structure PlaceOk (t:MT) (s:ByteArray) (p j:Nat) (has:Bool):Prop where
  spl:Spl t.k s p j
  yes:has=true→ixL t.k s=some p∧j=p+1
  no:has=false→ixL t.k s=none∧j=p∧plL t.k s=p
structure UnsetY (t:MT) (p j:Nat) (y:MT):Prop where
  k7:y.c.k=7
  k:y.k=t.k.take p++t.k.drop j
  v:y.v=t.v.take p++t.v.drop j
  kn:y.c.kn=y.k.length
  vn:y.c.vn=y.v.length
  le:y.k.length+j=t.k.length+p
theorem UnsetY.same {t y z:MT} {p j:Nat} (hy:UnsetY t p j y) (hz:UnsetY t p j z):sameM y z=true :=
  sameM_obj hy.k7 hz.k7 (by rw [hy.k,hz.k]) (by rw [hy.v,hz.v]) (by rw [hy.vn,hz.vn,hy.v,hz.v])
theorem UnsetY.nodes {t y:MT} {p j:Nat} (h:ObjOk t) (hpj:p≤j) (hy:UnsetY t p j y):y.nodes≤1000000:=by
  have h1:=nodesL_cut t.v p j hpj
  have h2:=MT.nodes_eq t
  have h3:=h.nodes
  rw [MT.nodes_eq,hy.v]
  omega
theorem UnsetY.back {t y:MT} {s:ByteArray} {p j:Nat} (h:ObjOk t) (hp:PlaceOk t s p j false) (hy:UnsetY t p j y):sameM y t=true:=by
  obtain ⟨h1,h2,h3⟩:=hp.no rfl
  subst h2
  exact sameM_obj hy.k7 h.k7 (by rw [hy.k,List.take_append_drop]) (by rw [hy.v,List.take_append_drop]) (by rw [hy.vn,h.vn,hy.v,List.take_append_drop])
def Cel.bare (c:Cel):Cel:=⟨c.k,c.b,c.neg,none,c.mn,0,c.e,c.s,none,c.kn,0,none,c.vn,0⟩
mutual
def MT.bare:MT→MT | .mk c m k v=>.mk c.bare m k (MT.bareL v)
def MT.bareL:List MT→List MT | []=>[] | t::l=>MT.bare t::MT.bareL l
end
theorem MT.bareL_map (l:List MT):MT.bareL l=l.map MT.bare:=by
  induction l with
  | nil=>rw [MT.bareL];rfl
  | cons t l ih=>rw [MT.bareL,ih];rfl
theorem MT.bare_eq (t:MT):t.bare=.mk t.c.bare t.m t.k (t.v.map MT.bare):=by
  obtain ⟨c,m,k,v⟩:=t
  rw [MT.bare,MT.bareL_map];rfl
def Sml (t:MT):Prop:=∀ s,t.sub s→s.c.mn≤1000000∧s.c.kn≤1000000∧s.c.vn≤1000000
theorem Sml.part {t s:MT} (h:Sml t) (hs:s∈t.v):Sml s:=fun u hu=>h u (MT.sub_v hs hu)
def Ind (X:Nat→Prop) (w:World) (P:World→Prop):Prop:=∀ W,w.heap.size≤W.heap.size→(∀ k,k<w.heap.size→¬ X k→W.heap[k]? = w.heap[k]?)→P W
theorem Ind.here {X:Nat→Prop} {w:World} {P:World→Prop} (h:Ind X w P):P w:=h w (Nat.le_refl _) (fun _ _ _=>rfl)
theorem Ind.to {X Y:Nat→Prop} {w w':World} {P Q:World→Prop} (h:Ind X w P) (hs:w.heap.size≤w'.heap.size) (hk:∀ k,k<w.heap.size→¬ X k→w'.heap[k]? = w.heap[k]?) (hy:∀ k,k<w.heap.size→Y k→X k) (hq:∀ W,P W→Q W):Ind Y w' Q :=
  fun W h1 h2=>hq W (h W (Nat.le_trans hs h1) (fun k hlt hx=>(h2 k (Nat.lt_of_lt_of_le hlt hs) (fun hyk=>hx (hy k hlt hyk))).trans (hk k hlt hx)))
theorem Ind.below {X:Nat→Prop} {w w':World} {P:World→Prop} (h:Ind X w P) (hb:Below w.heap.size w w'):Ind X w' P :=
  h.to hb.size (fun k hk _=>hb.block k hk) (fun _ _ h=>h) (fun _ h=>h)
theorem ind_rdv {X:Nat→Prop} {w:World} {ad:Option Addr} {vs:List Value} (h:RdV w ad vs) (hx:∀ a,ad=some a→¬ X a.block):Ind X w (fun W=>RdV W ad vs):=by
  intro W hs hk i hi
  obtain ⟨b,o,e,hlt,hc⟩:=h i hi
  exact ⟨b,o,e,Nat.lt_of_lt_of_le hlt hs,by rw [World.cell?_of_block (w:=w) (hk b hlt (hx _ e))];exact hc⟩
theorem ind_rd {X:Nat→Prop} {w:World} {ad:Option Addr} {xs:List Nat} (h:Rd w ad xs) (hx:∀ a,ad=some a→¬ X a.block):Ind X w (fun W=>Rd W ad xs):=by
  intro W hs hk i hi
  obtain ⟨b,o,e,hlt,hc⟩:=h i hi
  exact ⟨b,o,e,Nat.lt_of_lt_of_le hlt hs,by rw [World.cell?_of_block (w:=w) (hk b hlt (hx _ e))];exact hc⟩
theorem box_set {w:World} {b:Nat} {k:Int} {b0 neg:Bool} {ma:Option Addr} {mn mc:Nat} {e:Int} {st:ByteArray} {ka:Option Addr} {kn kc:Nat} {va:Option Addr} {vn vc:Nat} (h:BoxT w b ⟨k,b0,neg,ma,mn,mc,e,st,ka,kn,kc,va,vn,vc⟩) (va':Option Addr) (vn' vc':Nat) :
    BoxT (w.setCell ⟨b,7,none⟩ (.slice va' vn' vc')) b ⟨k,b0,neg,ma,mn,mc,e,st,ka,kn,kc,va',vn',vc'⟩:=by
  unfold BoxT at h ⊢
  simp only [World.setCell,Array.getElem?_modify,h]
  simp [Cel.cells]
theorem set_cells {w:World} {b g h q:Nat} (v:Value) {vT v0 v1 v2 v3 v4 v5 v6 v7:Value} (h1:g ≠ b) (h2:h ≠ b) (c:w.cell? ⟨g,7,none⟩=some vT)
    (d:w.cell? ⟨h,q,none⟩=some v0∧w.cell? ⟨h,q+1,none⟩=some v1∧w.cell? ⟨h,q+2,none⟩=some v2∧w.cell? ⟨h,q+3,none⟩=some v3∧w.cell? ⟨h,q+4,none⟩=some v4∧w.cell? ⟨h,q+5,none⟩=some v5∧w.cell? ⟨h,q+6,none⟩=some v6∧w.cell? ⟨h,q+7,none⟩=some v7) :
    (w.setCell ⟨b,7,none⟩ v).cell? ⟨g,7,none⟩=some vT∧(w.setCell ⟨b,7,none⟩ v).cell? ⟨h,q,none⟩=some v0∧(w.setCell ⟨b,7,none⟩ v).cell? ⟨h,q+1,none⟩=some v1∧(w.setCell ⟨b,7,none⟩ v).cell? ⟨h,q+2,none⟩=some v2∧(w.setCell ⟨b,7,none⟩ v).cell? ⟨h,q+3,none⟩=some v3∧(w.setCell ⟨b,7,none⟩ v).cell? ⟨h,q+4,none⟩=some v4∧(w.setCell ⟨b,7,none⟩ v).cell? ⟨h,q+5,none⟩=some v5∧(w.setCell ⟨b,7,none⟩ v).cell? ⟨h,q+6,none⟩=some v6∧(w.setCell ⟨b,7,none⟩ v).cell? ⟨h,q+7,none⟩=some v7:=by
  obtain ⟨d0,d1,d2,d3,d4,d5,d6,d7⟩:=d
  refine ⟨?_,?_,?_,?_,?_,?_,?_,?_,?_⟩ <;> (rw [World.cell?_setCell_other (h:=by simp [h1,h2])];assumption)
theorem step_appT {w:World} {ops:Array Oper} {o:Oper} {a:Act} {K:Act→World→Prop} {Q:Exit→Act→World→Prop} {E:Prop} (hgd:o.guard=none) (s x:Operand)
    (ho:o.op=.call { callee:=.builtin .append,args:=#[s,x],argTypes:=#[26,26] }) (B:Nat) (v:Value) (n:Nat) (xs:List Value) (hs:a.eval s=v) (hown:w.ownsRow B 28 8 v n xs)
    (ad:Addr) (c:Nat) (y:Cel) (hx:a.eval x=.slice (some ad) 1 c) (hr:RdV w (some ad) y.cells) (hn:n≤1000000000) (hB:B≤w.heap.size)
    (h:∀ g cap w',w'.ownsRow B 28 8 (.slice (some ⟨g,0,none⟩) (n+1) cap) (n+1) (xs++y.cells)→w.grownBy w' v.ownBlock→(v.ownBlock=some g∨g=w.heap.size)→K (a.put o.dst (.slice (some ⟨g,0,none⟩) (n+1) cap)) w') :
    if Region.wanted o (yielded ops a.tmps)=true then Oper.wp Tryz.prog o a w K Q else E:=by
  obtain ⟨i0,hi,hz0,hz1,hz2⟩:=info_parts info_tree
  refine step_append_lies w hgd s x 26 ho B 28 i0 zeroC.val 8 120 Tryz.underlying26 hi hz0 hz1 hz2 rfl (by decide) v n xs hs hown ad 1 c y.cells hx rfl ?_ (cel_one y) (by decide) (by unfold maxLen;omega) (by omega) hB _ rfl (fun g cap w' h1 h2 h3 _=>h g cap w' h1 h2 h3)
  intro j u hj
  have hjl:j<y.cells.length:=(List.getElem?_eq_some_iff.1 hj).1
  obtain ⟨b,o',e,_,hc⟩:=hr j hjl
  cases e
  have hadd:(⟨b,o',none⟩:Addr).add j=⟨b,o'+j,none⟩:=by unfold Addr.add;split <;> simp_all
  rw [hadd,hc,hj]
end Go.Proofs.YtijaphbccnadbaaGreatDoor
namespace Go.Proofs.YtijaphbccnadbaaGreatDoor
open Go.RowKit Go.Shelf Go.Lib
abbrev PRJ:=(MT × List UInt8 × Nat) ⊕ Int
def wordL (W:List UInt8) (t:MT) (s:List UInt8) (n:Nat):PRJ:=if Lib.hasPrefix s W=true then .inl (t,Lib.trimPrefix s W,n) else .inr 2
def ValJ (g d:Nat) (r:PRJ) (w:World) (e:Ending) (w':World):Prop :=
  match r with
  | .inl (t,l,n)=>∃ t':MT,e=.returned t'.c.val∧t'.bare=t∧Ind (fun k=>k<w.heap.size) w' (fun W=>Rep W t')∧StJ g l d n w w'
  | .inr x=>ThrowJ x g w e w'
theorem ValJ.no {g d:Nat} {r:PRJ} {w w':World} {e:Ending} {x:Int} (h:r=.inr x) (ht:ThrowJ x g w e w'):ValJ g d r w e w':=by
  subst h;exact ht
theorem ValJ.yes {g d:Nat} {r:PRJ} {w w':World} {e:Ending} {t:MT} {l:List UInt8} {n:Nat} (t':MT) (h:r=.inl (t,l,n)) (he:e=.returned t'.c.val) (hb:t'.bare=t) (hi:Ind (fun k=>k<w.heap.size) w' (fun W=>Rep W t')) (hs:StJ g l d n w w'):ValJ g d r w e w':=by
  subst h;exact ⟨t',he,hb,hi,hs⟩
theorem Oth.trans' {g:Nat} {w W:World} (h:Oth g w W) {b:Nat} (hb:w.heap.size≤b) (i:Nat) (v:Value):Oth g w (W.setCell ⟨b,i,none⟩ v) :=
  ⟨h.os,h.tape,h.output,by simpa [World.setCell] using h.size,fun k hk hg=>(Below.heap_setCell _ _ _ _ (by simp;omega)).trans (h.block k hk hg)⟩
theorem StJ.fresh {g:Nat} {l:List UInt8} {d n:Nat} {w W:World} (h:StJ g l d n w W) {b:Nat} (hb:w.heap.size≤b) (hg:b ≠ g) (i:Nat) (v:Value):StJ g l d n w (W.setCell ⟨b,i,none⟩ v):=by
  refine ⟨h.oth.trans' hb i v,?_⟩
  have:=h.rd
  unfold RdJ at *
  rw [Below.heap_setCell _ _ _ _ (by simpa using fun e=>hg e.symm)]
  exact this
def WordJ (g d:Nat) (W:List UInt8) (c:Cel) (s:List UInt8) (n:Nat) (w:World) (e:Ending) (w':World):Prop :=
  (Lib.hasPrefix s W=true∧e=.returned c.val∧StJ g (Lib.trimPrefix s W) d n w w')∨(Lib.hasPrefix s W=false∧ThrowJ 2 g w e w')
theorem word_any (g d n:Nat) (W:List UInt8) (c:Cel) (l:List UInt8) (w:World) (hr:RdJ g l d n w) :
    Calls Tryz.prog 46 #[.pointer (some ⟨g,0,none⟩),.string ⟨W.toArray⟩,c.val] w (WordJ g d W c l n w):=by
  obtain ⟨k,b,neg,ma,mn,mc,e,s,ka,kn,kc,va,vn,vc⟩:=c
  have hb1:Below w.heap.size w ((w.alloc (.cells #[.int .i64 k,.bool b,.bool neg,.slice ma mn mc,.int .i64 e,.string s,.slice ka kn kc,.slice va vn vc] 28)).alloc (.cells #[.int .i64 0,.bool false,.bool false,.slice none 0 0,.int .i64 0,.string ⟨#[]⟩,.slice none 0 0,.slice none 0 0] 28)) :=
    ((Below.refl _ _).alloc (Nat.le_refl _) _).alloc (by simp) _
  have hr2:=hr.on hb1
  have HB:=Lib.hid (StJ.of_below hr hb1)
  have c0:=hr2.c0
  have f0:=hr2.fz 0
  have KC:=Lib.hid (Tryz.strings_CutPrefix ⟨l.toArray⟩ ⟨W.toArray⟩ ((w.alloc (.cells #[.int .i64 k,.bool b,.bool neg,.slice ma mn mc,.int .i64 e,.string s,.slice ka kn kc,.slice va vn vc] 28)).alloc (.cells #[.int .i64 0,.bool false,.bool false,.slice none 0 0,.int .i64 0,.string ⟨#[]⟩,.slice none 0 0,.slice none 0 0] 28)))
  have hlt:=hr.lt
  clear hr hr2 hb1
  dsimp only [Cel.val]
  go_enter Tryz.func46,Tryz.ntmps46
  go_wp2_with fail
  refine KC.out.mono ?_
  rintro r w1 ⟨rfl,rfl⟩
  generalize hW:((w.alloc (.cells #[.int .i64 k,.bool b,.bool neg,.slice ma mn mc,.int .i64 e,.string s,.slice ka kn kc,.slice va vn vc] 28)).alloc (.cells #[.int .i64 0,.bool false,.bool false,.slice none 0 0,.int .i64 0,.string ⟨#[]⟩,.slice none 0 0,.slice none 0 0] 28))=w1 at *
  obtain ⟨q0,q1⟩:w1.heap[w.heap.size]? = some (.cells #[.int .i64 k,.bool b,.bool neg,.slice ma mn mc,.int .i64 e,.string s,.slice ka kn kc,.slice va vn vc] 28) ∧
      w1.heap[w.heap.size+1]? = some (.cells #[.int .i64 0,.bool false,.bool false,.slice none 0 0,.int .i64 0,.string ⟨#[]⟩,.slice none 0 0,.slice none 0 0] 28):=by
    rw [← hW]
    refine ⟨(Below.heap_alloc _ _ _ (by simp)).trans (heap_alloc_new w _),?_⟩
    have:=heap_alloc_new (w.alloc (.cells #[.int .i64 k,.bool b,.bool neg,.slice ma mn mc,.int .i64 e,.string s,.slice ka kn kc,.slice va vn vc] 28)) (.cells #[.int .i64 0,.bool false,.bool false,.slice none 0 0,.int .i64 0,.string ⟨#[]⟩,.slice none 0 0,.slice none 0 0] 28)
    simpa using this
  clear hW KC
  cases hp:Lib.hasPrefix l W with
  | false =>
    have HP:=Lib.hid hp
    clear hp q0 q1
    go_wp2
    exact ⟨rfl,.inr ⟨HP.out,rfl,_,_,_,HB.out⟩⟩
  | true =>
    have HP:=Lib.hid hp
    have HL:=Lib.hid (HB.out.left (l':=Lib.trimPrefix l W))
    clear hp
    have n1:¬ w.heap.size=g:=by omega
    have n2:¬ w.heap.size+1=g:=by omega
    have n3:¬ g=w.heap.size:=by omega
    have n4:¬ g=w.heap.size+1:=by omega
    have x0:w1.cell? ⟨w.heap.size,0,none⟩=some (.int .i64 k):=by simp [World.cell?,q0]
    have x1:w1.cell? ⟨w.heap.size,1,none⟩=some (.bool b):=by simp [World.cell?,q0]
    have x2:w1.cell? ⟨w.heap.size,2,none⟩=some (.bool neg):=by simp [World.cell?,q0]
    have x3:w1.cell? ⟨w.heap.size,3,none⟩=some (.slice ma mn mc):=by simp [World.cell?,q0]
    have x4:w1.cell? ⟨w.heap.size,4,none⟩=some (.int .i64 e):=by simp [World.cell?,q0]
    have x5:w1.cell? ⟨w.heap.size,5,none⟩=some (.string s):=by simp [World.cell?,q0]
    have x6:w1.cell? ⟨w.heap.size,6,none⟩=some (.slice ka kn kc):=by simp [World.cell?,q0]
    have x7:w1.cell? ⟨w.heap.size,7,none⟩=some (.slice va vn vc):=by simp [World.cell?,q0]
    have y0:w1.cell? ⟨w.heap.size+1,0,none⟩=some (.int .i64 0):=by simp [World.cell?,q1]
    have y1:w1.cell? ⟨w.heap.size+1,1,none⟩=some (.bool false):=by simp [World.cell?,q1]
    have y2:w1.cell? ⟨w.heap.size+1,2,none⟩=some (.bool false):=by simp [World.cell?,q1]
    have y3:w1.cell? ⟨w.heap.size+1,3,none⟩=some (.slice none 0 0):=by simp [World.cell?,q1]
    have y4:w1.cell? ⟨w.heap.size+1,4,none⟩=some (.int .i64 0):=by simp [World.cell?,q1]
    have y5:w1.cell? ⟨w.heap.size+1,5,none⟩=some (.string ⟨#[]⟩):=by simp [World.cell?,q1]
    have y6:w1.cell? ⟨w.heap.size+1,6,none⟩=some (.slice none 0 0):=by simp [World.cell?,q1]
    have y7:w1.cell? ⟨w.heap.size+1,7,none⟩=some (.slice none 0 0):=by simp [World.cell?,q1]
    have z0:w1.frozen? ⟨w.heap.size+1,0,none⟩=false:=by simp [World.frozen?,q1]
    have z1:w1.frozen? ⟨w.heap.size+1,1,none⟩=false:=by simp [World.frozen?,q1]
    have z2:w1.frozen? ⟨w.heap.size+1,2,none⟩=false:=by simp [World.frozen?,q1]
    have z3:w1.frozen? ⟨w.heap.size+1,3,none⟩=false:=by simp [World.frozen?,q1]
    have z4:w1.frozen? ⟨w.heap.size+1,4,none⟩=false:=by simp [World.frozen?,q1]
    have z5:w1.frozen? ⟨w.heap.size+1,5,none⟩=false:=by simp [World.frozen?,q1]
    have z6:w1.frozen? ⟨w.heap.size+1,6,none⟩=false:=by simp [World.frozen?,q1]
    have z7:w1.frozen? ⟨w.heap.size+1,7,none⟩=false:=by simp [World.frozen?,q1]
    have HQ:=Lib.hid q1
    have HQ0:=Lib.hid (show Below w.heap.size w w from Below.refl _ _)
    clear q0 q1
    generalize hB:w.heap.size=B at *
    go_wp2
    have n5:w.heap.size≤B+1:=by omega
    refine bodyPost_ret (v:=.agg #[.int .i64 k,.bool b,.bool neg,.slice ma mn mc,.int .i64 e,.string s,.slice ka kn kc,.slice va vn vc]) (by simp [results,Tryz.results46,go_sem,y0,y1,y2,y3,y4,y5,y6,y7,n1,n2,n3,n4]) rfl (.inl ⟨HP.out,rfl,?_⟩)
    exact (((((((HL.out.fresh n5 n2 _ _).fresh n5 n2 _ _).fresh n5 n2 _ _).fresh n5 n2 _ _).fresh n5 n2 _ _).fresh n5 n2 _ _).fresh n5 n2 _ _).fresh n5 n2 _ _
end Go.Proofs.YtijaphbccnadbaaGreatDoor
