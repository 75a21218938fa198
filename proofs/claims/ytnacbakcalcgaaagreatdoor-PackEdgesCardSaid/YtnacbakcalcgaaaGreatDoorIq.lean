/- Texts of the claim. -/
import Derived.Test.YtnacbakcalcgaaaGreatDoorIp
set_option linter.unusedVariables false
set_option linter.unusedSimpArgs false
set_option maxHeartbeats 200000
set_option maxRecDepth 100000
namespace Go.Proofs.YtnacbakcalcgaaaGreatDoor
open Go.RowKit Go.Lib Go.Sort
def TakI (w0:World) (g d n:Nat) (r:(IntC × List Nat) ⊕ Int) (w:World) (e:Ending) (w':World):Prop:=match r with
  | .inl (i,l)=>(∃ ua un uc xs,e=.returned (.agg #[.bool i.1,.slice ua un uc])∧ListOk w' (.slice ua un uc) 600 i.2 xs)∧StC w0 g l d n w w'
  | .inr x=>ThrowC w0 x g w e w'
theorem TakI.no {w0:World} {g d n:Nat} {r:(IntC × List Nat) ⊕ Int} {w w':World} {e:Ending} {x:Int} (h:r=.inr x) (hs:ThrowC w0 x g w e w'):TakI w0 g d n r w e w':=by
  subst h;exact hs
theorem TakI.yes {w0:World} {g d n:Nat} {r:(IntC × List Nat) ⊕ Int} {w w':World} {i:IntC} {l:List Nat} {ua:Option Addr} {un uc:Nat} {xs:List Nat} (h:r=.inl (i,l)) (hl:ListOk w' (.slice ua un uc) 600 i.2 xs) (hs:StC w0 g l d n w w'):TakI w0 g d n r w (.returned (.agg #[.bool i.1,.slice ua un uc])) w':=by
  subst h;exact ⟨⟨ua,un,uc,xs,rfl,hl⟩,hs⟩
theorem IntVal.out {w:World} {i:IntC} {v:Value} (h:IntVal w i v):∃ ua un uc xs,v=.agg #[.bool i.1,.slice ua un uc]∧ListOk w (.slice ua un uc) 600 i.2 xs:=by
  obtain ⟨u,xs,rfl,h2⟩:=h
  obtain ⟨ad,cap,rfl,h3⟩:=h2
  exact ⟨ad,_,cap,xs,rfl,ad,cap,rfl,h3⟩
def ValV (w0:World) (g d:Nat) (r:RC MT) (w:World) (e:Ending) (w':World):Prop:=match r with
  | .inl (t,l,n)=>∃ t':MT,e=.returned t'.c.val∧t'.bare=t∧Ind (fun k=>k<w.heap.size) w' (fun W=>Rep W t')∧StC w0 g l d n w w'
  | .inr x=>ThrowC w0 x g w e w'
theorem ValV.no {w0:World} {g d:Nat} {r:RC MT} {w w':World} {e:Ending} {x:Int} (h:r=.inr x) (ht:ThrowC w0 x g w e w'):ValV w0 g d r w e w':=by
  subst h;exact ht
theorem ValV.yes {w0:World} {g d:Nat} {r:RC MT} {w w':World} {e:Ending} {t:MT} {l:List Nat} {n:Nat} (t':MT) (h:r=.inl (t,l,n)) (he:e=.returned t'.c.val) (hb:t'.bare=t) (hi:Ind (fun k=>k<w.heap.size) w' (fun W=>Rep W t')) (hs:StC w0 g l d n w w'):ValV w0 g d r w e w':=by
  subst h;exact ⟨t',he,hb,hi,hs⟩
theorem own_ty {w:World} {B:Nat} {e:TypeId} {size:Nat} {v:Value} {n:Nat} {xs:List Value} (h:w.ownsRow B e size v n xs) {k:Nat} (hk:v.ownBlock=some k):∃ cs,w.heap[k]? = some (.cells cs e):=by
  rcases h.2 with ⟨rfl,_⟩ | ⟨g,cap,cur,rfl,hB,hg,_⟩
  · cases hk
  · cases hk
    exact ⟨cur,hg⟩
theorem own_apartC {w:World} {B:Nat} {e e':TypeId} {size size':Nat} {v v':Value} {n n':Nat} {xs xs':List Value} (h:w.ownsRow B e size v n xs) (h':w.ownsRow B e' size' v' n' xs') (hne:e ≠ e') {k:Nat} (hk:v.ownBlock=some k):v'.ownBlock ≠ some k:=by
  intro hk'
  obtain ⟨c1,h1⟩:=own_ty h hk
  obtain ⟨c2,h2⟩:=own_ty h' hk'
  rw [h1] at h2
  cases h2
  exact hne rfl
structure ItC (w0:World) (g d n:Nat) (l:List Nat) (w wS:World) (nv:Value) (us:List MT) (va:Option Addr) (vc:Nat) (W:World):Prop where
  st:StC w0 g l d n w W
  low:w.heap.size≤wS.heap.size
  gB:g<w.heap.size
  w0w:w0.heap.size≤w.heap.size
  BW:wS.heap.size≤W.heap.size
  ow:W.ownsRow wS.heap.size 29 8 (.slice va us.length vc) us.length (flat (us.map MT.c))
  ind:Ind (fun k=>k<wS.heap.size∨nv.ownBlock=some k∨(Value.slice va us.length vc).ownBlock=some k) W (fun W=>∀ u∈us,Rep W u)
  kp:∀ k,w.heap.size≤k→k<wS.heap.size→W.heap[k]? = wS.heap[k]?
theorem ItC.start {w0:World} {g d n:Nat} {l:List Nat} {w wS:World} (h:StC w0 g l d n w wS) (hg:g<w.heap.size) (h0:w0.heap.size≤w.heap.size) (nv:Value):ItC w0 g d n l w wS nv [] none 0 wS :=
  ⟨h,h.oth.size,hg,h0,Nat.le_refl _,World.ownsRow_nil _ _ _ _,fun W _ _=>nofun,fun _ _ _=>rfl⟩
theorem ItC.on {w0:World} {g d n d' n':Nat} {l l':List Nat} {w wS:World} {nv:Value} {us:List MT} {va:Option Addr} {vc:Nat} {W W':World} (h:ItC w0 g d n l w wS nv us va vc W) (s:StC w0 g l' d' n' W W'):ItC w0 g d' n' l' w wS nv us va vc W' :=
  ⟨h.st.trans s,h.low,h.gB,h.w0w,Nat.le_trans h.BW s.oth.size,own_but h.ow s.oth (Nat.lt_of_lt_of_le h.gB h.low),
    h.ind.to s.oth.size (fun k hk hx=>s.oth.block k hk (fun e=>hx (.inl (by have:=h.gB;have:=h.low;omega)))) (fun _ _ h=>h) (fun _ h=>h),
    fun k h1 h2=>(s.oth.block k (Nat.lt_of_lt_of_le h2 h.BW) (by have:=h.gB;omega)).trans (h.kp k h1 h2)⟩
theorem ItC.add {w0:World} {g d n d1 n1:Nat} {l l1:List Nat} {w wS:World} {nv:Value} {us:List MT} {x:MT} {va:Option Addr} {vc gg cap:Nat} {wr w1 w3 w5:World}
    (h:ItC w0 g d n l w wS nv us va vc wr) (s1:StC w0 g l1 d1 n1 wr w1) (hx:Ind (fun k=>k<wr.heap.size) w1 (fun W=>Rep W x)) (h3:Below w1.heap.size w1 w3)
    (ho5:w5.ownsRow wS.heap.size 29 8 (.slice (some ⟨gg,0,none⟩) (us.length+1) cap) (us.length+1) (flat (us.map MT.c)++x.c.cells)) (hg5:w3.grownBy w5 (Value.slice va us.length vc).ownBlock) (hor:(Value.slice va us.length vc).ownBlock=some gg∨gg=w3.heap.size)
    (hnv:∀ k,nv.ownBlock=some k→wS.heap.size≤k∧k<wr.heap.size):ItC w0 g d1 n1 l1 w wS nv (us++[x]) (some ⟨gg,0,none⟩) cap w5:=by
  have hi1:=h.on s1
  have h13:=hi1.on (StC.of_below s1.rd h3)
  have hown:∀ k,(Value.slice va us.length vc).ownBlock=some k→wS.heap.size≤k∧k<wr.heap.size:=fun k hk=>own_bd h.ow hk
  have hs1:=s1.oth.size;have hs3:=h3.size;have hs5:=hg5.size;have hBW:=h.BW;have hlow:=h.low;have hgB:=h.gB
  have hkeep:∀ k,k<w1.heap.size→(Value.slice va us.length vc).ownBlock ≠ some k→w5.heap[k]? = w1.heap[k]?:=fun k hk hne=>by
    rw [hg5.block k (by omega) (fun e=>hne e.symm),h3.block k hk]
  have e1:(us++[x]).length=us.length+1:=by simp
  have e2:flat ((us++[x]).map MT.c)=flat (us.map MT.c)++x.c.cells:=by simp [flat]
  refine ⟨h13.st.grown h13.ow hlow hg5 hgB h.w0w,hlow,hgB,h.w0w,by omega,by rw [e1,e2];exact ho5,?_,?_⟩
  · intro W hs hk y hy
    have hW:∀ k,k<w1.heap.size→wS.heap.size≤k→nv.ownBlock ≠ some k→(Value.slice va us.length vc).ownBlock ≠ some k→W.heap[k]? = w1.heap[k]?:=fun k q1 q2 q3 q4=>by
      rw [hk k (by omega) (fun hx=>by
        rcases hx with hx | hx | hx
        · omega
        · exact q3 hx
        · rw [e1] at hx
          simp only [Value.ownBlock,Option.some.injEq] at hx
          rcases hor with ho | ho
          · rw [hx] at ho;exact q4 ho
          · omega),hkeep k q1 q4]
    rcases List.mem_append.1 hy with hy | hy
    · exact hi1.ind W (by omega) (fun k hk1 hk2=>hW k hk1 (Nat.le_of_not_lt (fun h=>hk2 (.inl h))) (fun e=>hk2 (.inr (.inl e))) (fun e=>hk2 (.inr (.inr e)))) y hy
    · rw [List.mem_singleton.1 hy]
      exact hx W (by omega) (fun k hk1 hk2=>hW k hk1 (by omega) (fun e=>by have:=(hnv k e).2;omega) (fun e=>by have:=(hown k e).2;omega))
  · intro k q1 q2
    rw [hkeep k (by omega) (fun e=>by have:=(hown k e).1;omega)]
    exact hi1.kp k q1 q2
def NmC (wS:World) (ks:List ByteArray) (ka:Option Addr) (kc:Nat) (W:World):Prop:=W.ownsRow wS.heap.size 9 1 (.slice ka ks.length kc) ks.length (sv ks)
theorem NmC.on {w0:World} {g d n:Nat} {l:List Nat} {wS:World} {ks:List ByteArray} {ka:Option Addr} {kc:Nat} {W W':World} (h:NmC wS ks ka kc W) (s:StC w0 g l d n W W') (hg:g<wS.heap.size):NmC wS ks ka kc W':=own_but h s.oth hg
theorem NmC.add {w0:World} {g d n:Nat} {l:List Nat} {wS:World} {ks:List ByteArray} {ka:Option Addr} {kc:Nat} {us:List MT} {va:Option Addr} {vc:Nat} {w1 w3 w5:World} (hn:NmC wS ks ka kc w1) (ho:w3.ownsRow wS.heap.size 29 8 (.slice va us.length vc) us.length (flat (us.map MT.c))) (h3:Below w1.heap.size w1 w3) (hg5:w3.grownBy w5 (Value.slice va us.length vc).ownBlock):NmC wS ks ka kc w5:=by
  have hn3:NmC wS ks ka kc w3:=own_onN hn h3
  exact own_keep hn3 (fun k hk=>hg5.block k (own_bd hn3 hk).2 (fun e=>own_apartC hn3 ho (by decide) hk e.symm))
def NdC (V:List Nat→Nat→RC MT):Prop:=∀ l n p,n≤2000→V l n=.inl p→p.2.2≤2000
theorem barr_bare (va:Option Addr) (n c:Nat) (us:List MT) (h:us.length=n):(arrT va n c us).bare=barrC (us.map MT.bare):=by
  rw [MT.bare_eq];unfold barrC;rw [List.length_map,h];rfl
theorem ItC.rep {w0:World} {g d n:Nat} {l:List Nat} {w wS:World} {nv:Value} {us:List MT} {va:Option Addr} {vc:Nat} {W:World} (h:ItC w0 g d n l w wS nv us va vc W) (hnv:∀ k,nv.ownBlock=some k→wS.heap.size≤k) (hm:us.length≤1000000000000000):Ind (fun k=>k<wS.heap.size) W (fun W=>Rep W (arrT va us.length vc us)):=by
  obtain ⟨_,_,e1,hvc,hvr,_,hva,_⟩:=own_viewN h.ow
  cases e1
  intro W' h1 h2
  refine arrT_rep rfl hvc hm (ind_rdv (X:=fun k=>k<wS.heap.size) hvr (fun a e hx=>by have:=(hva a e).1;omega) W' h1 h2) (h.ind W' h1 (fun k hk hx=>h2 k hk (fun h=>hx (.inl h))))
def arrW:RC (List MT)→RC MT
  | .inr x=>.inr x
  | .inl (us,r,n)=>.inl (barrC us,r,n)
end Go.Proofs.YtnacbakcalcgaaaGreatDoor
namespace Go.Proofs.YtnacbakcalcgaaaGreatDoor
theorem keyB_get (l:List ByteArray) (i:Nat) (hi:i<l.length):keyB l i=l[i].toList:=by unfold keyB;simp [List.getD,hi]
theorem toList_inj {a b:ByteArray} (h:a.toList=b.toList):a=b:=by
  rw [ByteArray.toList_eq,ByteArray.toList_eq] at h
  exact WideShapes.bytes_inj h
theorem twc_nodup {l:List ByteArray} {n lo:Nat} {f:Bool} (hn:l.length=n) (h:Twc (keyB l) n lo f):f=false ↔ l.Nodup:=by
  constructor
  · intro hf
    rw [List.nodup_iff_pairwise_ne,List.pairwise_iff_getElem]
    intro i j hi hj hij e
    have:=(h.1 hf).2 j (by omega) i hij
    rw [keyB_get l i hi,keyB_get l j hj,e] at this
    exact this rfl
  · intro hd
    cases f
    · rfl
    · obtain ⟨h1,⟨i,h2,h3⟩,_⟩:=h.2 rfl
      rw [keyB_get l i (by omega),keyB_get l lo (by omega)] at h3
      have:=(List.getElem_inj hd).1 (toList_inj h3)
      omega
theorem pickB_len (l:List ByteArray) (S:List Nat):(pickB l S).length=S.length:=by simp [pickB]
end Go.Proofs.YtnacbakcalcgaaaGreatDoor
