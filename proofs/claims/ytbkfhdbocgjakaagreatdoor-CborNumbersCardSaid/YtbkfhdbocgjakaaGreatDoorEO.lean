/- Texts of the claim. -/
import Derived.Test.YtbkfhdbocgjakaaGreatDoorEN
set_option linter.unusedVariables false
set_option linter.unusedSimpArgs false
set_option maxHeartbeats 16000000
set_option maxRecDepth 100000
namespace Go.Proofs.YtbkfhdbocgjakaaGreatDoor
open Go.RowKit Go.Lib Go.Sort
theorem big_bytes (k:Nat) (hk:k<1099511627776):bytesL k 5=[k / 4294967296,k / 16777216 % 256,k / 65536 % 256,k / 256 % 256,k % 256]:=by
  simp only [bytesL]
  have e4:(256:Nat) ^ 4=4294967296:=by decide
  have e3:(256:Nat) ^ 3=16777216:=by decide
  have e2:(256:Nat) ^ 2=65536:=by decide
  have e1:(256:Nat) ^ 1=256:=by decide
  rw [e4,e3,e2,e1,Nat.pow_zero,Nat.div_one,Nat.mod_eq_of_lt (show k / 4294967296<256 by omega)]
theorem own_lits (w:World) (ns:List Nat) (cs:Array Value) (hc:cs=(bc ns).toArray) (n:Nat) (hn:ns.length=n) (hm:n≤1000):(w.alloc (.cells cs 5)).ownsRow w.heap.size 5 1 (.slice (some ⟨w.heap.size,0,none⟩) n n) n (bc ns):=by
  subst hc hn
  refine ⟨by rw [bc_len,Nat.mul_one],.inr ⟨w.heap.size,ns.length,(bc ns).toArray,rfl,Nat.le_refl _,heap_alloc_new _ _,Nat.le_refl _,by unfold maxLen;omega,by simp [bc_len],?_⟩⟩
  rw [Nat.mul_one,List.take_of_length_le (by simp [bc_len])]
structure Byt (w:World) (v:Value) (l:List Nat):Prop where
  at_:∃ ad n cap,v=.slice ad n cap∧l.length=n∧n≤cap∧RdV w ad (bc l)∧Shp ad cap∧(ad=none→cap=0)
theorem Byt.on {w w':World} {v:Value} {l:List Nat} (h:Byt w v l) (hb:Below w.heap.size w w'):Byt w' v l:=by
  obtain ⟨ad,n,cap,h1,h2,h3,h4,h5,h6⟩:=h.at_
  exact ⟨⟨ad,n,cap,h1,h2,h3,h4.on hb,h5,h6⟩⟩
theorem Byt.own {w:World} {B:Nat} {v:Value} {n:Nat} {l:List Nat} (h:w.ownsRow B 5 1 v n (bc l)):Byt w v l:=by
  have hl:l.length=n:=by have:=h.1;rw [bc_len] at this;omega
  rcases h.2 with ⟨rfl,h0⟩ | ⟨g,cap,cur,rfl,_,_,hc,_⟩
  · subst h0
    have:l=[]:=List.eq_nil_of_length_eq_zero hl
    subst this
    exact ⟨none,0,0,rfl,rfl,Nat.le_refl _,RdV.nil _ _,.inl ⟨rfl,rfl⟩,fun _=>rfl⟩
  · obtain ⟨ad,cap',e,_,hr,_⟩:=own_viewN h
    simp only [Value.slice.injEq] at e
    obtain ⟨rfl,_,rfl⟩:=e
    exact ⟨_,n,cap,rfl,hl,hc,hr,.inr ⟨_,_,rfl⟩,fun h=>by cases h⟩
theorem wpl_lits (W:World) {ops:Array Oper} {rest:List Oper} {o:Oper} {a:Act} {Q:Exit→Act→World→Prop}
    (hg:o.guard=none) (s x:Operand) (hop:o.op=.call { callee:=.builtin .append,args:=#[s,x],argTypes:=#[22,22] })
    (cs:Array Value) (ns:List Nat) (hc:cs=(bc ns).toArray) (m:Nat) (hm:ns.length=m) (hm2:m≤1000) (hs:a.eval s=.slice (some ⟨W.heap.size,0,none⟩) m m)
    (v:Value) (l:List Nat) (hx:a.eval x=v) (hb:Byt W v l) (hl:l.length≤1000)
    (h:∀ v' w',Byt w' v' (ns++l)→Below W.heap.size W w'→wpList Tryz.prog ops Q rest (a.put o.dst v') w') :
    wpList Tryz.prog ops Q (o::rest) a (W.alloc (.cells cs 5)):=by
  have hba:Below W.heap.size W (W.alloc (.cells cs 5)):=(Below.refl _ _).alloc (Nat.le_refl _) _
  obtain ⟨ad,n,cap,rfl,h2,h3,h4,h5,h6⟩:=(hb.on hba).at_
  refine wpl_putR _ hg s x hop W.heap.size _ m ns hs (own_lits W ns cs hc m hm hm2) hba.size ad n cap hx l h2 h4 h6 (by omega) ?_
  intro v' w' h7 h8
  exact h v' w' (Byt.own h7) (hba.grown h8 hba.size (fun g hg=>by cases hg;exact Nat.le_refl _))
theorem mkR_len {neg:Bool} {N:Nat} {e:Int} {g:Bool} {M:Nat} {E:Int} (h:mkR neg N e=(g,M,E)) (hN:N<2199023255552):(limbs M).length≤2:=by
  unfold mkR at h
  split at h
  · simp only [Prod.mk.injEq] at h
    obtain ⟨_,rfl,_⟩:=h
    rw [limbs_zero];decide
  next h0 =>
    simp only [Prod.mk.injEq] at h
    obtain ⟨_,rfl,_⟩:=h
    exact limbs_length_le (Nat.lt_of_le_of_lt (trimK_small h0 hN).2 (Nat.lt_trans hN (by rw [B32_eq];decide)))
theorem num_cells {g:Bool} {N:Nat} {E:Int} {t:MT} {w:World} (h:t.bare=bnumC (g,N,E)) (hR:Rep w t):t.c.k=3∧t.c.neg=g∧t.c.mn=(limbs N).length∧t.c.e=E∧t.c.mn≤t.c.mc∧Rd w t.c.ma (limbs N):=by
  have own:=hR.own
  rw [MT.bare_eq] at h
  unfold bnumC numT at h
  injection h with h1 h2 h3 h4
  obtain ⟨o1,o2,o3,o4,_⟩:=own
  refine ⟨congrArg Cel.k h1,congrArg Cel.neg h1,congrArg Cel.mn h1,congrArg Cel.e h1,o2,?_⟩
  rw [← h2]
  exact o4
def Arr (w:World) (G:Nat) (c0 c1 c2 c3:Cel):Prop:=w.heap[G]? = some (.cells (c0.cells++(c1.cells++(c2.cells++c3.cells))).toArray 46)
def zc:Cel:=⟨0,false,false,none,0,0,0,⟨#[]⟩,none,0,0,none,0,0⟩
theorem set8_blk {w:World} {G:Nat} {a:List Value} {t:TypeId} (h:w.heap[G]? = some (.cells a.toArray t)) (o:Nat) (v0 v1 v2 v3 v4 v5 v6 v7:Value) :
    ((((((((w.setCell ⟨G,o,none⟩ v0).setCell ⟨G,o+1,none⟩ v1).setCell ⟨G,o+2,none⟩ v2).setCell ⟨G,o+3,none⟩ v3).setCell ⟨G,o+4,none⟩ v4).setCell ⟨G,o+5,none⟩ v5).setCell ⟨G,o+6,none⟩ v6).setCell ⟨G,o+7,none⟩ v7).heap[G]? = some (.cells ((((((((a.set o v0).set (o+1) v1).set (o+2) v2).set (o+3) v3).set (o+4) v4).set (o+5) v5).set (o+6) v6).set (o+7) v7).toArray t):=by
  simp [World.setCell,Array.getElem?_modify,h]
structure NumC (w:World) (c:Cel) (g:Bool) (N:Nat) (E:Int):Prop where
  neg:c.neg=g
  mn:c.mn=(limbs N).length
  e:c.e=E
  le:c.mn≤c.mc
  rd:Rd w c.ma (limbs N)
theorem NumC.on {w w':World} {c:Cel} {g:Bool} {N:Nat} {E:Int} (h:NumC w c g N E) (hb:Below w.heap.size w w'):NumC w' c g N E:=⟨h.neg,h.mn,h.e,h.le,h.rd.below hb⟩
theorem cel_no32 (c:Cel):∀ v∈c.cells,∀ n:Int,v ≠ .int .u32 n:=by
  obtain ⟨k,b,neg,ma,mn,mc,e,s,ka,kn,kc,va,vn,vc⟩:=c
  intro v hv n h
  subst h
  simp [Cel.cells] at hv
theorem rd_arr {w w':World} {G:Nat} {c0 c1 c2 c3:Cel} {ad:Option Addr} {xs:List Nat} (h:Rd w ad xs) (ha:Arr w G c0 c1 c2 c3) (hk:∀ k,k ≠ G→k<w.heap.size→w'.heap[k]? = w.heap[k]?) (hs:w.heap.size≤w'.heap.size):Rd w' ad xs:=by
  intro i hi
  obtain ⟨b,o,e,hb,hc⟩:=h i hi
  refine ⟨b,o,e,Nat.lt_of_lt_of_le hb hs,?_⟩
  have hne:b ≠ G:=by
    intro hbG
    subst hbG
    unfold Arr at ha
    have hc2:=hc
    simp only [World.cell?,ha] at hc2
    have hm:Value.int .u32 ((xs.getD i 0:Nat):Int)∈c0.cells++(c1.cells++(c2.cells++c3.cells)):=by
      have:=Array.mem_of_getElem? hc2
      simpa using this
    simp only [List.mem_append] at hm
    rcases hm with hm | hm | hm | hm
    iterate 4
      · exact cel_no32 _ _ hm _ rfl
  rw [← hc]
  simp only [World.cell?,hk b hne hb]
theorem NumC.arr {w w':World} {G:Nat} {c0 c1 c2 c3:Cel} {c:Cel} {g:Bool} {N:Nat} {E:Int} (h:NumC w c g N E) (ha:Arr w G c0 c1 c2 c3) (hk:∀ k,k ≠ G→k<w.heap.size→w'.heap[k]? = w.heap[k]?) (hs:w.heap.size≤w'.heap.size):NumC w' c g N E:=⟨h.neg,h.mn,h.e,h.le,rd_arr h.rd ha hk hs⟩
theorem keep8 (w:World) (G o:Nat) (v0 v1 v2 v3 v4 v5 v6 v7:Value) (ob:Obj):(∀ k,k ≠ G→k<w.heap.size→((((((((((w.setCell ⟨G,o,none⟩ v0).setCell ⟨G,o+1,none⟩ v1).setCell ⟨G,o+2,none⟩ v2).setCell ⟨G,o+3,none⟩ v3).setCell ⟨G,o+4,none⟩ v4).setCell ⟨G,o+5,none⟩ v5).setCell ⟨G,o+6,none⟩ v6).setCell ⟨G,o+7,none⟩ v7)).alloc ob).heap[k]? = w.heap[k]?) ∧
    w.heap.size≤((((((((((w.setCell ⟨G,o,none⟩ v0).setCell ⟨G,o+1,none⟩ v1).setCell ⟨G,o+2,none⟩ v2).setCell ⟨G,o+3,none⟩ v3).setCell ⟨G,o+4,none⟩ v4).setCell ⟨G,o+5,none⟩ v5).setCell ⟨G,o+6,none⟩ v6).setCell ⟨G,o+7,none⟩ v7)).alloc ob).heap.size:=by
  constructor
  · intro k hk hl
    rw [Below.heap_alloc _ _ _ (by simp [World.setCell];omega)]
    simp [World.setCell,Array.getElem?_modify,Ne.symm hk]
  · simp [World.setCell]
theorem arr_alloc {w:World} {G:Nat} {a b:List Value} {t:TypeId} (h:w.heap[G]? = some (.cells a.toArray t)) (ob:Obj) (e:a=b):(w.alloc ob).heap[G]? = some (.cells b.toArray t):=by
  subst e
  exact (Below.heap_alloc _ _ _ (Array.getElem?_eq_some_iff.1 h).1).trans h
def LpN (Wj:World) (G:Nat) (g0:Bool) (N0:Nat) (E0:Int) (g1:Bool) (N1:Nat) (E1:Int) (k:Nat) (i:Value) (wr:World):Prop :=
  ∃ j c0 c1 c2 c3,i=.int .i64 ((j:Nat):Int)∧j≤4∧k=5 - j∧Arr wr G c0 c1 c2 c3∧(0<j→NumC wr c0 g0 N0 E0)∧(1<j→NumC wr c1 g0 N0 E0)∧(2<j→NumC wr c2 g0 N0 E0)∧(3<j→NumC wr c3 g1 N1 E1)∧Below G Wj wr
theorem cborNumbers_false (v t:Int) (w:World) (hv:-9223372036854775808≤v∧v≤9223372036854775807) (ht:-9223372036854775808≤t∧t≤9223372036854775807) (hU:UT w) (hT:DB w) :
    Calls Tryz.prog 4 #[.int .i64 v,.bool false,.int .i64 t] w (BoolBelow true w):=by
  have KP:=Lib.hid (place_big v 1099511627776 w hv (by omega))
  have KT:=Lib.hid (fun W=>place_big t 20 W ht (by omega))
  obtain ⟨k,hk⟩:∃ k:Nat,v % 1099511627776=(k:Int):=⟨(v % 1099511627776).toNat,by have:=Int.emod_nonneg v (show (1099511627776:Int) ≠ 0 by decide);omega⟩
  obtain ⟨u,hu⟩:∃ u:Nat,t % 20=(u:Int):=⟨(t % 20).toNat,by have:=Int.emod_nonneg t (show (20:Int) ≠ 0 by decide);omega⟩
  have hkb:k<1099511627776:=by have:=Int.emod_lt_of_pos v (show (0:Int)<1099511627776 by decide);omega
  have hub:u<20:=by have:=Int.emod_lt_of_pos t (show (0:Int)<20 by decide);omega
  rw [hk] at KP
  rw [hu] at KT
  have e1:(k:Int) % 18446744073709551616=(k:Int):=by omega
  have e2:(u:Int) % 256=(u:Int):=by omega
  have e3:bits .or .u8 0 27=27:=by decide
  have e5:(k:Int) / 4294967296 % 256=(k:Int) / 4294967296:=by omega
  have HU:=Lib.hid hU;have HT:=Lib.hid hT
  have HBB:=Lib.hid (big_bytes k hkb)
  have HB5:Hid (#[.int .u8 ((k:Int) / 4294967296),.int .u8 ((k:Int) / 16777216 % 256),.int .u8 ((k:Int) / 65536 % 256),.int .u8 ((k:Int) / 256 % 256),.int .u8 ((k:Int) % 256)]=(bc (bytesL k 5)).toArray):=Lib.hid (by
    rw [HBB.out]
    simp only [bc,List.map_cons,List.map_nil]
    congr 1)
  have H5:=Lib.hid (fun W=>Byt.own (own_lits W (bytesL k 5) _ HB5.out 5 (bytesL_len _ _) (by decide)))
  have HAL:=Lib.hid (fun (W:World) (ob:Obj)=>(Below.refl W.heap.size W).alloc (Nat.le_refl _) ob)
  clear hU hT hk hu hv ht
  go_enter Tryz.func4,Tryz.ntmps4
  go_wp2_with fail
  refine KP.out.mono ?_
  rintro r w1 ⟨rfl,rfl⟩
  go_upto_region 6 with fail
  obtain ⟨W0,hW0⟩:∃ x,w1.alloc (.cells #[.int .u8 ((k:Int) / 4294967296),.int .u8 ((k:Int) / 16777216 % 256),.int .u8 ((k:Int) / 65536 % 256),.int .u8 ((k:Int) / 256 % 256),.int .u8 ((k:Int) % 256)] 5)=x:=⟨_,rfl⟩
  rw [hW0]
  have hb0:=HAL.out w1 (.cells #[.int .u8 ((k:Int) / 4294967296),.int .u8 ((k:Int) / 16777216 % 256),.int .u8 ((k:Int) / 65536 % 256),.int .u8 ((k:Int) / 256 % 256),.int .u8 ((k:Int) % 256)] 5)
  have h50:=H5.out w1
  rw [hW0] at hb0 h50
  have HB0:=Lib.hid hb0;have HL0:=Lib.hid h50
  clear hW0 hb0 h50 H5 HB5 KP e5
  go_wp2_with (at_builtin;refine wpl_lits W0 rfl _ _ rfl _ [27,0,0,0] (by simp [bc]) 4 rfl (by decide) rfl (.slice (some ⟨w1.heap.size,0,none⟩) 5 5) (bytesL k 5) rfl HL0.out (by rw [bytesL_len];decide) ?_)
  intro va wa hya hba
  have HYA:=Lib.hid hya;have HBA:=Lib.hid (below_on HB0.out hba);have HLA:=Lib.hid (HL0.out.on hba)
  clear hya hba HL0
  go_wp2_with (at_builtin;refine wpl_lits wa rfl _ _ rfl _ [194,71,0,0] (by simp [bc]) 4 rfl (by decide) rfl (.slice (some ⟨w1.heap.size,0,none⟩) 5 5) (bytesL k 5) rfl HLA.out (by rw [bytesL_len];decide) ?_)
  intro vb wb hyb hbb
  have HYB:=Lib.hid hyb;have HBB1:=Lib.hid (below_on HBA.out hbb);have HYA1:=Lib.hid (HYA.out.on hbb)
  clear hyb hbb HYA HLA
  go_wp2_with (at_builtin;refine wpl_lits wb rfl _ _ rfl _ [196,130,0] (by simp [bc]) 3 rfl (by decide) rfl va _ rfl HYA1.out (by simp [bytesL_len]) ?_)
  intro vc wc hyc hbc
  have HYC:=Lib.hid hyc;have HBC:=Lib.hid (below_on HBB1.out hbc);have HYA2:=Lib.hid (HYA1.out.on hbc);have HYB2:=Lib.hid (HYB.out.on hbc)
  clear hyc hbc HYA1 HYB
  go_wp2_with fail
  refine (KT.out _).mono ?_
  rintro r wc' ⟨rfl,hwc⟩
  replace hwc:=hwc.symm
  subst hwc
  go_wp2_with (at_builtin;refine wpl_lits wc rfl _ _ rfl _ [196,130,u] (by simp [bc]) 3 rfl (by decide) rfl vb _ rfl HYB2.out (by simp [bytesL_len]) ?_)
  intro vd wd hyd hbd
  have HYD:=Lib.hid hyd;have HBD:=Lib.hid (below_on HBC.out hbd);have HYA3:=Lib.hid (HYA2.out.on hbd);have HYB3:=Lib.hid (HYB2.out.on hbd);have HYC3:=Lib.hid (HYC.out.on hbd)
  clear hyd hbd HYA2 HYB2 HYC e2 e3
  have KL:=Lib.hid (fun W=>limbs10_any k false W hkb)
  obtain ⟨sz,hsz⟩:∃ sz,cbSize (false,k)=sz:=⟨_,rfl⟩
  have hszb:sz<2199023255552:=by rw [← hsz];unfold cbSize;split <;> simp only <;> omega
  have hdm:decide (0=1)=false:=by decide
  have HNA:=Lib.hid (decA 0 k (by decide) hkb (numK_small hkb (by omega)))
  have HNB:=Lib.hid (decB2 0 k (by decide) hkb (numK_small hkb (by omega)))
  have HNC:=Lib.hid (decC 0 k (by decide) hkb (numK_small hkb (by omega)))
  have HND:=Lib.hid (decD 0 k u (by decide) hkb hub (numK_small hkb (by omega)))
  rw [hdm,hsz] at HNA HNB HNC HND
  rw [hsz] at KL
  have KM:=Lib.hid (fun (W:World) (v:Value) (xs:List Nat) (h:ListOk W v 600 sz xs) (e:Int) (he:0≤e∧e≤20)=>refMake_small ((Ctx.begin W).push (x:=⟨v,600,sz,xs⟩) h) 0 rfl (by decide) false e hszb he)
  unfold MadePost at KM
  have KM0:=Lib.hid (fun (W:World) (v:Value) (xs:List Nat) (h:ListOk W v 600 sz xs)=>KM.out W v xs h 0 (by omega))
  have KM1:=Lib.hid (fun (W:World) (v:Value) (xs:List Nat) (h:ListOk W v 600 sz xs)=>KM.out W v xs h (u:Int) (by omega))
  clear KM hsz hdm
  generalize hR0:mkR false sz 0=R0 at *
  generalize hR1:mkR false sz (u:Int)=R1 at *
  obtain ⟨g0,N0,E0⟩:=R0
  obtain ⟨g1,N1,E1⟩:=R1
  simp only at KM0 KM1
  have HL0:=Lib.hid (mkR_len hR0 hszb);have HL1:=Lib.hid (mkR_len hR1 hszb)
  clear hR0 hR1 hszb
  go_wp2_with fail
  refine (KL.out _).mono ?_
  rintro r we ⟨vl,xl,rfl,hle,hbe⟩
  have HLE:=Lib.hid hle;have HBE:=Lib.hid (below_on HBD.out hbe);have HB1:=Lib.hid hbe
  clear hle hbe
  go_wp2_with fail
  refine (KM0.out _ _ _ HLE.out).mono ?_
  rintro r wf ⟨vm,rfl,hc⟩
  obtain ⟨ma,mc,rfl,hm1,hm2,hm3,hm4,hm5⟩:=hc.get 0 rfl
  have HM0:Hid (Rd wf ma (limbs N0)):=Lib.hid hm4
  have HMC0:Hid ((limbs N0).length≤mc):=Lib.hid hm1
  have HB2:=Lib.hid hc.below
  have HBF:=Lib.hid (below_on HBE.out hc.below)
  clear hc hm1 hm2 hm3 hm4 hm5 HLE
  go_upto_region 11 with fail
  obtain ⟨Wg,hWg⟩:∃ x,wf.alloc (.cells #[.bool g0,.slice ma (limbs N0).length mc,.int .i64 E0] 25)=x:=⟨_,rfl⟩
  have hbg:Below wf.heap.size wf Wg:=by rw [← hWg];exact HAL.out _ _
  have qg:Wg.heap[wf.heap.size]? = some (.cells #[.bool g0,.slice ma (limbs N0).length mc,.int .i64 E0] 25):=by rw [← hWg];exact heap_alloc_new wf _
  rw [hWg]
  have HBG:=Lib.hid (below_on HBF.out hbg);have HB3:=Lib.hid hbg;have QG:=Lib.hid qg
  clear hWg hbg qg
  go_wp2_with fail
  refine (KL.out _).mono ?_
  rintro r wh ⟨vl2,xl2,rfl,hle,hbe⟩
  have HLE:=Lib.hid hle;have HBH:=Lib.hid (below_on HBG.out hbe);have HB4:=Lib.hid hbe
  clear hle hbe
  go_wp2_with fail
  refine (KT.out _).mono ?_
  rintro r wx ⟨rfl,hwx⟩
  replace hwx:=hwx.symm
  subst hwx
  go_wp2_with fail
  refine (KM1.out _ _ _ HLE.out).mono ?_
  rintro r wi ⟨vm,rfl,hc⟩
  obtain ⟨mb,md,rfl,hm1,hm2,hm3,hm4,hm5⟩:=hc.get 0 rfl
  have HM1:Hid (Rd wi mb (limbs N1)):=Lib.hid hm4
  have HMC1:Hid ((limbs N1).length≤md):=Lib.hid hm1
  have HB5:=Lib.hid hc.below
  have HBI:=Lib.hid (below_on HBH.out hc.below)
  clear hc hm1 hm2 hm3 hm4 hm5 HLE
  go_upto_region 12 with fail
  obtain ⟨Wj,hWj⟩:∃ x,wi.alloc (.cells #[.bool g1,.slice mb (limbs N1).length md,.int .i64 E1] 25)=x:=⟨_,rfl⟩
  have hbj:Below wi.heap.size wi Wj:=by rw [← hWj];exact HAL.out _ _
  have qj:Wj.heap[wi.heap.size]? = some (.cells #[.bool g1,.slice mb (limbs N1).length md,.int .i64 E1] 25):=by rw [← hWj];exact heap_alloc_new wi _
  rw [hWj]
  have HBJ:=Lib.hid (below_on HBI.out hbj);have HB6:=Lib.hid hbj;have QJ:=Lib.hid qj
  clear hWj hbj qj
  go_upto_region 13 with fail
  obtain ⟨Wk,hWk⟩:∃ x,Wj.alloc (.cells #[.int .i64 0,.bool false,.bool false,.slice none 0 0,.int .i64 0,.string ⟨#[]⟩,.slice none 0 0,.slice none 0 0,.int .i64 0,.bool false,.bool false,.slice none 0 0,.int .i64 0,.string ⟨#[]⟩,.slice none 0 0,.slice none 0 0,.int .i64 0,.bool false,.bool false,.slice none 0 0,.int .i64 0,.string ⟨#[]⟩,.slice none 0 0,.slice none 0 0,.int .i64 0,.bool false,.bool false,.slice none 0 0,.int .i64 0,.string ⟨#[]⟩,.slice none 0 0,.slice none 0 0] 46)=x:=⟨_,rfl⟩
  have hbk:Below Wj.heap.size Wj Wk:=by rw [← hWk];exact HAL.out _ _
  have qk:Arr Wk Wj.heap.size zc zc zc zc:=by rw [← hWk];exact heap_alloc_new Wj _
  rw [hWk]
  have hbb:=HB1.out.trans ((HB2.out.trans ((HB3.out.trans ((HB4.out.trans ((HB5.out.trans (HB6.out.mono HB5.out.size)).mono HB4.out.size)).mono HB3.out.size)).mono HB2.out.size)).mono HB1.out.size)
  have HYA4:=HYA3.out.on hbb;have HYB4:=HYB3.out.on hbb;have HYC4:=HYC3.out.on hbb;have HYD4:=HYD.out.on hbb
  have HMR0:=Lib.hid (HM0.out.below (HB3.out.trans ((HB4.out.trans ((HB5.out.trans (HB6.out.mono HB5.out.size)).mono HB4.out.size)).mono HB3.out.size)))
  have HMR1:=Lib.hid (HM1.out.below HB6.out)
  have QGJ:=Lib.hid (((HB4.out.trans ((HB5.out.trans (HB6.out.mono HB5.out.size)).mono HB4.out.size)).block _ (Array.getElem?_eq_some_iff.1 QG.out).1).trans QG.out)
  obtain ⟨aa,an,ac,rfl,aa1,aa2,aa3,aa4,_⟩:=HYA4.at_
  obtain ⟨ba,bn,bcc,rfl,ba1,ba2,ba3,ba4,_⟩:=HYB4.at_
  obtain ⟨ca,cn,cc,rfl,ca1,ca2,ca3,ca4,_⟩:=HYC4.at_
  obtain ⟨da,dn,dc,rfl,da1,da2,da3,da4,_⟩:=HYD4.at_
  have hUj:=HU.out.below HBJ.out
  have KA:=Lib.hid (fun W (hb:Below Wj.heap.size Wj W)=>(show Calls Tryz.prog 12 #[.slice aa an ac] W (DecC (.inl (bnumC (g0,N0,E0))) W) from by rw [← HNA.out];exact decode_cb aa an ac _ W (hUj.below hb) aa1 aa2 (by unfold Okb inA;have:=bytesL_ok k 5;intro x hx;simp only [List.mem_cons] at hx;rcases hx with rfl | rfl | rfl | rfl | hx <;> first | decide | exact this x hx) (aa3.on hb) aa4))
  have KB:=Lib.hid (fun W (hb:Below Wj.heap.size Wj W)=>(show Calls Tryz.prog 12 #[.slice ba bn bcc] W (DecC (.inl (bnumC (g0,N0,E0))) W) from by rw [← HNB.out];exact decode_cb ba bn bcc _ W (hUj.below hb) ba1 ba2 (by unfold Okb inB;have:=bytesL_ok k 5;intro x hx;simp only [List.mem_cons] at hx;rcases hx with rfl | rfl | rfl | rfl | hx <;> first | decide | exact this x hx) (ba3.on hb) ba4))
  have KC:=Lib.hid (fun W (hb:Below Wj.heap.size Wj W)=>(show Calls Tryz.prog 12 #[.slice ca cn cc] W (DecC (.inl (bnumC (g0,N0,E0))) W) from by rw [← HNC.out];exact decode_cb ca cn cc _ W (hUj.below hb) ca1 ca2 (by unfold Okb inC inA;have:=bytesL_ok k 5;intro x hx;simp only [List.mem_cons] at hx;rcases hx with rfl | rfl | rfl | rfl | rfl | rfl | rfl | hx <;> first | decide | exact this x hx) (ca3.on hb) ca4))
  have KD4:=Lib.hid (fun W (hb:Below Wj.heap.size Wj W)=>(show Calls Tryz.prog 12 #[.slice da dn dc] W (DecC (.inl (bnumC (g1,N1,E1))) W) from by rw [← HND.out];exact decode_cb da dn dc _ W (hUj.below hb) da1 da2 (by unfold Okb inD inB;have:=bytesL_ok k 5;intro x hx;simp only [List.mem_cons] at hx;rcases hx with rfl | rfl | rfl | rfl | rfl | rfl | rfl | hx <;> first | decide | omega | exact this x hx) (da3.on hb) da4))
  have HST:=Lib.hid (show LpN Wj Wj.heap.size g0 N0 E0 g1 N1 E1 5 (.int .i64 ((0:Nat):Int)) Wk from ⟨0,zc,zc,zc,zc,rfl,by omega,rfl,qk,nofun,nofun,nofun,nofun,hbk⟩)
  have HGJ:=Lib.hid (show wf.heap.size<Wj.heap.size from Nat.lt_of_lt_of_le (Array.getElem?_eq_some_iff.1 QG.out).1 (Nat.le_trans HB4.out.size (Nat.le_trans HB5.out.size HB6.out.size)))
  have HIJ:=Lib.hid (Array.getElem?_eq_some_iff.1 QJ.out).1
  clear hWk hbk qk hbb HYA4 HYB4 HYC4 HYD4 aa1 aa2 aa3 aa4 ba1 ba2 ba3 ba4 ca1 ca2 ca3 ca4 da1 da2 da3 da4 hUj HNA HNB HNC HND HYA3 HYB3 HYC3 HYD HB1 HB2 HB3 HB4 HB5 HB6 KL KM0 KM1 KT HBB hkb hub
  obtain ⟨G,hG⟩:∃ G,Wj.heap.size=G:=⟨_,rfl⟩
  rw [hG] at HST KA KB KC KD4 HGJ HIJ ⊢
  have HG:=Lib.hid hG
  clear hG
  go_wp2_with fail
  go_loopg [86] 5 (fun g i wr=>LpN Wj G g0 N0 E0 g1 N1 E1 g i wr)
  case atStart=>exact HST.out
  case round =>
    clear HST
    obtain ⟨j,c0,c1,c2,c3,rfl,hj,hgk,har,hn0,hn1,hn2,hn3,hbr⟩:=hrel
    have hj5:j=0∨j=1∨j=2∨j=3∨j=4:=by omega
    clear hj
    rcases hj5 with rfl | rfl | rfl | rfl | rfl
    · skip
      have HAR:=Lib.hid har;have HBR:=Lib.hid hbr
      clear har hbr hn0 hn1 hn2 hn3
      have KD:=Lib.hid (KA.out wr HBR.out)
      unfold DecC at KD
      have hix:∀ W:World,(Instr.index 47 (.agg #[.slice aa an ac,.slice ba bn bcc,.slice ca cn cc,.slice da dn dc]) (.int .i64 0)).run Tryz.prog W=.ok (.slice aa an ac) W:=fun W=>by kernel_rfl
      go_wp2_with fail
      refine KD.out.mono ?_
      rintro r wq ⟨t',rfl,hbare,hR,hbq⟩
      obtain ⟨z0,z1,z2,z3,z4,z5⟩:=num_cells hbare hR
      have HNJ:Hid (NumC wq t'.c g0 N0 E0):=Lib.hid ⟨z1,z2,z3,z4,z5⟩
      generalize t'.c=tc at *
      obtain ⟨xk,xb,xneg,xma,xmn,xmc,xe,xs,xka,xkn,xkc,xva,xvn,xvc⟩:=tc
      simp only at z0
      subst z0
      unfold Cel.val
      have hgl:G<wr.heap.size:=(Array.getElem?_eq_some_iff.1 HAR.out).1
      have haq:=(hbq.block G hgl).trans HAR.out
      have hgq:G<wq.heap.size:=Nat.lt_of_lt_of_le hgl hbq.size
      obtain ⟨p0,p1,p2,p3,p4,p5,p6,p7,p8,p9,pa,pb,pc,pd⟩:=c0
      obtain ⟨t0,t1,t2,t3,t4,t5,t6,t7,t8,t9,ta,tb,tc,td⟩:=c1
      obtain ⟨r0,r1,r2,r3,r4,r5,r6,r7,r8,r9,ra,rb,rc,rd⟩:=c2
      obtain ⟨s0,s1,s2,s3,s4,s5,s6,s7,s8,s9,sa,sb,sc,sd⟩:=c3
      have s0:=boxC haq 0 _ rfl
      have s0c:=s0.1;have s0f:=s0.2;clear s0
      have s1:=boxC haq 1 _ rfl
      have s1c:=s1.1;have s1f:=s1.2;clear s1
      have s2:=boxC haq 2 _ rfl
      have s2c:=s2.1;have s2f:=s2.2;clear s2
      have s3:=boxC haq 3 _ rfl
      have s3c:=s3.1;have s3f:=s3.2;clear s3
      have s4:=boxC haq 4 _ rfl
      have s4c:=s4.1;have s4f:=s4.2;clear s4
      have s5:=boxC haq 5 _ rfl
      have s5c:=s5.1;have s5f:=s5.2;clear s5
      have s6:=boxC haq 6 _ rfl
      have s6c:=s6.1;have s6f:=s6.2;clear s6
      have s7:=boxC haq 7 _ rfl
      have s7c:=s7.1;have s7f:=s7.2;clear s7
      have HBQ:=Lib.hid hbq;have haq2:=haq
      have hne:¬ wq.heap.size=G:=by omega
      have hgw:G≤wr.heap.size:=by omega
      clear hbq haq z1 z2 z3 z4 z5 hbare hR KD
      go_wp2_with fail
      have HAQ:=Lib.hid haq2
      clear haq2 s0c s0f s1c s1f s2c s2f s3c s3f s4c s4f s5c s5f s6c s6f s7c s7f
      go_roundg 4
      case measure=>omega
      case rel =>
        obtain ⟨k8,k8s⟩:=keep8 wq G 0 (.int .i64 3) (.bool xb) (.bool xneg) (.slice xma xmn xmc) (.int .i64 xe) (.string xs) (.slice xka xkn xkc) (.slice xva xvn xvc) (.cells #[.int .i64 3,.bool xb,.bool xneg,.slice xma xmn xmc,.int .i64 xe,.string xs,.slice xka xkn xkc,.slice xva xvn xvc] 29)
        have hs8:=set8_blk HAQ.out 0 (.int .i64 3) (.bool xb) (.bool xneg) (.slice xma xmn xmc) (.int .i64 xe) (.string xs) (.slice xka xkn xkc) (.slice xva xvn xvc)
        refine ⟨1,⟨3,xb,xneg,xma,xmn,xmc,xe,xs,xka,xkn,xkc,xva,xvn,xvc⟩,⟨t0,t1,t2,t3,t4,t5,t6,t7,t8,t9,ta,tb,tc,td⟩,⟨r0,r1,r2,r3,r4,r5,r6,r7,r8,r9,ra,rb,rc,rd⟩,⟨s0,s1,s2,s3,s4,s5,s6,s7,s8,s9,sa,sb,sc,sd⟩,by go_num,by omega,by omega,arr_alloc hs8 _ rfl,fun _=>HNJ.out.arr HAQ.out k8 k8s,fun h=>absurd h (by decide),fun h=>absurd h (by decide),fun h=>absurd h (by decide),?_⟩
        have hx:=HBR.out.trans (HBQ.out.mono hgw)
        exact ((((((((hx.setCell (Nat.le_refl _) _).setCell (Nat.le_refl _) _).setCell (Nat.le_refl _) _).setCell (Nat.le_refl _) _).setCell (Nat.le_refl _) _).setCell (Nat.le_refl _) _).setCell (Nat.le_refl _) _).setCell (Nat.le_refl _) _).alloc (by simp [World.setCell];omega) _
    · skip
      have HAR:=Lib.hid har;have HBR:=Lib.hid hbr
      have HN0:=Lib.hid (hn0 (by decide))
      clear har hbr hn0 hn1 hn2 hn3
      have KD:=Lib.hid (KB.out wr HBR.out)
      unfold DecC at KD
      have hix:∀ W:World,(Instr.index 47 (.agg #[.slice aa an ac,.slice ba bn bcc,.slice ca cn cc,.slice da dn dc]) (.int .i64 1)).run Tryz.prog W=.ok (.slice ba bn bcc) W:=fun W=>by kernel_rfl
      go_wp2_with fail
      refine KD.out.mono ?_
      rintro r wq ⟨t',rfl,hbare,hR,hbq⟩
      obtain ⟨z0,z1,z2,z3,z4,z5⟩:=num_cells hbare hR
      have HNJ:Hid (NumC wq t'.c g0 N0 E0):=Lib.hid ⟨z1,z2,z3,z4,z5⟩
      generalize t'.c=tc at *
      obtain ⟨xk,xb,xneg,xma,xmn,xmc,xe,xs,xka,xkn,xkc,xva,xvn,xvc⟩:=tc
      simp only at z0
      subst z0
      unfold Cel.val
      have hgl:G<wr.heap.size:=(Array.getElem?_eq_some_iff.1 HAR.out).1
      have haq:=(hbq.block G hgl).trans HAR.out
      have hgq:G<wq.heap.size:=Nat.lt_of_lt_of_le hgl hbq.size
      obtain ⟨p0,p1,p2,p3,p4,p5,p6,p7,p8,p9,pa,pb,pc,pd⟩:=c0
      obtain ⟨t0,t1,t2,t3,t4,t5,t6,t7,t8,t9,ta,tb,tc,td⟩:=c1
      obtain ⟨r0,r1,r2,r3,r4,r5,r6,r7,r8,r9,ra,rb,rc,rd⟩:=c2
      obtain ⟨s0,s1,s2,s3,s4,s5,s6,s7,s8,s9,sa,sb,sc,sd⟩:=c3
      have HM0':=Lib.hid (HN0.out.on hbq)
      have s0:=boxC haq 8 _ rfl
      have s0c:=s0.1;have s0f:=s0.2;clear s0
      have s1:=boxC haq 9 _ rfl
      have s1c:=s1.1;have s1f:=s1.2;clear s1
      have s2:=boxC haq 10 _ rfl
      have s2c:=s2.1;have s2f:=s2.2;clear s2
      have s3:=boxC haq 11 _ rfl
      have s3c:=s3.1;have s3f:=s3.2;clear s3
      have s4:=boxC haq 12 _ rfl
      have s4c:=s4.1;have s4f:=s4.2;clear s4
      have s5:=boxC haq 13 _ rfl
      have s5c:=s5.1;have s5f:=s5.2;clear s5
      have s6:=boxC haq 14 _ rfl
      have s6c:=s6.1;have s6f:=s6.2;clear s6
      have s7:=boxC haq 15 _ rfl
      have s7c:=s7.1;have s7f:=s7.2;clear s7
      have HBQ:=Lib.hid hbq;have haq2:=haq
      have hne:¬ wq.heap.size=G:=by omega
      have hgw:G≤wr.heap.size:=by omega
      clear hbq haq z1 z2 z3 z4 z5 hbare hR KD
      go_wp2_with fail
      have HAQ:=Lib.hid haq2
      clear haq2 s0c s0f s1c s1f s2c s2f s3c s3f s4c s4f s5c s5f s6c s6f s7c s7f
      go_roundg 3
      case measure=>omega
      case rel =>
        obtain ⟨k8,k8s⟩:=keep8 wq G 8 (.int .i64 3) (.bool xb) (.bool xneg) (.slice xma xmn xmc) (.int .i64 xe) (.string xs) (.slice xka xkn xkc) (.slice xva xvn xvc) (.cells #[.int .i64 3,.bool xb,.bool xneg,.slice xma xmn xmc,.int .i64 xe,.string xs,.slice xka xkn xkc,.slice xva xvn xvc] 29)
        have hs8:=set8_blk HAQ.out 8 (.int .i64 3) (.bool xb) (.bool xneg) (.slice xma xmn xmc) (.int .i64 xe) (.string xs) (.slice xka xkn xkc) (.slice xva xvn xvc)
        refine ⟨2,⟨p0,p1,p2,p3,p4,p5,p6,p7,p8,p9,pa,pb,pc,pd⟩,⟨3,xb,xneg,xma,xmn,xmc,xe,xs,xka,xkn,xkc,xva,xvn,xvc⟩,⟨r0,r1,r2,r3,r4,r5,r6,r7,r8,r9,ra,rb,rc,rd⟩,⟨s0,s1,s2,s3,s4,s5,s6,s7,s8,s9,sa,sb,sc,sd⟩,by go_num,by omega,by omega,arr_alloc hs8 _ rfl,fun _=>HM0'.out.arr HAQ.out k8 k8s,fun _=>HNJ.out.arr HAQ.out k8 k8s,fun h=>absurd h (by decide),fun h=>absurd h (by decide),?_⟩
        have hx:=HBR.out.trans (HBQ.out.mono hgw)
        exact ((((((((hx.setCell (Nat.le_refl _) _).setCell (Nat.le_refl _) _).setCell (Nat.le_refl _) _).setCell (Nat.le_refl _) _).setCell (Nat.le_refl _) _).setCell (Nat.le_refl _) _).setCell (Nat.le_refl _) _).setCell (Nat.le_refl _) _).alloc (by simp [World.setCell];omega) _
    · skip
      have HAR:=Lib.hid har;have HBR:=Lib.hid hbr
      have HN0:=Lib.hid (hn0 (by decide))
      have HN1:=Lib.hid (hn1 (by decide))
      clear har hbr hn0 hn1 hn2 hn3
      have KD:=Lib.hid (KC.out wr HBR.out)
      unfold DecC at KD
      have hix:∀ W:World,(Instr.index 47 (.agg #[.slice aa an ac,.slice ba bn bcc,.slice ca cn cc,.slice da dn dc]) (.int .i64 2)).run Tryz.prog W=.ok (.slice ca cn cc) W:=fun W=>by kernel_rfl
      go_wp2_with fail
      refine KD.out.mono ?_
      rintro r wq ⟨t',rfl,hbare,hR,hbq⟩
      obtain ⟨z0,z1,z2,z3,z4,z5⟩:=num_cells hbare hR
      have HNJ:Hid (NumC wq t'.c g0 N0 E0):=Lib.hid ⟨z1,z2,z3,z4,z5⟩
      generalize t'.c=tc at *
      obtain ⟨xk,xb,xneg,xma,xmn,xmc,xe,xs,xka,xkn,xkc,xva,xvn,xvc⟩:=tc
      simp only at z0
      subst z0
      unfold Cel.val
      have hgl:G<wr.heap.size:=(Array.getElem?_eq_some_iff.1 HAR.out).1
      have haq:=(hbq.block G hgl).trans HAR.out
      have hgq:G<wq.heap.size:=Nat.lt_of_lt_of_le hgl hbq.size
      obtain ⟨p0,p1,p2,p3,p4,p5,p6,p7,p8,p9,pa,pb,pc,pd⟩:=c0
      obtain ⟨t0,t1,t2,t3,t4,t5,t6,t7,t8,t9,ta,tb,tc,td⟩:=c1
      obtain ⟨r0,r1,r2,r3,r4,r5,r6,r7,r8,r9,ra,rb,rc,rd⟩:=c2
      obtain ⟨s0,s1,s2,s3,s4,s5,s6,s7,s8,s9,sa,sb,sc,sd⟩:=c3
      have HM0':=Lib.hid (HN0.out.on hbq)
      have HM1':=Lib.hid (HN1.out.on hbq)
      have s0:=boxC haq 16 _ rfl
      have s0c:=s0.1;have s0f:=s0.2;clear s0
      have s1:=boxC haq 17 _ rfl
      have s1c:=s1.1;have s1f:=s1.2;clear s1
      have s2:=boxC haq 18 _ rfl
      have s2c:=s2.1;have s2f:=s2.2;clear s2
      have s3:=boxC haq 19 _ rfl
      have s3c:=s3.1;have s3f:=s3.2;clear s3
      have s4:=boxC haq 20 _ rfl
      have s4c:=s4.1;have s4f:=s4.2;clear s4
      have s5:=boxC haq 21 _ rfl
      have s5c:=s5.1;have s5f:=s5.2;clear s5
      have s6:=boxC haq 22 _ rfl
      have s6c:=s6.1;have s6f:=s6.2;clear s6
      have s7:=boxC haq 23 _ rfl
      have s7c:=s7.1;have s7f:=s7.2;clear s7
      have HBQ:=Lib.hid hbq;have haq2:=haq
      have hne:¬ wq.heap.size=G:=by omega
      have hgw:G≤wr.heap.size:=by omega
      clear hbq haq z1 z2 z3 z4 z5 hbare hR KD
      go_wp2_with fail
      have HAQ:=Lib.hid haq2
      clear haq2 s0c s0f s1c s1f s2c s2f s3c s3f s4c s4f s5c s5f s6c s6f s7c s7f
      go_roundg 2
      case measure=>omega
      case rel =>
        obtain ⟨k8,k8s⟩:=keep8 wq G 16 (.int .i64 3) (.bool xb) (.bool xneg) (.slice xma xmn xmc) (.int .i64 xe) (.string xs) (.slice xka xkn xkc) (.slice xva xvn xvc) (.cells #[.int .i64 3,.bool xb,.bool xneg,.slice xma xmn xmc,.int .i64 xe,.string xs,.slice xka xkn xkc,.slice xva xvn xvc] 29)
        have hs8:=set8_blk HAQ.out 16 (.int .i64 3) (.bool xb) (.bool xneg) (.slice xma xmn xmc) (.int .i64 xe) (.string xs) (.slice xka xkn xkc) (.slice xva xvn xvc)
        refine ⟨3,⟨p0,p1,p2,p3,p4,p5,p6,p7,p8,p9,pa,pb,pc,pd⟩,⟨t0,t1,t2,t3,t4,t5,t6,t7,t8,t9,ta,tb,tc,td⟩,⟨3,xb,xneg,xma,xmn,xmc,xe,xs,xka,xkn,xkc,xva,xvn,xvc⟩,⟨s0,s1,s2,s3,s4,s5,s6,s7,s8,s9,sa,sb,sc,sd⟩,by go_num,by omega,by omega,arr_alloc hs8 _ rfl,fun _=>HM0'.out.arr HAQ.out k8 k8s,fun _=>HM1'.out.arr HAQ.out k8 k8s,fun _=>HNJ.out.arr HAQ.out k8 k8s,fun h=>absurd h (by decide),?_⟩
        have hx:=HBR.out.trans (HBQ.out.mono hgw)
        exact ((((((((hx.setCell (Nat.le_refl _) _).setCell (Nat.le_refl _) _).setCell (Nat.le_refl _) _).setCell (Nat.le_refl _) _).setCell (Nat.le_refl _) _).setCell (Nat.le_refl _) _).setCell (Nat.le_refl _) _).setCell (Nat.le_refl _) _).alloc (by simp [World.setCell];omega) _
    · skip
      have HAR:=Lib.hid har;have HBR:=Lib.hid hbr
      have HN0:=Lib.hid (hn0 (by decide))
      have HN1:=Lib.hid (hn1 (by decide))
      have HN2:=Lib.hid (hn2 (by decide))
      clear har hbr hn0 hn1 hn2 hn3
      have KD:=Lib.hid (KD4.out wr HBR.out)
      unfold DecC at KD
      have hix:∀ W:World,(Instr.index 47 (.agg #[.slice aa an ac,.slice ba bn bcc,.slice ca cn cc,.slice da dn dc]) (.int .i64 3)).run Tryz.prog W=.ok (.slice da dn dc) W:=fun W=>by kernel_rfl
      go_wp2_with fail
      refine KD.out.mono ?_
      rintro r wq ⟨t',rfl,hbare,hR,hbq⟩
      obtain ⟨z0,z1,z2,z3,z4,z5⟩:=num_cells hbare hR
      have HNJ:Hid (NumC wq t'.c g1 N1 E1):=Lib.hid ⟨z1,z2,z3,z4,z5⟩
      generalize t'.c=tc at *
      obtain ⟨xk,xb,xneg,xma,xmn,xmc,xe,xs,xka,xkn,xkc,xva,xvn,xvc⟩:=tc
      simp only at z0
      subst z0
      unfold Cel.val
      have hgl:G<wr.heap.size:=(Array.getElem?_eq_some_iff.1 HAR.out).1
      have haq:=(hbq.block G hgl).trans HAR.out
      have hgq:G<wq.heap.size:=Nat.lt_of_lt_of_le hgl hbq.size
      obtain ⟨p0,p1,p2,p3,p4,p5,p6,p7,p8,p9,pa,pb,pc,pd⟩:=c0
      obtain ⟨t0,t1,t2,t3,t4,t5,t6,t7,t8,t9,ta,tb,tc,td⟩:=c1
      obtain ⟨r0,r1,r2,r3,r4,r5,r6,r7,r8,r9,ra,rb,rc,rd⟩:=c2
      obtain ⟨s0,s1,s2,s3,s4,s5,s6,s7,s8,s9,sa,sb,sc,sd⟩:=c3
      have HM0':=Lib.hid (HN0.out.on hbq)
      have HM1':=Lib.hid (HN1.out.on hbq)
      have HM2':=Lib.hid (HN2.out.on hbq)
      have s0:=boxC haq 24 _ rfl
      have s0c:=s0.1;have s0f:=s0.2;clear s0
      have s1:=boxC haq 25 _ rfl
      have s1c:=s1.1;have s1f:=s1.2;clear s1
      have s2:=boxC haq 26 _ rfl
      have s2c:=s2.1;have s2f:=s2.2;clear s2
      have s3:=boxC haq 27 _ rfl
      have s3c:=s3.1;have s3f:=s3.2;clear s3
      have s4:=boxC haq 28 _ rfl
      have s4c:=s4.1;have s4f:=s4.2;clear s4
      have s5:=boxC haq 29 _ rfl
      have s5c:=s5.1;have s5f:=s5.2;clear s5
      have s6:=boxC haq 30 _ rfl
      have s6c:=s6.1;have s6f:=s6.2;clear s6
      have s7:=boxC haq 31 _ rfl
      have s7c:=s7.1;have s7f:=s7.2;clear s7
      have HBQ:=Lib.hid hbq;have haq2:=haq
      have hne:¬ wq.heap.size=G:=by omega
      have hgw:G≤wr.heap.size:=by omega
      clear hbq haq z1 z2 z3 z4 z5 hbare hR KD
      go_wp2_with fail
      have HAQ:=Lib.hid haq2
      clear haq2 s0c s0f s1c s1f s2c s2f s3c s3f s4c s4f s5c s5f s6c s6f s7c s7f
      go_roundg 1
      case measure=>omega
      case rel =>
        obtain ⟨k8,k8s⟩:=keep8 wq G 24 (.int .i64 3) (.bool xb) (.bool xneg) (.slice xma xmn xmc) (.int .i64 xe) (.string xs) (.slice xka xkn xkc) (.slice xva xvn xvc) (.cells #[.int .i64 3,.bool xb,.bool xneg,.slice xma xmn xmc,.int .i64 xe,.string xs,.slice xka xkn xkc,.slice xva xvn xvc] 29)
        have hs8:=set8_blk HAQ.out 24 (.int .i64 3) (.bool xb) (.bool xneg) (.slice xma xmn xmc) (.int .i64 xe) (.string xs) (.slice xka xkn xkc) (.slice xva xvn xvc)
        refine ⟨4,⟨p0,p1,p2,p3,p4,p5,p6,p7,p8,p9,pa,pb,pc,pd⟩,⟨t0,t1,t2,t3,t4,t5,t6,t7,t8,t9,ta,tb,tc,td⟩,⟨r0,r1,r2,r3,r4,r5,r6,r7,r8,r9,ra,rb,rc,rd⟩,⟨3,xb,xneg,xma,xmn,xmc,xe,xs,xka,xkn,xkc,xva,xvn,xvc⟩,by go_num,by omega,by omega,arr_alloc hs8 _ rfl,fun _=>HM0'.out.arr HAQ.out k8 k8s,fun _=>HM1'.out.arr HAQ.out k8 k8s,fun _=>HM2'.out.arr HAQ.out k8 k8s,fun _=>HNJ.out.arr HAQ.out k8 k8s,?_⟩
        have hx:=HBR.out.trans (HBQ.out.mono hgw)
        exact ((((((((hx.setCell (Nat.le_refl _) _).setCell (Nat.le_refl _) _).setCell (Nat.le_refl _) _).setCell (Nat.le_refl _) _).setCell (Nat.le_refl _) _).setCell (Nat.le_refl _) _).setCell (Nat.le_refl _) _).setCell (Nat.le_refl _) _).alloc (by simp [World.setCell];omega) _
    · skip
      rw [← HG.out] at hbr
      obtain ⟨n01,n02,n03,n04,n05⟩:=hn0 (by decide)
      obtain ⟨n11,n12,n13,n14,n15⟩:=hn1 (by decide)
      obtain ⟨n21,n22,n23,n24,n25⟩:=hn2 (by decide)
      obtain ⟨n31,n32,n33,n34,n35⟩:=hn3 (by decide)
      clear hn0 hn1 hn2 hn3
      obtain ⟨p0,p1,p2,p3,p4,p5,p6,p7,p8,p9,pa,pb,pc,pd⟩:=c0
      obtain ⟨t0,t1,t2,t3,t4,t5,t6,t7,t8,t9,ta,tb,tc,td⟩:=c1
      obtain ⟨r0,r1,r2,r3,r4,r5,r6,r7,r8,r9,ra,rb,rc,rd⟩:=c2
      obtain ⟨s0,s1,s2,s3,s4,s5,s6,s7,s8,s9,sa,sb,sc,sd⟩:=c3
      simp only at n01 n02 n03 n04 n05
      simp only at n11 n12 n13 n14 n15
      simp only at n21 n22 n23 n24 n25
      simp only at n31 n32 n33 n34 n35
      rw [n02] at n04
      rw [n12] at n14
      rw [n22] at n24
      rw [n32] at n34
      have hG2:=(Array.getElem?_eq_some_iff.1 har).1
      have pG:=har
      have p0:=(hbr.block wf.heap.size (by rw [HG.out];exact HGJ.out)).trans QGJ.out
      have p1:=(hbr.block wi.heap.size (by rw [HG.out];exact HIJ.out)).trans QJ.out
      have r0:=HMR0.out.below hbr;have r1:=HMR1.out.below hbr
      have HTOT:=Lib.hid (below_on HBJ.out hbr)
      have hw0:wf.heap.size<wr.heap.size:=(Array.getElem?_eq_some_iff.1 p0).1
      have hw1:wi.heap.size<wr.heap.size:=(Array.getElem?_eq_some_iff.1 p1).1
      clear har hbr QGJ QJ HMR0 HMR1 KA KB KC KD4 HBJ
      have PG:=Lib.hid pG;have P0:=Lib.hid p0;have P1:=Lib.hid p1;have R0:=Lib.hid r0;have R1:=Lib.hid r1
      have g0a:wr.cell? ⟨G,2,none⟩=some (.bool g0):=by have h:=(boxC pG 2 _ rfl).1;rw [← n01];exact h
      have g0b:wr.cell? ⟨G,3,none⟩=some (.slice p3 (limbs N0).length p5):=by have h:=(boxC pG 3 _ rfl).1;rw [← n02];exact h
      have g0c:wr.cell? ⟨G,4,none⟩=some (.int .i64 E0):=by have h:=(boxC pG 4 _ rfl).1;rw [← n03];exact h
      have h00:wr.cell? ⟨wf.heap.size,0,none⟩=some (.bool g0):=(boxC p0 0 _ rfl).1
      have h01:wr.cell? ⟨wf.heap.size,1,none⟩=some (.slice ma (limbs N0).length mc):=(boxC p0 1 _ rfl).1
      have h02:wr.cell? ⟨wf.heap.size,2,none⟩=some (.int .i64 E0):=(boxC p0 2 _ rfl).1
      have HS0:=Lib.hid (sameNum_any g0 p3 (limbs N0).length p5 (limbs N0) E0 ma mc wr rfl n04 HMC0.out (by have:=HL0.out;omega) n05 r0)
      have HX00:=Lib.hid n05
      have HX01:=Lib.hid n15
      have HX02:=Lib.hid n25
      have HX03:=Lib.hid n35
      clear pG p0 p1 r0 r1 n05 n15 n25 n35
      go_wp2_with fail
      refine HS0.out.mono ?_
      rintro r x0 ⟨rfl,hb⟩
      have pG:=(hb.block G hG2).trans PG.out;have p0:=(hb.block _ hw0).trans P0.out;have p1:=(hb.block _ hw1).trans P1.out;have r0:=R0.out.below hb;have r1:=R1.out.below hb
      have n15:=HX01.out.below hb
      have n25:=HX02.out.below hb
      have n35:=HX03.out.below hb
      replace hG2:=Nat.lt_of_lt_of_le hG2 hb.size;replace hw0:=Nat.lt_of_lt_of_le hw0 hb.size;replace hw1:=Nat.lt_of_lt_of_le hw1 hb.size
      replace HTOT:=Lib.hid (below_on HTOT.out hb)
      clear hb PG P0 P1 R0 R1 HS0 g0a g0b g0c h00 h01 h02 HX00 HX01 HX02 HX03
      have PG:=Lib.hid pG;have P0:=Lib.hid p0;have P1:=Lib.hid p1;have R0:=Lib.hid r0;have R1:=Lib.hid r1
      have g1a:x0.cell? ⟨G,10,none⟩=some (.bool g0):=by have h:=(boxC pG 10 _ rfl).1;rw [← n11];exact h
      have g1b:x0.cell? ⟨G,11,none⟩=some (.slice t3 (limbs N0).length t5):=by have h:=(boxC pG 11 _ rfl).1;rw [← n12];exact h
      have g1c:x0.cell? ⟨G,12,none⟩=some (.int .i64 E0):=by have h:=(boxC pG 12 _ rfl).1;rw [← n13];exact h
      have h10:x0.cell? ⟨wf.heap.size,0,none⟩=some (.bool g0):=(boxC p0 0 _ rfl).1
      have h11:x0.cell? ⟨wf.heap.size,1,none⟩=some (.slice ma (limbs N0).length mc):=(boxC p0 1 _ rfl).1
      have h12:x0.cell? ⟨wf.heap.size,2,none⟩=some (.int .i64 E0):=(boxC p0 2 _ rfl).1
      have HS1:=Lib.hid (sameNum_any g0 t3 (limbs N0).length t5 (limbs N0) E0 ma mc x0 rfl n14 HMC0.out (by have:=HL0.out;omega) n15 r0)
      have HX11:=Lib.hid n15
      have HX12:=Lib.hid n25
      have HX13:=Lib.hid n35
      clear pG p0 p1 r0 r1 n15 n25 n35
      go_wp2_with fail
      refine HS1.out.mono ?_
      rintro r x1 ⟨rfl,hb⟩
      have pG:=(hb.block G hG2).trans PG.out;have p0:=(hb.block _ hw0).trans P0.out;have p1:=(hb.block _ hw1).trans P1.out;have r0:=R0.out.below hb;have r1:=R1.out.below hb
      have n25:=HX12.out.below hb
      have n35:=HX13.out.below hb
      replace hG2:=Nat.lt_of_lt_of_le hG2 hb.size;replace hw0:=Nat.lt_of_lt_of_le hw0 hb.size;replace hw1:=Nat.lt_of_lt_of_le hw1 hb.size
      replace HTOT:=Lib.hid (below_on HTOT.out hb)
      clear hb PG P0 P1 R0 R1 HS1 g1a g1b g1c h10 h11 h12 HX11 HX12 HX13
      have PG:=Lib.hid pG;have P0:=Lib.hid p0;have P1:=Lib.hid p1;have R0:=Lib.hid r0;have R1:=Lib.hid r1
      have g2a:x1.cell? ⟨G,18,none⟩=some (.bool g0):=by have h:=(boxC pG 18 _ rfl).1;rw [← n21];exact h
      have g2b:x1.cell? ⟨G,19,none⟩=some (.slice r3 (limbs N0).length r5):=by have h:=(boxC pG 19 _ rfl).1;rw [← n22];exact h
      have g2c:x1.cell? ⟨G,20,none⟩=some (.int .i64 E0):=by have h:=(boxC pG 20 _ rfl).1;rw [← n23];exact h
      have h20:x1.cell? ⟨wf.heap.size,0,none⟩=some (.bool g0):=(boxC p0 0 _ rfl).1
      have h21:x1.cell? ⟨wf.heap.size,1,none⟩=some (.slice ma (limbs N0).length mc):=(boxC p0 1 _ rfl).1
      have h22:x1.cell? ⟨wf.heap.size,2,none⟩=some (.int .i64 E0):=(boxC p0 2 _ rfl).1
      have HS2:=Lib.hid (sameNum_any g0 r3 (limbs N0).length r5 (limbs N0) E0 ma mc x1 rfl n24 HMC0.out (by have:=HL0.out;omega) n25 r0)
      have HX22:=Lib.hid n25
      have HX23:=Lib.hid n35
      clear pG p0 p1 r0 r1 n25 n35
      go_wp2_with fail
      refine HS2.out.mono ?_
      rintro r x2 ⟨rfl,hb⟩
      have pG:=(hb.block G hG2).trans PG.out;have p0:=(hb.block _ hw0).trans P0.out;have p1:=(hb.block _ hw1).trans P1.out;have r0:=R0.out.below hb;have r1:=R1.out.below hb
      have n35:=HX23.out.below hb
      replace hG2:=Nat.lt_of_lt_of_le hG2 hb.size;replace hw0:=Nat.lt_of_lt_of_le hw0 hb.size;replace hw1:=Nat.lt_of_lt_of_le hw1 hb.size
      replace HTOT:=Lib.hid (below_on HTOT.out hb)
      clear hb PG P0 P1 R0 R1 HS2 g2a g2b g2c h20 h21 h22 HX22 HX23
      have PG:=Lib.hid pG;have P0:=Lib.hid p0;have P1:=Lib.hid p1;have R0:=Lib.hid r0;have R1:=Lib.hid r1
      have g3a:x2.cell? ⟨G,26,none⟩=some (.bool g1):=by have h:=(boxC pG 26 _ rfl).1;rw [← n31];exact h
      have g3b:x2.cell? ⟨G,27,none⟩=some (.slice s3 (limbs N1).length s5):=by have h:=(boxC pG 27 _ rfl).1;rw [← n32];exact h
      have g3c:x2.cell? ⟨G,28,none⟩=some (.int .i64 E1):=by have h:=(boxC pG 28 _ rfl).1;rw [← n33];exact h
      have h30:x2.cell? ⟨wi.heap.size,0,none⟩=some (.bool g1):=(boxC p1 0 _ rfl).1
      have h31:x2.cell? ⟨wi.heap.size,1,none⟩=some (.slice mb (limbs N1).length md):=(boxC p1 1 _ rfl).1
      have h32:x2.cell? ⟨wi.heap.size,2,none⟩=some (.int .i64 E1):=(boxC p1 2 _ rfl).1
      have HS3:=Lib.hid (sameNum_any g1 s3 (limbs N1).length s5 (limbs N1) E1 mb md x2 rfl n34 HMC1.out (by have:=HL1.out;omega) n35 r1)
      have HX33:=Lib.hid n35
      clear pG p0 p1 r0 r1 n35
      go_wp2_with fail
      refine HS3.out.mono ?_
      rintro r x3 ⟨rfl,hb⟩
      have pG:=(hb.block G hG2).trans PG.out;have p0:=(hb.block _ hw0).trans P0.out;have p1:=(hb.block _ hw1).trans P1.out;have r0:=R0.out.below hb;have r1:=R1.out.below hb
      replace hG2:=Nat.lt_of_lt_of_le hG2 hb.size;replace hw0:=Nat.lt_of_lt_of_le hw0 hb.size;replace hw1:=Nat.lt_of_lt_of_le hw1 hb.size
      replace HTOT:=Lib.hid (below_on HTOT.out hb)
      clear hb PG P0 P1 R0 R1 HS3 g3a g3b g3c h30 h31 h32 HX33
      have KW:=Lib.hid (awake10_any x3 (HU.out.below HTOT.out) (HT.out.below HTOT.out))
      clear pG p0 p1 r0 r1
      go_wp2_with fail
      refine KW.out.mono ?_
      rintro r x4 ⟨rfl,hb⟩
      have HZ:=Lib.hid (below_on HTOT.out hb)
      clear hb KW
      go_wp2_with fail
      go_ret
      exact BoolBelow.mk rfl HZ.out
theorem cborNumbers_true (v t:Int) (w:World) (hv:-9223372036854775808≤v∧v≤9223372036854775807) (ht:-9223372036854775808≤t∧t≤9223372036854775807) (hU:UT w) (hT:DB w) :
    Calls Tryz.prog 4 #[.int .i64 v,.bool true,.int .i64 t] w (BoolBelow true w):=by
  have KP:=Lib.hid (place_big v 1099511627776 w hv (by omega))
  have KT:=Lib.hid (fun W=>place_big t 20 W ht (by omega))
  obtain ⟨k,hk⟩:∃ k:Nat,v % 1099511627776=(k:Int):=⟨(v % 1099511627776).toNat,by have:=Int.emod_nonneg v (show (1099511627776:Int) ≠ 0 by decide);omega⟩
  obtain ⟨u,hu⟩:∃ u:Nat,t % 20=(u:Int):=⟨(t % 20).toNat,by have:=Int.emod_nonneg t (show (20:Int) ≠ 0 by decide);omega⟩
  have hkb:k<1099511627776:=by have:=Int.emod_lt_of_pos v (show (0:Int)<1099511627776 by decide);omega
  have hub:u<20:=by have:=Int.emod_lt_of_pos t (show (0:Int)<20 by decide);omega
  rw [hk] at KP
  rw [hu] at KT
  have e1:(k:Int) % 18446744073709551616=(k:Int):=by omega
  have e2:(u:Int) % 256=(u:Int):=by omega
  have e3:bits .or .u8 32 27=59:=by decide
  have e5:(k:Int) / 4294967296 % 256=(k:Int) / 4294967296:=by omega
  have HU:=Lib.hid hU;have HT:=Lib.hid hT
  have HBB:=Lib.hid (big_bytes k hkb)
  have HB5:Hid (#[.int .u8 ((k:Int) / 4294967296),.int .u8 ((k:Int) / 16777216 % 256),.int .u8 ((k:Int) / 65536 % 256),.int .u8 ((k:Int) / 256 % 256),.int .u8 ((k:Int) % 256)]=(bc (bytesL k 5)).toArray):=Lib.hid (by
    rw [HBB.out]
    simp only [bc,List.map_cons,List.map_nil]
    congr 1)
  have H5:=Lib.hid (fun W=>Byt.own (own_lits W (bytesL k 5) _ HB5.out 5 (bytesL_len _ _) (by decide)))
  have HAL:=Lib.hid (fun (W:World) (ob:Obj)=>(Below.refl W.heap.size W).alloc (Nat.le_refl _) ob)
  clear hU hT hk hu hv ht
  go_enter Tryz.func4,Tryz.ntmps4
  go_wp2_with fail
  refine KP.out.mono ?_
  rintro r w1 ⟨rfl,rfl⟩
  go_upto_region 6 with fail
  obtain ⟨W0,hW0⟩:∃ x,w1.alloc (.cells #[.int .u8 ((k:Int) / 4294967296),.int .u8 ((k:Int) / 16777216 % 256),.int .u8 ((k:Int) / 65536 % 256),.int .u8 ((k:Int) / 256 % 256),.int .u8 ((k:Int) % 256)] 5)=x:=⟨_,rfl⟩
  rw [hW0]
  have hb0:=HAL.out w1 (.cells #[.int .u8 ((k:Int) / 4294967296),.int .u8 ((k:Int) / 16777216 % 256),.int .u8 ((k:Int) / 65536 % 256),.int .u8 ((k:Int) / 256 % 256),.int .u8 ((k:Int) % 256)] 5)
  have h50:=H5.out w1
  rw [hW0] at hb0 h50
  have HB0:=Lib.hid hb0;have HL0:=Lib.hid h50
  clear hW0 hb0 h50 H5 HB5 KP e5
  go_wp2_with (at_builtin;refine wpl_lits W0 rfl _ _ rfl _ [59,0,0,0] (by simp [bc]) 4 rfl (by decide) rfl (.slice (some ⟨w1.heap.size,0,none⟩) 5 5) (bytesL k 5) rfl HL0.out (by rw [bytesL_len];decide) ?_)
  intro va wa hya hba
  have HYA:=Lib.hid hya;have HBA:=Lib.hid (below_on HB0.out hba);have HLA:=Lib.hid (HL0.out.on hba)
  clear hya hba HL0
  go_wp2_with (at_builtin;refine wpl_lits wa rfl _ _ rfl _ [195,71,0,0] (by simp [bc]) 4 rfl (by decide) rfl (.slice (some ⟨w1.heap.size,0,none⟩) 5 5) (bytesL k 5) rfl HLA.out (by rw [bytesL_len];decide) ?_)
  intro vb wb hyb hbb
  have HYB:=Lib.hid hyb;have HBB1:=Lib.hid (below_on HBA.out hbb);have HYA1:=Lib.hid (HYA.out.on hbb)
  clear hyb hbb HYA HLA
  go_wp2_with (at_builtin;refine wpl_lits wb rfl _ _ rfl _ [196,130,0] (by simp [bc]) 3 rfl (by decide) rfl va _ rfl HYA1.out (by simp [bytesL_len]) ?_)
  intro vc wc hyc hbc
  have HYC:=Lib.hid hyc;have HBC:=Lib.hid (below_on HBB1.out hbc);have HYA2:=Lib.hid (HYA1.out.on hbc);have HYB2:=Lib.hid (HYB.out.on hbc)
  clear hyc hbc HYA1 HYB
  go_wp2_with fail
  refine (KT.out _).mono ?_
  rintro r wc' ⟨rfl,hwc⟩
  replace hwc:=hwc.symm
  subst hwc
  go_wp2_with (at_builtin;refine wpl_lits wc rfl _ _ rfl _ [196,130,u] (by simp [bc]) 3 rfl (by decide) rfl vb _ rfl HYB2.out (by simp [bytesL_len]) ?_)
  intro vd wd hyd hbd
  have HYD:=Lib.hid hyd;have HBD:=Lib.hid (below_on HBC.out hbd);have HYA3:=Lib.hid (HYA2.out.on hbd);have HYB3:=Lib.hid (HYB2.out.on hbd);have HYC3:=Lib.hid (HYC.out.on hbd)
  clear hyd hbd HYA2 HYB2 HYC e2 e3
  have KL:=Lib.hid (fun W=>limbs10_any k true W hkb)
  obtain ⟨sz,hsz⟩:∃ sz,cbSize (true,k)=sz:=⟨_,rfl⟩
  have hszb:sz<2199023255552:=by rw [← hsz];unfold cbSize;split <;> simp only <;> omega
  have hdm:decide (1=1)=true:=by decide
  have HNA:=Lib.hid (decA 1 k (by decide) hkb (numK_small hkb (by omega)))
  have HNB:=Lib.hid (decB2 1 k (by decide) hkb (numK_small hkb (by omega)))
  have HNC:=Lib.hid (decC 1 k (by decide) hkb (numK_small hkb (by omega)))
  have HND:=Lib.hid (decD 1 k u (by decide) hkb hub (numK_small hkb (by omega)))
  rw [hdm,hsz] at HNA HNB HNC HND
  rw [hsz] at KL
  have KM:=Lib.hid (fun (W:World) (v:Value) (xs:List Nat) (h:ListOk W v 600 sz xs) (e:Int) (he:0≤e∧e≤20)=>refMake_small ((Ctx.begin W).push (x:=⟨v,600,sz,xs⟩) h) 0 rfl (by decide) true e hszb he)
  unfold MadePost at KM
  have KM0:=Lib.hid (fun (W:World) (v:Value) (xs:List Nat) (h:ListOk W v 600 sz xs)=>KM.out W v xs h 0 (by omega))
  have KM1:=Lib.hid (fun (W:World) (v:Value) (xs:List Nat) (h:ListOk W v 600 sz xs)=>KM.out W v xs h (u:Int) (by omega))
  clear KM hsz hdm
  generalize hR0:mkR true sz 0=R0 at *
  generalize hR1:mkR true sz (u:Int)=R1 at *
  obtain ⟨g0,N0,E0⟩:=R0
  obtain ⟨g1,N1,E1⟩:=R1
  simp only at KM0 KM1
  have HL0:=Lib.hid (mkR_len hR0 hszb);have HL1:=Lib.hid (mkR_len hR1 hszb)
  clear hR0 hR1 hszb
  go_wp2_with fail
  refine (KL.out _).mono ?_
  rintro r we ⟨vl,xl,rfl,hle,hbe⟩
  have HLE:=Lib.hid hle;have HBE:=Lib.hid (below_on HBD.out hbe);have HB1:=Lib.hid hbe
  clear hle hbe
  go_wp2_with fail
  refine (KM0.out _ _ _ HLE.out).mono ?_
  rintro r wf ⟨vm,rfl,hc⟩
  obtain ⟨ma,mc,rfl,hm1,hm2,hm3,hm4,hm5⟩:=hc.get 0 rfl
  have HM0:Hid (Rd wf ma (limbs N0)):=Lib.hid hm4
  have HMC0:Hid ((limbs N0).length≤mc):=Lib.hid hm1
  have HB2:=Lib.hid hc.below
  have HBF:=Lib.hid (below_on HBE.out hc.below)
  clear hc hm1 hm2 hm3 hm4 hm5 HLE
  go_upto_region 11 with fail
  obtain ⟨Wg,hWg⟩:∃ x,wf.alloc (.cells #[.bool g0,.slice ma (limbs N0).length mc,.int .i64 E0] 25)=x:=⟨_,rfl⟩
  have hbg:Below wf.heap.size wf Wg:=by rw [← hWg];exact HAL.out _ _
  have qg:Wg.heap[wf.heap.size]? = some (.cells #[.bool g0,.slice ma (limbs N0).length mc,.int .i64 E0] 25):=by rw [← hWg];exact heap_alloc_new wf _
  rw [hWg]
  have HBG:=Lib.hid (below_on HBF.out hbg);have HB3:=Lib.hid hbg;have QG:=Lib.hid qg
  clear hWg hbg qg
  go_wp2_with fail
  refine (KL.out _).mono ?_
  rintro r wh ⟨vl2,xl2,rfl,hle,hbe⟩
  have HLE:=Lib.hid hle;have HBH:=Lib.hid (below_on HBG.out hbe);have HB4:=Lib.hid hbe
  clear hle hbe
  go_wp2_with fail
  refine (KT.out _).mono ?_
  rintro r wx ⟨rfl,hwx⟩
  replace hwx:=hwx.symm
  subst hwx
  go_wp2_with fail
  refine (KM1.out _ _ _ HLE.out).mono ?_
  rintro r wi ⟨vm,rfl,hc⟩
  obtain ⟨mb,md,rfl,hm1,hm2,hm3,hm4,hm5⟩:=hc.get 0 rfl
  have HM1:Hid (Rd wi mb (limbs N1)):=Lib.hid hm4
  have HMC1:Hid ((limbs N1).length≤md):=Lib.hid hm1
  have HB5:=Lib.hid hc.below
  have HBI:=Lib.hid (below_on HBH.out hc.below)
  clear hc hm1 hm2 hm3 hm4 hm5 HLE
  go_upto_region 12 with fail
  obtain ⟨Wj,hWj⟩:∃ x,wi.alloc (.cells #[.bool g1,.slice mb (limbs N1).length md,.int .i64 E1] 25)=x:=⟨_,rfl⟩
  have hbj:Below wi.heap.size wi Wj:=by rw [← hWj];exact HAL.out _ _
  have qj:Wj.heap[wi.heap.size]? = some (.cells #[.bool g1,.slice mb (limbs N1).length md,.int .i64 E1] 25):=by rw [← hWj];exact heap_alloc_new wi _
  rw [hWj]
  have HBJ:=Lib.hid (below_on HBI.out hbj);have HB6:=Lib.hid hbj;have QJ:=Lib.hid qj
  clear hWj hbj qj
  go_upto_region 13 with fail
  obtain ⟨Wk,hWk⟩:∃ x,Wj.alloc (.cells #[.int .i64 0,.bool false,.bool false,.slice none 0 0,.int .i64 0,.string ⟨#[]⟩,.slice none 0 0,.slice none 0 0,.int .i64 0,.bool false,.bool false,.slice none 0 0,.int .i64 0,.string ⟨#[]⟩,.slice none 0 0,.slice none 0 0,.int .i64 0,.bool false,.bool false,.slice none 0 0,.int .i64 0,.string ⟨#[]⟩,.slice none 0 0,.slice none 0 0,.int .i64 0,.bool false,.bool false,.slice none 0 0,.int .i64 0,.string ⟨#[]⟩,.slice none 0 0,.slice none 0 0] 46)=x:=⟨_,rfl⟩
  have hbk:Below Wj.heap.size Wj Wk:=by rw [← hWk];exact HAL.out _ _
  have qk:Arr Wk Wj.heap.size zc zc zc zc:=by rw [← hWk];exact heap_alloc_new Wj _
  rw [hWk]
  have hbb:=HB1.out.trans ((HB2.out.trans ((HB3.out.trans ((HB4.out.trans ((HB5.out.trans (HB6.out.mono HB5.out.size)).mono HB4.out.size)).mono HB3.out.size)).mono HB2.out.size)).mono HB1.out.size)
  have HYA4:=HYA3.out.on hbb;have HYB4:=HYB3.out.on hbb;have HYC4:=HYC3.out.on hbb;have HYD4:=HYD.out.on hbb
  have HMR0:=Lib.hid (HM0.out.below (HB3.out.trans ((HB4.out.trans ((HB5.out.trans (HB6.out.mono HB5.out.size)).mono HB4.out.size)).mono HB3.out.size)))
  have HMR1:=Lib.hid (HM1.out.below HB6.out)
  have QGJ:=Lib.hid (((HB4.out.trans ((HB5.out.trans (HB6.out.mono HB5.out.size)).mono HB4.out.size)).block _ (Array.getElem?_eq_some_iff.1 QG.out).1).trans QG.out)
  obtain ⟨aa,an,ac,rfl,aa1,aa2,aa3,aa4,_⟩:=HYA4.at_
  obtain ⟨ba,bn,bcc,rfl,ba1,ba2,ba3,ba4,_⟩:=HYB4.at_
  obtain ⟨ca,cn,cc,rfl,ca1,ca2,ca3,ca4,_⟩:=HYC4.at_
  obtain ⟨da,dn,dc,rfl,da1,da2,da3,da4,_⟩:=HYD4.at_
  have hUj:=HU.out.below HBJ.out
  have KA:=Lib.hid (fun W (hb:Below Wj.heap.size Wj W)=>(show Calls Tryz.prog 12 #[.slice aa an ac] W (DecC (.inl (bnumC (g0,N0,E0))) W) from by rw [← HNA.out];exact decode_cb aa an ac _ W (hUj.below hb) aa1 aa2 (by unfold Okb inA;have:=bytesL_ok k 5;intro x hx;simp only [List.mem_cons] at hx;rcases hx with rfl | rfl | rfl | rfl | hx <;> first | decide | exact this x hx) (aa3.on hb) aa4))
  have KB:=Lib.hid (fun W (hb:Below Wj.heap.size Wj W)=>(show Calls Tryz.prog 12 #[.slice ba bn bcc] W (DecC (.inl (bnumC (g0,N0,E0))) W) from by rw [← HNB.out];exact decode_cb ba bn bcc _ W (hUj.below hb) ba1 ba2 (by unfold Okb inB;have:=bytesL_ok k 5;intro x hx;simp only [List.mem_cons] at hx;rcases hx with rfl | rfl | rfl | rfl | hx <;> first | decide | exact this x hx) (ba3.on hb) ba4))
  have KC:=Lib.hid (fun W (hb:Below Wj.heap.size Wj W)=>(show Calls Tryz.prog 12 #[.slice ca cn cc] W (DecC (.inl (bnumC (g0,N0,E0))) W) from by rw [← HNC.out];exact decode_cb ca cn cc _ W (hUj.below hb) ca1 ca2 (by unfold Okb inC inA;have:=bytesL_ok k 5;intro x hx;simp only [List.mem_cons] at hx;rcases hx with rfl | rfl | rfl | rfl | rfl | rfl | rfl | hx <;> first | decide | exact this x hx) (ca3.on hb) ca4))
  have KD4:=Lib.hid (fun W (hb:Below Wj.heap.size Wj W)=>(show Calls Tryz.prog 12 #[.slice da dn dc] W (DecC (.inl (bnumC (g1,N1,E1))) W) from by rw [← HND.out];exact decode_cb da dn dc _ W (hUj.below hb) da1 da2 (by unfold Okb inD inB;have:=bytesL_ok k 5;intro x hx;simp only [List.mem_cons] at hx;rcases hx with rfl | rfl | rfl | rfl | rfl | rfl | rfl | hx <;> first | decide | omega | exact this x hx) (da3.on hb) da4))
  have HST:=Lib.hid (show LpN Wj Wj.heap.size g0 N0 E0 g1 N1 E1 5 (.int .i64 ((0:Nat):Int)) Wk from ⟨0,zc,zc,zc,zc,rfl,by omega,rfl,qk,nofun,nofun,nofun,nofun,hbk⟩)
  have HGJ:=Lib.hid (show wf.heap.size<Wj.heap.size from Nat.lt_of_lt_of_le (Array.getElem?_eq_some_iff.1 QG.out).1 (Nat.le_trans HB4.out.size (Nat.le_trans HB5.out.size HB6.out.size)))
  have HIJ:=Lib.hid (Array.getElem?_eq_some_iff.1 QJ.out).1
  clear hWk hbk qk hbb HYA4 HYB4 HYC4 HYD4 aa1 aa2 aa3 aa4 ba1 ba2 ba3 ba4 ca1 ca2 ca3 ca4 da1 da2 da3 da4 hUj HNA HNB HNC HND HYA3 HYB3 HYC3 HYD HB1 HB2 HB3 HB4 HB5 HB6 KL KM0 KM1 KT HBB hkb hub
  obtain ⟨G,hG⟩:∃ G,Wj.heap.size=G:=⟨_,rfl⟩
  rw [hG] at HST KA KB KC KD4 HGJ HIJ ⊢
  have HG:=Lib.hid hG
  clear hG
  go_wp2_with fail
  go_loopg [86] 5 (fun g i wr=>LpN Wj G g0 N0 E0 g1 N1 E1 g i wr)
  case atStart=>exact HST.out
  case round =>
    clear HST
    obtain ⟨j,c0,c1,c2,c3,rfl,hj,hgk,har,hn0,hn1,hn2,hn3,hbr⟩:=hrel
    have hj5:j=0∨j=1∨j=2∨j=3∨j=4:=by omega
    clear hj
    rcases hj5 with rfl | rfl | rfl | rfl | rfl
    · skip
      have HAR:=Lib.hid har;have HBR:=Lib.hid hbr
      clear har hbr hn0 hn1 hn2 hn3
      have KD:=Lib.hid (KA.out wr HBR.out)
      unfold DecC at KD
      have hix:∀ W:World,(Instr.index 47 (.agg #[.slice aa an ac,.slice ba bn bcc,.slice ca cn cc,.slice da dn dc]) (.int .i64 0)).run Tryz.prog W=.ok (.slice aa an ac) W:=fun W=>by kernel_rfl
      go_wp2_with fail
      refine KD.out.mono ?_
      rintro r wq ⟨t',rfl,hbare,hR,hbq⟩
      obtain ⟨z0,z1,z2,z3,z4,z5⟩:=num_cells hbare hR
      have HNJ:Hid (NumC wq t'.c g0 N0 E0):=Lib.hid ⟨z1,z2,z3,z4,z5⟩
      generalize t'.c=tc at *
      obtain ⟨xk,xb,xneg,xma,xmn,xmc,xe,xs,xka,xkn,xkc,xva,xvn,xvc⟩:=tc
      simp only at z0
      subst z0
      unfold Cel.val
      have hgl:G<wr.heap.size:=(Array.getElem?_eq_some_iff.1 HAR.out).1
      have haq:=(hbq.block G hgl).trans HAR.out
      have hgq:G<wq.heap.size:=Nat.lt_of_lt_of_le hgl hbq.size
      obtain ⟨p0,p1,p2,p3,p4,p5,p6,p7,p8,p9,pa,pb,pc,pd⟩:=c0
      obtain ⟨t0,t1,t2,t3,t4,t5,t6,t7,t8,t9,ta,tb,tc,td⟩:=c1
      obtain ⟨r0,r1,r2,r3,r4,r5,r6,r7,r8,r9,ra,rb,rc,rd⟩:=c2
      obtain ⟨s0,s1,s2,s3,s4,s5,s6,s7,s8,s9,sa,sb,sc,sd⟩:=c3
      have s0:=boxC haq 0 _ rfl
      have s0c:=s0.1;have s0f:=s0.2;clear s0
      have s1:=boxC haq 1 _ rfl
      have s1c:=s1.1;have s1f:=s1.2;clear s1
      have s2:=boxC haq 2 _ rfl
      have s2c:=s2.1;have s2f:=s2.2;clear s2
      have s3:=boxC haq 3 _ rfl
      have s3c:=s3.1;have s3f:=s3.2;clear s3
      have s4:=boxC haq 4 _ rfl
      have s4c:=s4.1;have s4f:=s4.2;clear s4
      have s5:=boxC haq 5 _ rfl
      have s5c:=s5.1;have s5f:=s5.2;clear s5
      have s6:=boxC haq 6 _ rfl
      have s6c:=s6.1;have s6f:=s6.2;clear s6
      have s7:=boxC haq 7 _ rfl
      have s7c:=s7.1;have s7f:=s7.2;clear s7
      have HBQ:=Lib.hid hbq;have haq2:=haq
      have hne:¬ wq.heap.size=G:=by omega
      have hgw:G≤wr.heap.size:=by omega
      clear hbq haq z1 z2 z3 z4 z5 hbare hR KD
      go_wp2_with fail
      have HAQ:=Lib.hid haq2
      clear haq2 s0c s0f s1c s1f s2c s2f s3c s3f s4c s4f s5c s5f s6c s6f s7c s7f
      go_roundg 4
      case measure=>omega
      case rel =>
        obtain ⟨k8,k8s⟩:=keep8 wq G 0 (.int .i64 3) (.bool xb) (.bool xneg) (.slice xma xmn xmc) (.int .i64 xe) (.string xs) (.slice xka xkn xkc) (.slice xva xvn xvc) (.cells #[.int .i64 3,.bool xb,.bool xneg,.slice xma xmn xmc,.int .i64 xe,.string xs,.slice xka xkn xkc,.slice xva xvn xvc] 29)
        have hs8:=set8_blk HAQ.out 0 (.int .i64 3) (.bool xb) (.bool xneg) (.slice xma xmn xmc) (.int .i64 xe) (.string xs) (.slice xka xkn xkc) (.slice xva xvn xvc)
        refine ⟨1,⟨3,xb,xneg,xma,xmn,xmc,xe,xs,xka,xkn,xkc,xva,xvn,xvc⟩,⟨t0,t1,t2,t3,t4,t5,t6,t7,t8,t9,ta,tb,tc,td⟩,⟨r0,r1,r2,r3,r4,r5,r6,r7,r8,r9,ra,rb,rc,rd⟩,⟨s0,s1,s2,s3,s4,s5,s6,s7,s8,s9,sa,sb,sc,sd⟩,by go_num,by omega,by omega,arr_alloc hs8 _ rfl,fun _=>HNJ.out.arr HAQ.out k8 k8s,fun h=>absurd h (by decide),fun h=>absurd h (by decide),fun h=>absurd h (by decide),?_⟩
        have hx:=HBR.out.trans (HBQ.out.mono hgw)
        exact ((((((((hx.setCell (Nat.le_refl _) _).setCell (Nat.le_refl _) _).setCell (Nat.le_refl _) _).setCell (Nat.le_refl _) _).setCell (Nat.le_refl _) _).setCell (Nat.le_refl _) _).setCell (Nat.le_refl _) _).setCell (Nat.le_refl _) _).alloc (by simp [World.setCell];omega) _
    · skip
      have HAR:=Lib.hid har;have HBR:=Lib.hid hbr
      have HN0:=Lib.hid (hn0 (by decide))
      clear har hbr hn0 hn1 hn2 hn3
      have KD:=Lib.hid (KB.out wr HBR.out)
      unfold DecC at KD
      have hix:∀ W:World,(Instr.index 47 (.agg #[.slice aa an ac,.slice ba bn bcc,.slice ca cn cc,.slice da dn dc]) (.int .i64 1)).run Tryz.prog W=.ok (.slice ba bn bcc) W:=fun W=>by kernel_rfl
      go_wp2_with fail
      refine KD.out.mono ?_
      rintro r wq ⟨t',rfl,hbare,hR,hbq⟩
      obtain ⟨z0,z1,z2,z3,z4,z5⟩:=num_cells hbare hR
      have HNJ:Hid (NumC wq t'.c g0 N0 E0):=Lib.hid ⟨z1,z2,z3,z4,z5⟩
      generalize t'.c=tc at *
      obtain ⟨xk,xb,xneg,xma,xmn,xmc,xe,xs,xka,xkn,xkc,xva,xvn,xvc⟩:=tc
      simp only at z0
      subst z0
      unfold Cel.val
      have hgl:G<wr.heap.size:=(Array.getElem?_eq_some_iff.1 HAR.out).1
      have haq:=(hbq.block G hgl).trans HAR.out
      have hgq:G<wq.heap.size:=Nat.lt_of_lt_of_le hgl hbq.size
      obtain ⟨p0,p1,p2,p3,p4,p5,p6,p7,p8,p9,pa,pb,pc,pd⟩:=c0
      obtain ⟨t0,t1,t2,t3,t4,t5,t6,t7,t8,t9,ta,tb,tc,td⟩:=c1
      obtain ⟨r0,r1,r2,r3,r4,r5,r6,r7,r8,r9,ra,rb,rc,rd⟩:=c2
      obtain ⟨s0,s1,s2,s3,s4,s5,s6,s7,s8,s9,sa,sb,sc,sd⟩:=c3
      have HM0':=Lib.hid (HN0.out.on hbq)
      have s0:=boxC haq 8 _ rfl
      have s0c:=s0.1;have s0f:=s0.2;clear s0
      have s1:=boxC haq 9 _ rfl
      have s1c:=s1.1;have s1f:=s1.2;clear s1
      have s2:=boxC haq 10 _ rfl
      have s2c:=s2.1;have s2f:=s2.2;clear s2
      have s3:=boxC haq 11 _ rfl
      have s3c:=s3.1;have s3f:=s3.2;clear s3
      have s4:=boxC haq 12 _ rfl
      have s4c:=s4.1;have s4f:=s4.2;clear s4
      have s5:=boxC haq 13 _ rfl
      have s5c:=s5.1;have s5f:=s5.2;clear s5
      have s6:=boxC haq 14 _ rfl
      have s6c:=s6.1;have s6f:=s6.2;clear s6
      have s7:=boxC haq 15 _ rfl
      have s7c:=s7.1;have s7f:=s7.2;clear s7
      have HBQ:=Lib.hid hbq;have haq2:=haq
      have hne:¬ wq.heap.size=G:=by omega
      have hgw:G≤wr.heap.size:=by omega
      clear hbq haq z1 z2 z3 z4 z5 hbare hR KD
      go_wp2_with fail
      have HAQ:=Lib.hid haq2
      clear haq2 s0c s0f s1c s1f s2c s2f s3c s3f s4c s4f s5c s5f s6c s6f s7c s7f
      go_roundg 3
      case measure=>omega
      case rel =>
        obtain ⟨k8,k8s⟩:=keep8 wq G 8 (.int .i64 3) (.bool xb) (.bool xneg) (.slice xma xmn xmc) (.int .i64 xe) (.string xs) (.slice xka xkn xkc) (.slice xva xvn xvc) (.cells #[.int .i64 3,.bool xb,.bool xneg,.slice xma xmn xmc,.int .i64 xe,.string xs,.slice xka xkn xkc,.slice xva xvn xvc] 29)
        have hs8:=set8_blk HAQ.out 8 (.int .i64 3) (.bool xb) (.bool xneg) (.slice xma xmn xmc) (.int .i64 xe) (.string xs) (.slice xka xkn xkc) (.slice xva xvn xvc)
        refine ⟨2,⟨p0,p1,p2,p3,p4,p5,p6,p7,p8,p9,pa,pb,pc,pd⟩,⟨3,xb,xneg,xma,xmn,xmc,xe,xs,xka,xkn,xkc,xva,xvn,xvc⟩,⟨r0,r1,r2,r3,r4,r5,r6,r7,r8,r9,ra,rb,rc,rd⟩,⟨s0,s1,s2,s3,s4,s5,s6,s7,s8,s9,sa,sb,sc,sd⟩,by go_num,by omega,by omega,arr_alloc hs8 _ rfl,fun _=>HM0'.out.arr HAQ.out k8 k8s,fun _=>HNJ.out.arr HAQ.out k8 k8s,fun h=>absurd h (by decide),fun h=>absurd h (by decide),?_⟩
        have hx:=HBR.out.trans (HBQ.out.mono hgw)
        exact ((((((((hx.setCell (Nat.le_refl _) _).setCell (Nat.le_refl _) _).setCell (Nat.le_refl _) _).setCell (Nat.le_refl _) _).setCell (Nat.le_refl _) _).setCell (Nat.le_refl _) _).setCell (Nat.le_refl _) _).setCell (Nat.le_refl _) _).alloc (by simp [World.setCell];omega) _
    · skip
      have HAR:=Lib.hid har;have HBR:=Lib.hid hbr
      have HN0:=Lib.hid (hn0 (by decide))
      have HN1:=Lib.hid (hn1 (by decide))
      clear har hbr hn0 hn1 hn2 hn3
      have KD:=Lib.hid (KC.out wr HBR.out)
      unfold DecC at KD
      have hix:∀ W:World,(Instr.index 47 (.agg #[.slice aa an ac,.slice ba bn bcc,.slice ca cn cc,.slice da dn dc]) (.int .i64 2)).run Tryz.prog W=.ok (.slice ca cn cc) W:=fun W=>by kernel_rfl
      go_wp2_with fail
      refine KD.out.mono ?_
      rintro r wq ⟨t',rfl,hbare,hR,hbq⟩
      obtain ⟨z0,z1,z2,z3,z4,z5⟩:=num_cells hbare hR
      have HNJ:Hid (NumC wq t'.c g0 N0 E0):=Lib.hid ⟨z1,z2,z3,z4,z5⟩
      generalize t'.c=tc at *
      obtain ⟨xk,xb,xneg,xma,xmn,xmc,xe,xs,xka,xkn,xkc,xva,xvn,xvc⟩:=tc
      simp only at z0
      subst z0
      unfold Cel.val
      have hgl:G<wr.heap.size:=(Array.getElem?_eq_some_iff.1 HAR.out).1
      have haq:=(hbq.block G hgl).trans HAR.out
      have hgq:G<wq.heap.size:=Nat.lt_of_lt_of_le hgl hbq.size
      obtain ⟨p0,p1,p2,p3,p4,p5,p6,p7,p8,p9,pa,pb,pc,pd⟩:=c0
      obtain ⟨t0,t1,t2,t3,t4,t5,t6,t7,t8,t9,ta,tb,tc,td⟩:=c1
      obtain ⟨r0,r1,r2,r3,r4,r5,r6,r7,r8,r9,ra,rb,rc,rd⟩:=c2
      obtain ⟨s0,s1,s2,s3,s4,s5,s6,s7,s8,s9,sa,sb,sc,sd⟩:=c3
      have HM0':=Lib.hid (HN0.out.on hbq)
      have HM1':=Lib.hid (HN1.out.on hbq)
      have s0:=boxC haq 16 _ rfl
      have s0c:=s0.1;have s0f:=s0.2;clear s0
      have s1:=boxC haq 17 _ rfl
      have s1c:=s1.1;have s1f:=s1.2;clear s1
      have s2:=boxC haq 18 _ rfl
      have s2c:=s2.1;have s2f:=s2.2;clear s2
      have s3:=boxC haq 19 _ rfl
      have s3c:=s3.1;have s3f:=s3.2;clear s3
      have s4:=boxC haq 20 _ rfl
      have s4c:=s4.1;have s4f:=s4.2;clear s4
      have s5:=boxC haq 21 _ rfl
      have s5c:=s5.1;have s5f:=s5.2;clear s5
      have s6:=boxC haq 22 _ rfl
      have s6c:=s6.1;have s6f:=s6.2;clear s6
      have s7:=boxC haq 23 _ rfl
      have s7c:=s7.1;have s7f:=s7.2;clear s7
      have HBQ:=Lib.hid hbq;have haq2:=haq
      have hne:¬ wq.heap.size=G:=by omega
      have hgw:G≤wr.heap.size:=by omega
      clear hbq haq z1 z2 z3 z4 z5 hbare hR KD
      go_wp2_with fail
      have HAQ:=Lib.hid haq2
      clear haq2 s0c s0f s1c s1f s2c s2f s3c s3f s4c s4f s5c s5f s6c s6f s7c s7f
      go_roundg 2
      case measure=>omega
      case rel =>
        obtain ⟨k8,k8s⟩:=keep8 wq G 16 (.int .i64 3) (.bool xb) (.bool xneg) (.slice xma xmn xmc) (.int .i64 xe) (.string xs) (.slice xka xkn xkc) (.slice xva xvn xvc) (.cells #[.int .i64 3,.bool xb,.bool xneg,.slice xma xmn xmc,.int .i64 xe,.string xs,.slice xka xkn xkc,.slice xva xvn xvc] 29)
        have hs8:=set8_blk HAQ.out 16 (.int .i64 3) (.bool xb) (.bool xneg) (.slice xma xmn xmc) (.int .i64 xe) (.string xs) (.slice xka xkn xkc) (.slice xva xvn xvc)
        refine ⟨3,⟨p0,p1,p2,p3,p4,p5,p6,p7,p8,p9,pa,pb,pc,pd⟩,⟨t0,t1,t2,t3,t4,t5,t6,t7,t8,t9,ta,tb,tc,td⟩,⟨3,xb,xneg,xma,xmn,xmc,xe,xs,xka,xkn,xkc,xva,xvn,xvc⟩,⟨s0,s1,s2,s3,s4,s5,s6,s7,s8,s9,sa,sb,sc,sd⟩,by go_num,by omega,by omega,arr_alloc hs8 _ rfl,fun _=>HM0'.out.arr HAQ.out k8 k8s,fun _=>HM1'.out.arr HAQ.out k8 k8s,fun _=>HNJ.out.arr HAQ.out k8 k8s,fun h=>absurd h (by decide),?_⟩
        have hx:=HBR.out.trans (HBQ.out.mono hgw)
        exact ((((((((hx.setCell (Nat.le_refl _) _).setCell (Nat.le_refl _) _).setCell (Nat.le_refl _) _).setCell (Nat.le_refl _) _).setCell (Nat.le_refl _) _).setCell (Nat.le_refl _) _).setCell (Nat.le_refl _) _).setCell (Nat.le_refl _) _).alloc (by simp [World.setCell];omega) _
    · skip
      have HAR:=Lib.hid har;have HBR:=Lib.hid hbr
      have HN0:=Lib.hid (hn0 (by decide))
      have HN1:=Lib.hid (hn1 (by decide))
      have HN2:=Lib.hid (hn2 (by decide))
      clear har hbr hn0 hn1 hn2 hn3
      have KD:=Lib.hid (KD4.out wr HBR.out)
      unfold DecC at KD
      have hix:∀ W:World,(Instr.index 47 (.agg #[.slice aa an ac,.slice ba bn bcc,.slice ca cn cc,.slice da dn dc]) (.int .i64 3)).run Tryz.prog W=.ok (.slice da dn dc) W:=fun W=>by kernel_rfl
      go_wp2_with fail
      refine KD.out.mono ?_
      rintro r wq ⟨t',rfl,hbare,hR,hbq⟩
      obtain ⟨z0,z1,z2,z3,z4,z5⟩:=num_cells hbare hR
      have HNJ:Hid (NumC wq t'.c g1 N1 E1):=Lib.hid ⟨z1,z2,z3,z4,z5⟩
      generalize t'.c=tc at *
      obtain ⟨xk,xb,xneg,xma,xmn,xmc,xe,xs,xka,xkn,xkc,xva,xvn,xvc⟩:=tc
      simp only at z0
      subst z0
      unfold Cel.val
      have hgl:G<wr.heap.size:=(Array.getElem?_eq_some_iff.1 HAR.out).1
      have haq:=(hbq.block G hgl).trans HAR.out
      have hgq:G<wq.heap.size:=Nat.lt_of_lt_of_le hgl hbq.size
      obtain ⟨p0,p1,p2,p3,p4,p5,p6,p7,p8,p9,pa,pb,pc,pd⟩:=c0
      obtain ⟨t0,t1,t2,t3,t4,t5,t6,t7,t8,t9,ta,tb,tc,td⟩:=c1
      obtain ⟨r0,r1,r2,r3,r4,r5,r6,r7,r8,r9,ra,rb,rc,rd⟩:=c2
      obtain ⟨s0,s1,s2,s3,s4,s5,s6,s7,s8,s9,sa,sb,sc,sd⟩:=c3
      have HM0':=Lib.hid (HN0.out.on hbq)
      have HM1':=Lib.hid (HN1.out.on hbq)
      have HM2':=Lib.hid (HN2.out.on hbq)
      have s0:=boxC haq 24 _ rfl
      have s0c:=s0.1;have s0f:=s0.2;clear s0
      have s1:=boxC haq 25 _ rfl
      have s1c:=s1.1;have s1f:=s1.2;clear s1
      have s2:=boxC haq 26 _ rfl
      have s2c:=s2.1;have s2f:=s2.2;clear s2
      have s3:=boxC haq 27 _ rfl
      have s3c:=s3.1;have s3f:=s3.2;clear s3
      have s4:=boxC haq 28 _ rfl
      have s4c:=s4.1;have s4f:=s4.2;clear s4
      have s5:=boxC haq 29 _ rfl
      have s5c:=s5.1;have s5f:=s5.2;clear s5
      have s6:=boxC haq 30 _ rfl
      have s6c:=s6.1;have s6f:=s6.2;clear s6
      have s7:=boxC haq 31 _ rfl
      have s7c:=s7.1;have s7f:=s7.2;clear s7
      have HBQ:=Lib.hid hbq;have haq2:=haq
      have hne:¬ wq.heap.size=G:=by omega
      have hgw:G≤wr.heap.size:=by omega
      clear hbq haq z1 z2 z3 z4 z5 hbare hR KD
      go_wp2_with fail
      have HAQ:=Lib.hid haq2
      clear haq2 s0c s0f s1c s1f s2c s2f s3c s3f s4c s4f s5c s5f s6c s6f s7c s7f
      go_roundg 1
      case measure=>omega
      case rel =>
        obtain ⟨k8,k8s⟩:=keep8 wq G 24 (.int .i64 3) (.bool xb) (.bool xneg) (.slice xma xmn xmc) (.int .i64 xe) (.string xs) (.slice xka xkn xkc) (.slice xva xvn xvc) (.cells #[.int .i64 3,.bool xb,.bool xneg,.slice xma xmn xmc,.int .i64 xe,.string xs,.slice xka xkn xkc,.slice xva xvn xvc] 29)
        have hs8:=set8_blk HAQ.out 24 (.int .i64 3) (.bool xb) (.bool xneg) (.slice xma xmn xmc) (.int .i64 xe) (.string xs) (.slice xka xkn xkc) (.slice xva xvn xvc)
        refine ⟨4,⟨p0,p1,p2,p3,p4,p5,p6,p7,p8,p9,pa,pb,pc,pd⟩,⟨t0,t1,t2,t3,t4,t5,t6,t7,t8,t9,ta,tb,tc,td⟩,⟨r0,r1,r2,r3,r4,r5,r6,r7,r8,r9,ra,rb,rc,rd⟩,⟨3,xb,xneg,xma,xmn,xmc,xe,xs,xka,xkn,xkc,xva,xvn,xvc⟩,by go_num,by omega,by omega,arr_alloc hs8 _ rfl,fun _=>HM0'.out.arr HAQ.out k8 k8s,fun _=>HM1'.out.arr HAQ.out k8 k8s,fun _=>HM2'.out.arr HAQ.out k8 k8s,fun _=>HNJ.out.arr HAQ.out k8 k8s,?_⟩
        have hx:=HBR.out.trans (HBQ.out.mono hgw)
        exact ((((((((hx.setCell (Nat.le_refl _) _).setCell (Nat.le_refl _) _).setCell (Nat.le_refl _) _).setCell (Nat.le_refl _) _).setCell (Nat.le_refl _) _).setCell (Nat.le_refl _) _).setCell (Nat.le_refl _) _).setCell (Nat.le_refl _) _).alloc (by simp [World.setCell];omega) _
    · skip
      rw [← HG.out] at hbr
      obtain ⟨n01,n02,n03,n04,n05⟩:=hn0 (by decide)
      obtain ⟨n11,n12,n13,n14,n15⟩:=hn1 (by decide)
      obtain ⟨n21,n22,n23,n24,n25⟩:=hn2 (by decide)
      obtain ⟨n31,n32,n33,n34,n35⟩:=hn3 (by decide)
      clear hn0 hn1 hn2 hn3
      obtain ⟨p0,p1,p2,p3,p4,p5,p6,p7,p8,p9,pa,pb,pc,pd⟩:=c0
      obtain ⟨t0,t1,t2,t3,t4,t5,t6,t7,t8,t9,ta,tb,tc,td⟩:=c1
      obtain ⟨r0,r1,r2,r3,r4,r5,r6,r7,r8,r9,ra,rb,rc,rd⟩:=c2
      obtain ⟨s0,s1,s2,s3,s4,s5,s6,s7,s8,s9,sa,sb,sc,sd⟩:=c3
      simp only at n01 n02 n03 n04 n05
      simp only at n11 n12 n13 n14 n15
      simp only at n21 n22 n23 n24 n25
      simp only at n31 n32 n33 n34 n35
      rw [n02] at n04
      rw [n12] at n14
      rw [n22] at n24
      rw [n32] at n34
      have hG2:=(Array.getElem?_eq_some_iff.1 har).1
      have pG:=har
      have p0:=(hbr.block wf.heap.size (by rw [HG.out];exact HGJ.out)).trans QGJ.out
      have p1:=(hbr.block wi.heap.size (by rw [HG.out];exact HIJ.out)).trans QJ.out
      have r0:=HMR0.out.below hbr;have r1:=HMR1.out.below hbr
      have HTOT:=Lib.hid (below_on HBJ.out hbr)
      have hw0:wf.heap.size<wr.heap.size:=(Array.getElem?_eq_some_iff.1 p0).1
      have hw1:wi.heap.size<wr.heap.size:=(Array.getElem?_eq_some_iff.1 p1).1
      clear har hbr QGJ QJ HMR0 HMR1 KA KB KC KD4 HBJ
      have PG:=Lib.hid pG;have P0:=Lib.hid p0;have P1:=Lib.hid p1;have R0:=Lib.hid r0;have R1:=Lib.hid r1
      have g0a:wr.cell? ⟨G,2,none⟩=some (.bool g0):=by have h:=(boxC pG 2 _ rfl).1;rw [← n01];exact h
      have g0b:wr.cell? ⟨G,3,none⟩=some (.slice p3 (limbs N0).length p5):=by have h:=(boxC pG 3 _ rfl).1;rw [← n02];exact h
      have g0c:wr.cell? ⟨G,4,none⟩=some (.int .i64 E0):=by have h:=(boxC pG 4 _ rfl).1;rw [← n03];exact h
      have h00:wr.cell? ⟨wf.heap.size,0,none⟩=some (.bool g0):=(boxC p0 0 _ rfl).1
      have h01:wr.cell? ⟨wf.heap.size,1,none⟩=some (.slice ma (limbs N0).length mc):=(boxC p0 1 _ rfl).1
      have h02:wr.cell? ⟨wf.heap.size,2,none⟩=some (.int .i64 E0):=(boxC p0 2 _ rfl).1
      have HS0:=Lib.hid (sameNum_any g0 p3 (limbs N0).length p5 (limbs N0) E0 ma mc wr rfl n04 HMC0.out (by have:=HL0.out;omega) n05 r0)
      have HX00:=Lib.hid n05
      have HX01:=Lib.hid n15
      have HX02:=Lib.hid n25
      have HX03:=Lib.hid n35
      clear pG p0 p1 r0 r1 n05 n15 n25 n35
      go_wp2_with fail
      refine HS0.out.mono ?_
      rintro r x0 ⟨rfl,hb⟩
      have pG:=(hb.block G hG2).trans PG.out;have p0:=(hb.block _ hw0).trans P0.out;have p1:=(hb.block _ hw1).trans P1.out;have r0:=R0.out.below hb;have r1:=R1.out.below hb
      have n15:=HX01.out.below hb
      have n25:=HX02.out.below hb
      have n35:=HX03.out.below hb
      replace hG2:=Nat.lt_of_lt_of_le hG2 hb.size;replace hw0:=Nat.lt_of_lt_of_le hw0 hb.size;replace hw1:=Nat.lt_of_lt_of_le hw1 hb.size
      replace HTOT:=Lib.hid (below_on HTOT.out hb)
      clear hb PG P0 P1 R0 R1 HS0 g0a g0b g0c h00 h01 h02 HX00 HX01 HX02 HX03
      have PG:=Lib.hid pG;have P0:=Lib.hid p0;have P1:=Lib.hid p1;have R0:=Lib.hid r0;have R1:=Lib.hid r1
      have g1a:x0.cell? ⟨G,10,none⟩=some (.bool g0):=by have h:=(boxC pG 10 _ rfl).1;rw [← n11];exact h
      have g1b:x0.cell? ⟨G,11,none⟩=some (.slice t3 (limbs N0).length t5):=by have h:=(boxC pG 11 _ rfl).1;rw [← n12];exact h
      have g1c:x0.cell? ⟨G,12,none⟩=some (.int .i64 E0):=by have h:=(boxC pG 12 _ rfl).1;rw [← n13];exact h
      have h10:x0.cell? ⟨wf.heap.size,0,none⟩=some (.bool g0):=(boxC p0 0 _ rfl).1
      have h11:x0.cell? ⟨wf.heap.size,1,none⟩=some (.slice ma (limbs N0).length mc):=(boxC p0 1 _ rfl).1
      have h12:x0.cell? ⟨wf.heap.size,2,none⟩=some (.int .i64 E0):=(boxC p0 2 _ rfl).1
      have HS1:=Lib.hid (sameNum_any g0 t3 (limbs N0).length t5 (limbs N0) E0 ma mc x0 rfl n14 HMC0.out (by have:=HL0.out;omega) n15 r0)
      have HX11:=Lib.hid n15
      have HX12:=Lib.hid n25
      have HX13:=Lib.hid n35
      clear pG p0 p1 r0 r1 n15 n25 n35
      go_wp2_with fail
      refine HS1.out.mono ?_
      rintro r x1 ⟨rfl,hb⟩
      have pG:=(hb.block G hG2).trans PG.out;have p0:=(hb.block _ hw0).trans P0.out;have p1:=(hb.block _ hw1).trans P1.out;have r0:=R0.out.below hb;have r1:=R1.out.below hb
      have n25:=HX12.out.below hb
      have n35:=HX13.out.below hb
      replace hG2:=Nat.lt_of_lt_of_le hG2 hb.size;replace hw0:=Nat.lt_of_lt_of_le hw0 hb.size;replace hw1:=Nat.lt_of_lt_of_le hw1 hb.size
      replace HTOT:=Lib.hid (below_on HTOT.out hb)
      clear hb PG P0 P1 R0 R1 HS1 g1a g1b g1c h10 h11 h12 HX11 HX12 HX13
      have PG:=Lib.hid pG;have P0:=Lib.hid p0;have P1:=Lib.hid p1;have R0:=Lib.hid r0;have R1:=Lib.hid r1
      have g2a:x1.cell? ⟨G,18,none⟩=some (.bool g0):=by have h:=(boxC pG 18 _ rfl).1;rw [← n21];exact h
      have g2b:x1.cell? ⟨G,19,none⟩=some (.slice r3 (limbs N0).length r5):=by have h:=(boxC pG 19 _ rfl).1;rw [← n22];exact h
      have g2c:x1.cell? ⟨G,20,none⟩=some (.int .i64 E0):=by have h:=(boxC pG 20 _ rfl).1;rw [← n23];exact h
      have h20:x1.cell? ⟨wf.heap.size,0,none⟩=some (.bool g0):=(boxC p0 0 _ rfl).1
      have h21:x1.cell? ⟨wf.heap.size,1,none⟩=some (.slice ma (limbs N0).length mc):=(boxC p0 1 _ rfl).1
      have h22:x1.cell? ⟨wf.heap.size,2,none⟩=some (.int .i64 E0):=(boxC p0 2 _ rfl).1
      have HS2:=Lib.hid (sameNum_any g0 r3 (limbs N0).length r5 (limbs N0) E0 ma mc x1 rfl n24 HMC0.out (by have:=HL0.out;omega) n25 r0)
      have HX22:=Lib.hid n25
      have HX23:=Lib.hid n35
      clear pG p0 p1 r0 r1 n25 n35
      go_wp2_with fail
      refine HS2.out.mono ?_
      rintro r x2 ⟨rfl,hb⟩
      have pG:=(hb.block G hG2).trans PG.out;have p0:=(hb.block _ hw0).trans P0.out;have p1:=(hb.block _ hw1).trans P1.out;have r0:=R0.out.below hb;have r1:=R1.out.below hb
      have n35:=HX23.out.below hb
      replace hG2:=Nat.lt_of_lt_of_le hG2 hb.size;replace hw0:=Nat.lt_of_lt_of_le hw0 hb.size;replace hw1:=Nat.lt_of_lt_of_le hw1 hb.size
      replace HTOT:=Lib.hid (below_on HTOT.out hb)
      clear hb PG P0 P1 R0 R1 HS2 g2a g2b g2c h20 h21 h22 HX22 HX23
      have PG:=Lib.hid pG;have P0:=Lib.hid p0;have P1:=Lib.hid p1;have R0:=Lib.hid r0;have R1:=Lib.hid r1
      have g3a:x2.cell? ⟨G,26,none⟩=some (.bool g1):=by have h:=(boxC pG 26 _ rfl).1;rw [← n31];exact h
      have g3b:x2.cell? ⟨G,27,none⟩=some (.slice s3 (limbs N1).length s5):=by have h:=(boxC pG 27 _ rfl).1;rw [← n32];exact h
      have g3c:x2.cell? ⟨G,28,none⟩=some (.int .i64 E1):=by have h:=(boxC pG 28 _ rfl).1;rw [← n33];exact h
      have h30:x2.cell? ⟨wi.heap.size,0,none⟩=some (.bool g1):=(boxC p1 0 _ rfl).1
      have h31:x2.cell? ⟨wi.heap.size,1,none⟩=some (.slice mb (limbs N1).length md):=(boxC p1 1 _ rfl).1
      have h32:x2.cell? ⟨wi.heap.size,2,none⟩=some (.int .i64 E1):=(boxC p1 2 _ rfl).1
      have HS3:=Lib.hid (sameNum_any g1 s3 (limbs N1).length s5 (limbs N1) E1 mb md x2 rfl n34 HMC1.out (by have:=HL1.out;omega) n35 r1)
      have HX33:=Lib.hid n35
      clear pG p0 p1 r0 r1 n35
      go_wp2_with fail
      refine HS3.out.mono ?_
      rintro r x3 ⟨rfl,hb⟩
      have pG:=(hb.block G hG2).trans PG.out;have p0:=(hb.block _ hw0).trans P0.out;have p1:=(hb.block _ hw1).trans P1.out;have r0:=R0.out.below hb;have r1:=R1.out.below hb
      replace hG2:=Nat.lt_of_lt_of_le hG2 hb.size;replace hw0:=Nat.lt_of_lt_of_le hw0 hb.size;replace hw1:=Nat.lt_of_lt_of_le hw1 hb.size
      replace HTOT:=Lib.hid (below_on HTOT.out hb)
      clear hb PG P0 P1 R0 R1 HS3 g3a g3b g3c h30 h31 h32 HX33
      have KW:=Lib.hid (awake10_any x3 (HU.out.below HTOT.out) (HT.out.below HTOT.out))
      clear pG p0 p1 r0 r1
      go_wp2_with fail
      refine KW.out.mono ?_
      rintro r x4 ⟨rfl,hb⟩
      have HZ:=Lib.hid (below_on HTOT.out hb)
      clear hb KW
      go_wp2_with fail
      go_ret
      exact BoolBelow.mk rfl HZ.out
theorem cborNumbers_walk (v:Int) (neg:Bool) (t:Int) (w:World) (hv:-9223372036854775808≤v∧v≤9223372036854775807) (ht:-9223372036854775808≤t∧t≤9223372036854775807) (hU:UT w) (hT:DB w) :
    Calls Tryz.prog 4 #[.int .i64 v,.bool neg,.int .i64 t] w (BoolBelow true w):=by
  cases neg with
  | false=>exact cborNumbers_false v t w hv ht hU hT
  | true=>exact cborNumbers_true v t w hv ht hU hT
end Go.Proofs.YtbkfhdbocgjakaaGreatDoor
