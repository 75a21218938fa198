/- Texts of the claim. -/
import Derived.Test.YtnacbakcalcgaaaGreatDoorEN
import Derived.Test.YtnacbakcalcgaaaGreatDoorEM
import Derived.Test.YtnacbakcalcgaaaGreatDoorEO
import Derived.Test.YtnacbakcalcgaaaGreatDoorEq
import Derived.Test.YtnacbakcalcgaaaGreatDoorET
import Derived.Test.YtnacbakcalcgaaaGreatDoorEu
import Derived.Deep.CutBlock
import Derived.Deep.CutRange
set_option linter.unusedVariables false
set_option linter.unusedSimpArgs false
set_option maxHeartbeats 8000000
set_option maxRecDepth 100000
namespace Go.Proofs.YtnacbakcalcgaaaGreatDoor
open Go.RowKit Go.Lib Go.Sort

theorem sameStrings0 (w:World):Calls Tryz.prog 43 #[.slice none 0 0,.slice none 0 0] w (BoolBelow true w):=by
  have HB:=Lib.hid (Below.refl w.heap.size w)
  go_enter Tryz.func43,Tryz.ntmps43
  go_wp2_with fail
  go_loopg [5] 1 (fun g i wr=>i=.int .i64 0∧wr=w)
  case atStart=>exact ⟨rfl,rfl⟩
  case round =>
    obtain ⟨rfl,rfl⟩:=hrel
    go_wp2_with fail
    go_ret
    exact BoolBelow.mk rfl HB.out
theorem sameTree0 (w:World):Calls Tryz.prog 18 #[.agg #[.int .i64 0,.bool false,.bool false,.slice none 0 0,.int .i64 0,.string ⟨#[]⟩,.slice none 0 0,.slice none 0 0],.agg #[.int .i64 0,.bool false,.bool false,.slice none 0 0,.int .i64 0,.string ⟨#[]⟩,.slice none 0 0,.slice none 0 0]] w (BoolBelow true w):=by
  have KN:=Lib.hid (fun W=>sameNum_any false none 0 0 [] 0 none 0 W rfl (by omega) (by omega) (by omega) (Rd.nil _ _) (Rd.nil _ _))
  have KS:=Lib.hid sameStrings0
  have hb0:Below w.heap.size w ((w.alloc (.cells #[.int .i64 0,.bool false,.bool false,.slice none 0 0,.int .i64 0,.string ⟨#[]⟩,.slice none 0 0,.slice none 0 0] 29)).alloc (.cells #[.int .i64 0,.bool false,.bool false,.slice none 0 0,.int .i64 0,.string ⟨#[]⟩,.slice none 0 0,.slice none 0 0] 29)):=((Below.refl _ _).alloc (Nat.le_refl _) _).alloc (by simp) _
  have Q0:Hid (((w.alloc (.cells #[.int .i64 0,.bool false,.bool false,.slice none 0 0,.int .i64 0,.string ⟨#[]⟩,.slice none 0 0,.slice none 0 0] 29)).alloc (.cells #[.int .i64 0,.bool false,.bool false,.slice none 0 0,.int .i64 0,.string ⟨#[]⟩,.slice none 0 0,.slice none 0 0] 29)).heap[w.heap.size]? = some (.cells #[.int .i64 0,.bool false,.bool false,.slice none 0 0,.int .i64 0,.string ⟨#[]⟩,.slice none 0 0,.slice none 0 0] 29)):=Lib.hid ((Below.heap_alloc _ _ _ (by simp)).trans (heap_alloc_new w _))
  have Q1:Hid (((w.alloc (.cells #[.int .i64 0,.bool false,.bool false,.slice none 0 0,.int .i64 0,.string ⟨#[]⟩,.slice none 0 0,.slice none 0 0] 29)).alloc (.cells #[.int .i64 0,.bool false,.bool false,.slice none 0 0,.int .i64 0,.string ⟨#[]⟩,.slice none 0 0,.slice none 0 0] 29)).heap[w.heap.size+1]? = some (.cells #[.int .i64 0,.bool false,.bool false,.slice none 0 0,.int .i64 0,.string ⟨#[]⟩,.slice none 0 0,.slice none 0 0] 29)):=Lib.hid (by have:=heap_alloc_new (w.alloc (.cells #[.int .i64 0,.bool false,.bool false,.slice none 0 0,.int .i64 0,.string ⟨#[]⟩,.slice none 0 0,.slice none 0 0] 29)) (.cells #[.int .i64 0,.bool false,.bool false,.slice none 0 0,.int .i64 0,.string ⟨#[]⟩,.slice none 0 0,.slice none 0 0] 29);simpa using this)
  have HB0:=Lib.hid hb0
  clear hb0
  go_enter Tryz.func18,Tryz.ntmps18
  go_wp2_with fail
  refine (KN.out _).mono ?_
  rintro r w1 ⟨rfl,hb1⟩
  have p0:=(hb1.block w.heap.size (by simp;omega)).trans Q0.out
  have p1:=(hb1.block (w.heap.size+1) (by simp)).trans Q1.out
  have y0:=(boxC p0 0 _ rfl).1;have z0:=(boxC p1 0 _ rfl).1
  have y1:=(boxC p0 1 _ rfl).1;have z1:=(boxC p1 1 _ rfl).1
  have y2:=(boxC p0 2 _ rfl).1;have z2:=(boxC p1 2 _ rfl).1
  have y3:=(boxC p0 3 _ rfl).1;have z3:=(boxC p1 3 _ rfl).1
  have y4:=(boxC p0 4 _ rfl).1;have z4:=(boxC p1 4 _ rfl).1
  have y5:=(boxC p0 5 _ rfl).1;have z5:=(boxC p1 5 _ rfl).1
  have y6:=(boxC p0 6 _ rfl).1;have z6:=(boxC p1 6 _ rfl).1
  have y7:=(boxC p0 7 _ rfl).1;have z7:=(boxC p1 7 _ rfl).1
  have hs1:w.heap.size+1<w1.heap.size:=(Array.getElem?_eq_some_iff.1 p1).1
  have P0:=Lib.hid p0;have P1:=Lib.hid p1
  have HB1:=Lib.hid (HB0.out.trans (hb1.mono HB0.out.size))
  clear hb1 p0 p1
  go_wp2_with fail
  refine (KS.out _).mono ?_
  rintro r w2 ⟨rfl,hb2⟩
  clear y0 z0 y1 z1 y2 z2 y3 z3 y4 z4 y5 z5 y6 z6 y7 z7
  have p0:=(hb2.block w.heap.size (by omega)).trans P0.out
  have p1:=(hb2.block (w.heap.size+1) (by omega)).trans P1.out
  have y0:=(boxC p0 0 _ rfl).1;have z0:=(boxC p1 0 _ rfl).1
  have y1:=(boxC p0 1 _ rfl).1;have z1:=(boxC p1 1 _ rfl).1
  have y2:=(boxC p0 2 _ rfl).1;have z2:=(boxC p1 2 _ rfl).1
  have y3:=(boxC p0 3 _ rfl).1;have z3:=(boxC p1 3 _ rfl).1
  have y4:=(boxC p0 4 _ rfl).1;have z4:=(boxC p1 4 _ rfl).1
  have y5:=(boxC p0 5 _ rfl).1;have z5:=(boxC p1 5 _ rfl).1
  have y6:=(boxC p0 6 _ rfl).1;have z6:=(boxC p1 6 _ rfl).1
  have y7:=(boxC p0 7 _ rfl).1;have z7:=(boxC p1 7 _ rfl).1
  have HB2:=Lib.hid (below_on HB1.out hb2)
  clear hb2 p0 p1
  go_wp2_with fail
  go_loopg [5] 1 (fun g i wr=>i=.int .i64 0∧wr=w2)
  case atStart=>exact ⟨rfl,rfl⟩
  case round =>
    obtain ⟨rfl,hwr⟩:=hrel
    replace hwr:=hwr.symm
    subst hwr
    go_wp2_with fail
    go_ret
    exact BoolBelow.mk rfl HB2.out
theorem okb_append {a b:List Nat} (h:Okb a) (k:Okb b):Okb (a++b):=fun x hx=>by exact (List.mem_append.1 hx).elim (h x) (k x)
theorem okb_flatten {l:List (List Nat)} (h:∀ p∈l,Okb p):Okb l.flatten:=fun x hx=>by
  obtain ⟨p,hp,hx⟩:=List.mem_flatten.1 hx
  exact h p hp x hx
theorem hd_okb (m n:Nat) (hm:m<8) (hn:n<18446744073709551616):Okb (hd m n):=by
  intro x hx
  have hi:=infoN_le n
  unfold hd at hx
  rcases List.mem_cons.1 hx with rfl | hx
  · omega
  · unfold tailN at hx
    split at hx
    · cases hx
    · split at hx
      · simp only [List.mem_cons,List.not_mem_nil,or_false] at hx;omega
      · split at hx
        · simp only [List.mem_cons,List.not_mem_nil,or_false] at hx;omega
        · split at hx
          iterate 2
            · simp only [List.mem_cons,List.not_mem_nil,or_false] at hx;omega
theorem strC_okb (m:Nat) (s:ByteArray) (hm:m<8) (hz:s.size≤2000):Okb (strC m s):=okb_append (hd_okb m _ hm (by omega)) (strN_okb s)
theorem intB_okb (b:Bool) (T:Nat) (h:bitsN T≤100000):Okb (intB b T):=by
  unfold intB
  split
  next hs=>exact hd_okb _ _ (by split <;> decide) (short_lt hs)
  next=>exact okb_append (okb_append (hd_okb _ _ (by decide) (by split <;> decide)) (hd_okb _ _ (by decide) (by have:=bytesN_len T;omega))) (bytesN_ok T)
theorem numB_okb {ng:Bool} {xs:List Nat} {e:Int} (ho:Okl xs) (h:chkB ng xs e=true):Okb (numB ng (val xs) e):=by
  have hb:=chkB_bounds h
  have h90:bitsN (val xs)≤2880:=Nat.le_trans (bits_words ho) (by omega)
  have hr:Okb (restB ng (val xs) e):=by
    unfold restB
    cases hf:fltOf ng (val xs) e with
    | some p =>
      obtain ⟨d,y⟩:=p
      have hd:=(shA_yes hf).2
      simp only
      intro x hx
      unfold fltB at hx
      rcases List.mem_cons.1 hx with rfl | hx
      · omega
      · exact bytesL_ok _ _ x hx
    | none =>
      simp only
      unfold decB
      refine okb_append (okb_append (okb_append (hd_okb _ _ (by decide) (by decide)) (hd_okb _ _ (by decide) (by decide))) (intB_okb _ _ ?_)) (intB_okb _ _ ?_)
      · exact Nat.le_trans (bits_mono (told_le _ _)) (Nat.le_trans (bits_small (by omega)) (by decide))
      · exact Nat.le_trans (bits_mono (told_le _ _)) (by omega)
  unfold numB intAt
  split
  next M hM =>
    split at hM
    next hc =>
      cases hM
      split
      · exact intB_okb _ _ (Nat.le_trans (bits_mono (told_le _ _)) (by have:=hc.2;omega))
      · exact hr
    next=>cases hM
  next=>exact hr
theorem encX_okb (t:MT):∀ d,SndC t d→CohC t→Okb (encX t):=by
  refine MT.ind (P:=fun t=>∀ d,SndC t d→CohC t→Okb (encX t)) ?_ t
  intro t ih d hs hc
  obtain ⟨_,hso⟩:=hs.own
  have hV:∀ p∈t.v.map encX,Okb p:=fun p hp=>by
    obtain ⟨u,hu,rfl⟩:=List.mem_map.1 hp
    exact ih u hu (d+1) (hs.part hu) (hc.part hu)
  rw [encX_eq]
  split
  · exact hd_okb _ _ (by decide) (by decide)
  split
  · unfold truthC;exact hd_okb _ _ (by decide) (by split <;> decide)
  split
  next c3=>exact numB_okb hc.own.2.1 (bare_numC hc c3 hso).1
  split
  next c4=>exact strC_okb _ _ (by decide) (bare_textC hc c4 hso).1.2
  split
  next c5=>exact strC_okb _ _ (by decide) (bare_bytesC hc c5 hso).1
  split
  next c6 =>
    have:=(bare_arrC hc c6 hso).1
    exact okb_append (hd_okb _ _ (by decide) (by omega)) (okb_flatten hV)
  split
  next c7 =>
    obtain ⟨h1,h3,h4,_⟩:=bare_objC hc c7 hso
    refine okb_append (hd_okb _ _ (by decide) (by omega)) (okb_flatten fun p hp=>?_)
    obtain ⟨i,hi,rfl⟩:=List.mem_map.1 hp
    have hlt:i<t.k.length:=by
      have:=List.mem_range'_1.1 ((ordC_perm t.k).mem_iff.1 hi)
      omega
    unfold mbrE
    refine okb_append (strC_okb _ _ (by decide) (okN_valid (riseC_ok h4 _ (by simp [List.getD,hlt]))).1) (hV _ (by simp [List.getD,show i<t.v.length by omega];exact ⟨_,List.getElem_mem _,rfl⟩))
  · intro x hx;cases hx

structure Byt (w:World) (v:Value) (l:List Nat):Prop where
  at_:∃ ad n cap,v=.slice ad n cap∧l.length=n∧n≤cap∧RdV w ad (bc l)∧Shp ad cap∧(ad=none→cap=0)
theorem Byt.on {w w':World} {v:Value} {l:List Nat} (h:Byt w v l) (hb:Below w.heap.size w w'):Byt w' v l:=by
  obtain ⟨ad,n,cap,h1,h2,h3,h4,h5,h6⟩:=h.at_
  exact ⟨⟨ad,n,cap,h1,h2,h3,h4.on hb,h5,h6⟩⟩
theorem Byt.own {w:World} {B:Nat} {v:Value} {n:Nat} {l:List Nat} (h:w.ownsRow B 5 1 v n (bc l)):Byt w v l:=by
  have hl:l.length=n:=by have:=h.1;rw [bc_len] at this;omega
  rcases h.2 with ⟨rfl,h0⟩ | ⟨g,cap,cur,rfl,_,_,hc,_⟩
  · subst h0
    have:l=[]:=List.eq_nil_of_length_eq_zero hl
    subst this
    exact ⟨none,0,0,rfl,rfl,Nat.le_refl _,RdV.nil _ _,.inl ⟨rfl,rfl⟩,fun _=>rfl⟩
  · obtain ⟨ad,cap',e,_,hr,_⟩:=own_viewN h
    simp only [Value.slice.injEq] at e
    obtain ⟨rfl,_,rfl⟩:=e
    exact ⟨_,n,cap,rfl,hl,hc,hr,.inr ⟨_,_,rfl⟩,fun h=>by cases h⟩
structure NumC (w:World) (c:Cel) (g:Bool) (N:Nat) (E:Int):Prop where
  neg:c.neg=g
  mn:c.mn=(limbs N).length
  e:c.e=E
  le:c.mn≤c.mc
  rd:Rd w c.ma (limbs N)
theorem NumC.on {w w':World} {c:Cel} {g:Bool} {N:Nat} {E:Int} (h:NumC w c g N E) (hb:Below w.heap.size w w'):NumC w' c g N E:=⟨h.neg,h.mn,h.e,h.le,h.rd.below hb⟩
theorem box8C {k:Int} {b neg:Bool} {ma:Option Addr} {mn mc:Nat} {e:Int} {s:ByteArray} {ka:Option Addr} {kn kc:Nat} {va:Option Addr} {vn vc:Nat} (w:World) {W:World}
    (h:Below (w.alloc (.cells #[.int .i64 k,.bool b,.bool neg,.slice ma mn mc,.int .i64 e,.string s,.slice ka kn kc,.slice va vn vc] 29)).heap.size (w.alloc (.cells #[.int .i64 k,.bool b,.bool neg,.slice ma mn mc,.int .i64 e,.string s,.slice ka kn kc,.slice va vn vc] 29)) W) :
    W.cell? ⟨w.heap.size,0,none⟩=some (.int .i64 k)∧W.cell? ⟨w.heap.size,1,none⟩=some (.bool b)∧W.cell? ⟨w.heap.size,2,none⟩=some (.bool neg)∧W.cell? ⟨w.heap.size,3,none⟩=some (.slice ma mn mc)∧W.cell? ⟨w.heap.size,4,none⟩=some (.int .i64 e)∧W.cell? ⟨w.heap.size,5,none⟩=some (.string s)∧W.cell? ⟨w.heap.size,6,none⟩=some (.slice ka kn kc)∧W.cell? ⟨w.heap.size,7,none⟩=some (.slice va vn vc):=by
  have q:=(h.block _ (by simp)).trans (heap_alloc_new w (.cells #[.int .i64 k,.bool b,.bool neg,.slice ma mn mc,.int .i64 e,.string s,.slice ka kn kc,.slice va vn vc] 29))
  exact ⟨(box_cellsJC q 0 _ rfl).1,(box_cellsJC q 1 _ rfl).1,(box_cellsJC q 2 _ rfl).1,(box_cellsJC q 3 _ rfl).1,(box_cellsJC q 4 _ rfl).1,(box_cellsJC q 5 _ rfl).1,(box_cellsJC q 6 _ rfl).1,(box_cellsJC q 7 _ rfl).1⟩
theorem below_newC (w:World) (o:Obj):Below w.heap.size w (w.alloc o):=(Below.refl _ _).alloc (Nat.le_refl _) _
theorem encoX_err {t:MT} {x:Int} (h:encoX t=.inr x):x=1∨x=4:=by
  unfold encoX at h
  split at h
  · cases h;exact .inl rfl
  · split at h
    · cases h
    · cases h;exact .inr rfl
theorem encoX_ok {t:MT} {l:List Nat} (h:encoX t=.inl l):checkB t=true∧(encX t).length≤32768∧l=encX t:=by
  unfold encoX at h
  split at h
  · cases h
  · rename_i hc
    split at h
    · rename_i hl
      cases h
      exact ⟨by cases hq:checkB t <;> simp_all,hl,rfl⟩
    · cases h
theorem encoX_may {t:MT} (h:checkB t=true):encoX t=.inl (encX t)∧(encX t).length≤32768∨encoX t=.inr 4:=by
  unfold encoX
  rw [if_neg (by rw [h];decide)]
  by_cases hl:(encX t).length≤32768
  · rw [if_pos hl];exact .inl ⟨rfl,hl⟩
  · rw [if_neg hl];exact .inr rfl
theorem cbDecode_nil:cbDecode []=.inr 2:=by
  unfold cbDecode
  rw [if_neg (by decide),cbV_nil]
structure BytA (w:World) (ad:Option Addr) (n cap:Nat) (l:List Nat):Prop where
  ln:l.length=n
  cp:n≤cap
  ok:Okb l
  rd:RdV w ad (bc l)
  shp:Shp ad cap
theorem BytA.on {w w':World} {ad:Option Addr} {n cap:Nat} {l:List Nat} (h:BytA w ad n cap l) (hb:Below w.heap.size w w'):BytA w' ad n cap l:=⟨h.ln,h.cp,h.ok,h.rd.on hb,h.shp⟩
theorem BytA.own {w:World} {B:Nat} {v:Value} {n:Nat} {l:List Nat} (h:w.ownsRow B 5 1 v n (bc l)) (hk:Okb l):∃ ad k cap,v=.slice ad k cap∧BytA w ad k cap l:=by
  obtain ⟨ad,k,cap,e,h1,h2,h3,h4,_⟩:=(Byt.own h).at_
  exact ⟨ad,k,cap,e,h1,h2,hk,h3,h4⟩
def BkCutC (W1:World) (W:World):Prop:=Below W1.heap.size W1 W
theorem cborBack_walk (ad:Option Addr) (n cap:Nat) (l0:List Nat) (t:MT) (w:World) (hln:l0.length=n) (hcap:n≤cap) (hok:Okb l0) (hrd:RdV w ad (bc l0)) (hz:ad=none→cap=0) (hR:Rep w t) (hU:UT w) (hT:DB w) :
    Calls Tryz.prog 3 #[.slice ad n cap,t.c.val] w (BoolBelow true w):=by
  have AW:=Lib.hid (fun W (h:Below w.heap.size w W)=>show Calls Tryz.prog 14 #[] W (BoolBelow true w) from (awake10_any W (hU.below h) (hT.below h)).mono fun _ _ hp=>⟨hp.1,below_on h hp.2⟩)
  have KL:=Lib.hid (fun W (h:Below w.heap.size w W)=>lightB_any t 150 W (by decide) (by decide) (hR.on h))
  have KE:=Lib.hid (fun W (h:Below w.heap.size w W)=>encode_cb t W (hR.on h) (hU.below h) (hT.below h))
  have KEA:=Lib.hid (fun (t:MT) W (h:Below w.heap.size w W) (hR:Rep W t)=>encode_cb t W hR (hU.below h) (hT.below h))
  have KD:=Lib.hid (fun (l:List Nat) ad n cap W (h:Below w.heap.size w W) (hb:BytA W ad n cap l)=>decode_cb ad n cap l W (hU.below h) hb.ln hb.cp hb.ok hb.rd hb.shp)
  have KS:=Lib.hid (fun (u:MT) (hu:u.bare=t.bare) (hc:checkB t=true) W (h:Below w.heap.size w W) (hU:Rep W u)=>refSame_yesC (t:=u) (u:=t) (d:=1) (w:=W) hu (SndC.of (by rw [← checkB_bareC,hu,checkB_bareC];exact hc)).1 hU (hR.on h))
  have HCO:=Lib.hid (CohC.of hR)
  have HRD:=Lib.hid (fun W (h:Below w.heap.size w W)=>hrd.on h)
  have HOKB:=Lib.hid (fun (h:checkB t=true)=>encX_okb t 1 (SndC.of h).1 HCO.out)
  have HL0:=Lib.hid hok
  clear hR hU hT hrd hok
  have HE:=Lib.hid (fun x=>encoX_err (t:=t) (x:=x))
  have HK:=Lib.hid (fun l=>encoX_ok (t:=t) (l:=l))
  have HDE:=Lib.hid (fun (h:checkB t=true) (h3:(encX t).length≤32768)=>decode_encC h HCO.out h3)
  generalize hbt:t.bare=tb at *
  generalize hen:encoX t=en at *
  clear hen
  generalize t.c=c at *
  obtain ⟨qk,qb,qneg,qma,qmn,qmc,qe,qs,qka,qkn,qkc,qva,qvn,qvc⟩:=c
  unfold Cel.val at *
  obtain ⟨W1,hW1⟩:∃ x,w.alloc (.cells #[.int .i64 qk,.bool qb,.bool qneg,.slice qma qmn qmc,.int .i64 qe,.string qs,.slice qka qkn qkc,.slice qva qvn qvc] 29)=x:=⟨_,rfl⟩
  have hb1:Below w.heap.size w W1:=by rw [← hW1];exact below_newC _ _
  have HW1:=Lib.hid hW1;have HB1:=Lib.hid hb1
  have HY:=Lib.hid (fun W (h:Below W1.heap.size W1 W)=>(by rw [← hW1] at h;exact box8C w h:W.cell? ⟨w.heap.size,0,none⟩=some (.int .i64 qk)∧W.cell? ⟨w.heap.size,1,none⟩=some (.bool qb)∧W.cell? ⟨w.heap.size,2,none⟩=some (.bool qneg)∧W.cell? ⟨w.heap.size,3,none⟩=some (.slice qma qmn qmc)∧W.cell? ⟨w.heap.size,4,none⟩=some (.int .i64 qe)∧W.cell? ⟨w.heap.size,5,none⟩=some (.string qs)∧W.cell? ⟨w.heap.size,6,none⟩=some (.slice qka qkn qkc)∧W.cell? ⟨w.heap.size,7,none⟩=some (.slice qva qvn qvc)))
  clear hW1 hb1
  have HLN:=Lib.hid hln
  by_cases h5:n≤5000
  · have h5z:¬ (5000:Int)<(n:Int):=by omega
    clear hln
    go_enter Tryz.func3,Tryz.ntmps3
    go_wp2_with fail
    rw [HW1.out]
    refine (KL.out _ HB1.out).mono ?_
    rintro r w2 ⟨lb,rfl,hb2⟩
    have HB2:=Lib.hid (below_on HB1.out hb2)
    have H12:=Lib.hid (hb2.mono (Nat.le_refl _):Below W1.heap.size W1 w2)
    obtain ⟨c0,c1,c2,c3,c4,c5,c6,c7⟩:=HY.out _ H12.out
    clear hb2
    cases lb
    · go_wp2_with fail
      refine (AW.out _ HB2.out).mono ?_
      rintro r w9 ⟨rfl,hb9⟩
      have HB9:=Lib.hid hb9
      clear hb9
      go_wp2_with fail
      go_ret
      exact BoolBelow.mk rfl HB9.out
    · go_wp2_with fail
      refine (KE.out _ HB2.out).mono ?_
      intro r w3 hP
      obtain ⟨er,ex,hr,hb3,hok⟩:∃ (er:Value) (ex:Int),r=.returned (.tuple #[er,.int .i64 ex])∧Below w2.heap.size w2 w3∧(ex=0∧(∃ l ad n cap,en=.inl l∧er=.slice ad n cap∧(Okb l→BytA w3 ad n cap l))∨ex ≠ 0∧er=.slice none 0 0):=by
        unfold EnP at hP
        split at hP
        · rename_i l
          obtain ⟨v,hr,ho,hb⟩:=hP
          obtain ⟨a,k,cp,e,h1,h2,h3,h4,_⟩:=(Byt.own ho).at_
          exact ⟨_,_,hr,hb,.inl ⟨rfl,l,a,k,cp,rfl,e,fun hk=>⟨h1,h2,hk,h3,h4⟩⟩⟩
        · rename_i x;exact ⟨_,_,hP.1,hP.2,.inr ⟨by have:=HE.out x rfl;omega,rfl⟩⟩
      subst hr
      have HB3:=Lib.hid (below_on HB2.out hb3)
      have H13:=Lib.hid (below_on H12.out hb3)
      clear hP hb3 c0 c1 c2 c3 c4 c5 c6 c7
      obtain ⟨c0,c1,c2,c3,c4,c5,c6,c7⟩:=HY.out _ H13.out
      have HOK:=Lib.hid hok
      clear hok
      go_upto_if 30 with fail
      go_cut [] from 7 to 43 (fun W=>BkCutC W1 W)
      case first =>
        rcases HOK.out with ⟨rfl,l,a3,n3,cp3,rfl,rfl,hbl⟩ | ⟨hne,rfl⟩
        · obtain ⟨hck,hlen,rfl⟩:=HK.out _ rfl
          have KD1:=Lib.hid (KD.out _ a3 n3 cp3 w3 HB3.out (hbl (HOKB.out hck)))
          rw [HDE.out hck hlen] at KD1
          have HCK:=Lib.hid hck
          clear hck hlen hbl
          unfold DecC at KD1
          go_wp2_with fail
          refine KD1.out.mono ?_
          rintro r w4 ⟨u,rfl,hub,hRu,hb4⟩
          have KS1:=Lib.hid (fun W (h:Below w4.heap.size w4 W)=>KS.out u hub HCK.out W (below_on (below_on HB3.out hb4) h) (hRu.on h))
          have H14:=Lib.hid (below_on H13.out hb4)
          clear hub hRu hb4
          generalize u.c=uc at KS1 ⊢
          obtain ⟨uk,ub',uneg,uma,umn,umc,ue,us,uka,ukn,ukc,uva,uvn,uvc⟩:=uc
          dsimp only at KS1
          (try unfold Cel.val)
          obtain ⟨d0,d1,d2,d3,d4,d5,d6,d7⟩:=HY.out _ (below_on H14.out (below_newC w4 (.cells #[.int .i64 uk,.bool ub',.bool uneg,.slice uma umn umc,.int .i64 ue,.string us,.slice uka ukn ukc,.slice uva uvn uvc] 29)))
          go_wp2_with fail
          refine (KS1.out _ (below_newC w4 (.cells #[.int .i64 uk,.bool ub',.bool uneg,.slice uma umn umc,.int .i64 ue,.string us,.slice uka ukn ukc,.slice uva uvn uvc] 29))).mono ?_
          rintro r w5 ⟨rfl,hb5⟩
          have H15:=Lib.hid (below_on (below_on H14.out (below_newC w4 (.cells #[.int .i64 uk,.bool ub',.bool uneg,.slice uma umn umc,.int .i64 ue,.string us,.slice uka ukn ukc,.slice uva uvn uvc] 29))) hb5)
          clear hb5
          go_wp2_with fail
          go_meet
          exact H15.out
        · go_wp2_with fail
          go_meet
          exact H13.out
      case rest =>
        have H1C:=Lib.hid (show Below W1.heap.size W1 wc from hcut)
        have HBC:=Lib.hid (HB1.out.trans (H1C.out.mono HB1.out.size))
        clear hcut c0 c1 c2 c3 c4 c5 c6 c7 HOK HY KS KE HE HK HDE HOKB
        have HO0:=Lib.hid (World.ownsRow_nil wc wc.heap.size 5 1)
        have HRDC:=Lib.hid (HRD.out wc HBC.out)
        go_wp2_with (at_builtin;refine wpl_putR wc rfl _ _ rfl wc.heap.size (.slice none 0 0) 0 [] rfl HO0.out (Nat.le_refl _) ad n cap rfl l0 HLN.out HRDC.out hz (by omega) ?_)
        intro va wa hoa hga
        try rw [Nat.zero_add] at hoa
        try rw [List.nil_append] at hoa
        have hba:Below wc.heap.size wc wa:=(Below.refl _ _).grown hga (Nat.le_refl _) (fun g hg=>by cases hg)
        obtain ⟨ada,na,capa,rfl,hBA⟩:=BytA.own hoa HL0.out
        have HBAW:=Lib.hid (below_on HBC.out hba)
        have KD2:=Lib.hid (KD.out l0 ada na capa wa HBAW.out hBA)
        unfold DecC at KD2
        have hdo:=Lib.hid (fun u=>cbDecode_ok (l:=l0) (u:=u))
        have hde:=Lib.hid (fun x=>cbDecode_err (l:=l0) (x:=x))
        clear hoa hga hba hBA HL0 HRDC HO0 HRD
        generalize cbDecode l0=dr at *
        go_wp2_with fail
        refine KD2.out.mono ?_
        cases dr with
        | inr x =>
          rintro r w4 ⟨rfl,hb4⟩
          have HB4:=Lib.hid (below_on (below_on HBAW.out hb4) (below_newC w4 (.cells #[.int .i64 0,.bool false,.bool false,.slice none 0 0,.int .i64 0,.string ⟨#[]⟩,.slice none 0 0,.slice none 0 0] 29)))
          have hx:=hde.out x rfl
          have KZ:=Lib.hid (fun W=>sameTree0 W)
          clear hb4
          rcases hx with rfl | rfl | rfl
          all_goals
            go_wp2_with fail
            refine (KZ.out _).mono ?_
            rintro r w5 ⟨rfl,hb5⟩
            have HB5:=Lib.hid (below_on HB4.out hb5)
            clear hb5
            go_wp2_with fail
            refine (AW.out _ HB5.out).mono ?_
            rintro r w9 ⟨rfl,hb9⟩
            have HB9:=Lib.hid hb9
            clear hb9
            go_wp2_with fail
            go_ret
            exact BoolBelow.mk rfl HB9.out
        | inl ub =>
          rintro r w4 ⟨u,rfl,hub,hRu,hb4⟩
          obtain ⟨hck,_⟩:=hdo.out ub rfl
          rw [← hub,checkB_bareC] at hck
          have HB4:=Lib.hid (below_on HBAW.out hb4)
          have hco:=CohC.of hRu
          have KE2:=Lib.hid (fun W (h:Below w4.heap.size w4 W)=>KEA.out u W (below_on HB4.out h) (hRu.on h))
          have KC2:=Lib.hid (fun W (h:Below w4.heap.size w4 W)=>refCheckT_yesC u W (hRu.on h) hck)
          have KS2:=Lib.hid (fun (v:MT) (hv:v.bare=u.bare) W (h:Below w4.heap.size w4 W) (hV:Rep W v)=>refSame_yesC (t:=u) (u:=v) (d:=1) (w:=W) hv.symm (SndC.of hck).1 (hRu.on h) hV)
          have hmay:=encoX_may hck
          have HDN:=Lib.hid (fun h3=>decode_encC hck hco h3)
          have HOKU:=Lib.hid (encX_okb u 1 (SndC.of hck).1 hco)
          clear hub hRu hb4 hck hco
          unfold EnP at KE2
          generalize hbu:u.bare=bu at *
          clear hbu
          have hjl:=Lib.hid hmay
          clear hmay
          generalize encoX u=en2 at *
          generalize encX u=ej at *
          generalize u.c=uc at *
          obtain ⟨uk,ub',uneg,uma,umn,umc,ue,us,uka,ukn,ukc,uva,uvn,uvc⟩:=uc
          unfold Cel.val at *
          obtain ⟨W5,hW5⟩:∃ x,w4.alloc (.cells #[.int .i64 uk,.bool ub',.bool uneg,.slice uma umn umc,.int .i64 ue,.string us,.slice uka ukn ukc,.slice uva uvn uvc] 29)=x:=⟨_,rfl⟩
          have hb5:Below w4.heap.size w4 W5:=by rw [← hW5];exact below_newC _ _
          have HW5:=Lib.hid hW5;have H45:=Lib.hid hb5
          have HY:=Lib.hid (fun W (h:Below W5.heap.size W5 W)=>(by rw [← hW5] at h;exact box8C w4 h:W.cell? ⟨w4.heap.size,0,none⟩=some (.int .i64 uk)∧W.cell? ⟨w4.heap.size,1,none⟩=some (.bool ub')∧W.cell? ⟨w4.heap.size,2,none⟩=some (.bool uneg)∧W.cell? ⟨w4.heap.size,3,none⟩=some (.slice uma umn umc)∧W.cell? ⟨w4.heap.size,4,none⟩=some (.int .i64 ue)∧W.cell? ⟨w4.heap.size,5,none⟩=some (.string us)∧W.cell? ⟨w4.heap.size,6,none⟩=some (.slice uka ukn ukc)∧W.cell? ⟨w4.heap.size,7,none⟩=some (.slice uva uvn uvc)))
          clear hb5 hW5
          go_wp2_with fail
          rw [HW5.out]
          refine (KE2.out _ H45.out).mono ?_
          rcases hjl.out with ⟨hen,hln⟩ | hen
          · subst hen
            rintro r w6 ⟨v6,rfl,ho6,hb6⟩
            obtain ⟨a6,n6,cp6,rfl,hB6⟩:=BytA.own ho6 HOKU.out
            have H56:=Lib.hid hb6
            have HB6:=Lib.hid (below_on (below_on HB4.out H45.out) hb6)
            have KD3:=Lib.hid (KD.out ej a6 n6 cp6 w6 HB6.out hB6)
            rw [HDN.out hln] at KD3
            unfold DecC at KD3
            clear hb6 hln ho6 hB6
            go_wp2_with fail
            refine KD3.out.mono ?_
            rintro r w7 ⟨v,rfl,hvb,hRv,hb7⟩
            have H57:=Lib.hid (below_on H56.out hb7)
            have KS3:=Lib.hid (fun W (h:Below w7.heap.size w7 W)=>KS2.out v hvb W (H45.out.trans ((below_on H57.out h).mono H45.out.size)) (hRv.on h))
            have HB7:=Lib.hid (below_on HB6.out hb7)
            clear hvb hRv hb7
            generalize v.c=xc at KS3 ⊢
            obtain ⟨vk,vb,vneg,vma,vmn,vmc,ve,vs,vka,vkn,vkc,vva,vvn,vvc⟩:=xc
            dsimp only at KS3
            (try unfold Cel.val)
            obtain ⟨W8,hW8⟩:∃ x,w7.alloc (.cells #[.int .i64 vk,.bool vb,.bool vneg,.slice vma vmn vmc,.int .i64 ve,.string vs,.slice vka vkn vkc,.slice vva vvn vvc] 29)=x:=⟨_,rfl⟩
            have hb8:Below w7.heap.size w7 W8:=by rw [← hW8];exact below_newC _ _
            have H58:=Lib.hid (below_on H57.out hb8)
            obtain ⟨d0,d1,d2,d3,d4,d5,d6,d7⟩:=HY.out _ H58.out
            rw [← hW8] at d0 d1 d2 d3 d4 d5 d6 d7
            have HYV:=Lib.hid (fun W (h:Below W8.heap.size W8 W)=>(by rw [← hW8] at h;exact box8C w7 h:W.cell? ⟨w7.heap.size,0,none⟩=some (.int .i64 vk)∧W.cell? ⟨w7.heap.size,1,none⟩=some (.bool vb)∧W.cell? ⟨w7.heap.size,2,none⟩=some (.bool vneg)∧W.cell? ⟨w7.heap.size,3,none⟩=some (.slice vma vmn vmc)∧W.cell? ⟨w7.heap.size,4,none⟩=some (.int .i64 ve)∧W.cell? ⟨w7.heap.size,5,none⟩=some (.string vs)∧W.cell? ⟨w7.heap.size,6,none⟩=some (.slice vka vkn vkc)∧W.cell? ⟨w7.heap.size,7,none⟩=some (.slice vva vvn vvc)))
            have HW8:=Lib.hid hW8;have H78:=Lib.hid hb8
            clear hW8 hb8
            go_wp2_with fail
            rw [HW8.out]
            refine (KC2.out _ (H45.out.trans (H58.out.mono H45.out.size))).mono ?_
            rintro r w9 ⟨rfl,hb9⟩
            have H89:=Lib.hid hb9
            have H59:=Lib.hid (below_on H58.out hb9)
            have H79:=Lib.hid (below_on H78.out hb9)
            clear hb9 d0 d1 d2 d3 d4 d5 d6 d7
            obtain ⟨d0,d1,d2,d3,d4,d5,d6,d7⟩:=HY.out _ H59.out
            obtain ⟨e0,e1,e2,e3,e4,e5,e6,e7⟩:=HYV.out _ H89.out
            go_wp2_with fail
            refine (KS3.out _ H79.out).mono ?_
            rintro r wa ⟨rfl,hba⟩
            have HBA:=Lib.hid (below_on (below_on HB7.out H79.out) hba)
            clear hba
            go_wp2_with fail
            refine (AW.out _ HBA.out).mono ?_
            rintro r w9 ⟨rfl,hb9⟩
            have HB9:=Lib.hid hb9
            clear hb9
            go_wp2_with fail
            go_ret
            exact BoolBelow.mk rfl HB9.out
          · subst hen
            rintro r w6 ⟨rfl,hb6⟩
            have H56:=Lib.hid hb6
            have HB6:=Lib.hid (below_on (below_on HB4.out H45.out) hb6)
            have KD3:=Lib.hid (KD.out [] none 0 0 w6 HB6.out ⟨rfl,Nat.le_refl _,fun _ h=>(by cases h),RdV.nil _ _,.inl ⟨rfl,rfl⟩⟩)
            rw [cbDecode_nil] at KD3
            unfold DecC at KD3
            clear hb6
            go_wp2_with fail
            refine KD3.out.mono ?_
            rintro r w7 ⟨rfl,hb7⟩
            have H57:=Lib.hid (below_on H56.out hb7)
            have H58:=Lib.hid (below_on H57.out (below_newC w7 (.cells #[.int .i64 0,.bool false,.bool false,.slice none 0 0,.int .i64 0,.string ⟨#[]⟩,.slice none 0 0,.slice none 0 0] 29)))
            obtain ⟨d0,d1,d2,d3,d4,d5,d6,d7⟩:=HY.out _ H58.out
            have HB8:=Lib.hid (below_on (below_on HB6.out hb7) (below_newC w7 (.cells #[.int .i64 0,.bool false,.bool false,.slice none 0 0,.int .i64 0,.string ⟨#[]⟩,.slice none 0 0,.slice none 0 0] 29)))
            clear hb7
            go_wp2_with fail
            refine (KC2.out _ (H45.out.trans (H58.out.mono H45.out.size))).mono ?_
            rintro r w9 ⟨rfl,hb9⟩
            have HBA:=Lib.hid (below_on HB8.out hb9)
            clear hb9
            go_wp2_with fail
            refine (AW.out _ HBA.out).mono ?_
            rintro r wz ⟨rfl,hbz⟩
            have HBZ:=Lib.hid hbz
            clear hbz
            go_wp2_with fail
            go_ret
            exact BoolBelow.mk rfl HBZ.out
  · have h5z:(5000:Int)<(n:Int):=by omega
    go_enter Tryz.func3,Tryz.ntmps3
    go_wp2_with fail
    rw [HW1.out]
    refine (AW.out _ HB1.out).mono ?_
    rintro r w9 ⟨rfl,hb9⟩
    have HB9:=Lib.hid hb9
    clear hb9
    go_wp2_with fail
    go_ret
    exact BoolBelow.mk rfl HB9.out
end Go.Proofs.YtnacbakcalcgaaaGreatDoor
