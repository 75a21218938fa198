/- Texts of the claim. -/
import Derived.Test.YtnacbakcalcgaaaGreatDoorId
import Derived.Deep.DrawnRows
import Derived.Deep.RegionHeldLaw
import Derived.Lib.RuneBytes
import Derived.Lib.RuneCount
import Derived.Deep.OwnRows
import Derived.Laws.AppendOwnNone
set_option linter.unusedVariables false
set_option linter.unusedSimpArgs false
set_option maxHeartbeats 8000000
set_option maxRecDepth 100000
namespace Go.Proofs.YtnacbakcalcgaaaGreatDoor
open Go.RowKit Go.Sort

end Go.Proofs.YtnacbakcalcgaaaGreatDoor
namespace Go.Proofs.YtnacbakcalcgaaaGreatDoor
open Go.RowKit Go.Sort
open Go.RowKit Go.Sort
structure Bx (w:World) (g:Nat) (neg:Bool) (v:Value) (e:Int):Prop where
  lt:g<w.heap.size
  c0:w.cell? ⟨g,0,none⟩=some (.bool neg)
  c1:w.cell? ⟨g,1,none⟩=some v
  c2:w.cell? ⟨g,2,none⟩=some (.int .i64 e)
theorem Bx.step {w w':World} {g:Nat} {neg:Bool} {v:Value} {e:Int} (h:Bx w g neg v e) (hb:Below w.heap.size w w'):Bx w' g neg v e :=
  ⟨Nat.lt_of_lt_of_le h.lt hb.size,(hb.cell (p:=⟨g,0,none⟩) h.lt).trans h.c0,(hb.cell (p:=⟨g,1,none⟩) h.lt).trans h.c1,(hb.cell (p:=⟨g,2,none⟩) h.lt).trans h.c2⟩
theorem Ctx.on {w0 w w':World} {l l':List Ent} (hc:Ctx w w' l') (h:Ctx w0 w l):Ctx w0 w' l':=⟨below_on h.below hc.below,hc.all⟩
theorem below_box (w:World) (a:Array Value) (t:TypeId):Below w.heap.size w (w.alloc (.cells a t)):=(Below.refl _ _).alloc (Nat.le_refl _) _
theorem Ctx.lits {w0 w:World} {l:List Ent} (h:Ctx w0 w l) {xs:List Nat} (hx:Okl xs) {N:Nat} (hN:val xs=N) :
    Ctx w0 (w.alloc (.cells (xs.map lv).toArray 51)) (⟨.slice (some ⟨w.heap.size,0,none⟩) xs.length xs.length,xs.length,N,xs⟩::l) :=
  (h.step ((Below.refl _ _).alloc (Nat.le_refl _) _)).push ⟨_,_,rfl,Nat.le_refl _,Nat.le_refl _,hx,(alloc_blk w xs).rd_all,hN⟩
theorem sameNum_any (neg:Bool) (ad:Option Addr) (n cap:Nat) (xs:List Nat) (e:Int) (ad':Option Addr) (cap':Nat) (w:World) (hn:xs.length=n) (hcap:n≤cap) (hcap':n≤cap') (hm:n≤1000000000) (hr:Rd w ad xs) (hr':Rd w ad' xs) :
    Calls Tryz.prog 33 #[.agg #[.bool neg,.slice ad n cap,.int .i64 e],.agg #[.bool neg,.slice ad' n cap',.int .i64 e]] w (BoolBelow true w):=by
  have hbl:Below w.heap.size w ((w.alloc (.cells #[.bool neg,.slice ad n cap,.int .i64 e] 25)).alloc (.cells #[.bool neg,.slice ad' n cap',.int .i64 e] 25)):=((Below.refl _ _).alloc (Nat.le_refl _) _).alloc (by simp) _
  have HB:=Lib.hid hbl
  have K:=Lib.hid (same_any ad n cap xs ad' cap' _ hn hcap hcap' hm (hr.below hbl) (hr'.below hbl))
  clear hbl hn
  have ht:(neg == neg)=true:=by simp
  have hte:(e == e)=true:=by simp
  go_enter Tryz.func33,Tryz.ntmps33
  go_wp2_with fail
  refine K.out.mono ?_
  rintro r w' ⟨rfl,q,rfl⟩
  go_wp2
  go_ret
  exact BoolBelow.mk rfl (below_drewN' HB.out q)
end Go.Proofs.YtnacbakcalcgaaaGreatDoor
namespace Go.Proofs.YtnacbakcalcgaaaGreatDoor
open Go.RowKit Go.Sort
theorem step_callX {w:World} {ops:Array Oper} {o:Oper} {a:Act} {K:Act→World→Prop} {Q:Exit→Act→World→Prop} {E:Prop} (hgd:o.guard=none) (n:Nat) (fn:Func) (hf:Tryz.prog.funcs[n]? = some fn) (hn:(fn.name == "runtime.NumGoroutine")=false) (hb:fn.body.isNone=false)
    (args:Array Operand) (ts:Array TypeId) (ho:o.op=.call { callee:=.value (.func n),args:=args,argTypes:=ts }) (vs:Array Value) (hv:args.map a.eval=vs) {Post:Ending→World→Prop} (C:Calls Tryz.prog n vs w Post)
    (h:∀ r w',Post r w'→∃ v,r=.returned v∧K (a.put o.dst v) w') :
    if Region.wanted o (yielded ops a.tmps)=true then Oper.wp Tryz.prog o a w K Q else E:=by
  have hw:Region.wanted o (yielded ops a.tmps)=true:=by simp [Region.wanted,hgd]
  rw [if_pos hw]
  have hx:(execOp a.eval o).run Tryz.prog w=.ok (.enter n vs) w:=by
    have e0:a.eval (.func n)=.func (.func n) #[] #[]:=rfl
    simp [execOp,ho,resolve,Deferred.ofValue,invoke,callFunc,hf,hv,e0,go_sem]
    rw [if_neg (by simpa using hn),if_neg (by intro h0;rw [h0] at hb;cases hb)]
  unfold Oper.wp
  rw [hx,Oper.upon_enter]
  exact C.mono (fun r w' hp=>by obtain ⟨v,rfl,hk⟩:=h r w' hp;exact hk)
def IntNP (ng:Bool) (N:Nat) (e:Int) (w:World) (r:Ending) (w':World):Prop :=
  Below w.heap.size w w'∧if 0≤e∧bitsN (N*tenN e.toNat)≤400 then ∃ v,r=.returned (.tuple #[.bool ng,v,.bool true])∧Own w.heap.size w' v (limbs (N*tenN e.toNat)) else r=.returned (.tuple #[.bool false,.slice none 0 0,.bool false])
theorem ten_len (t:Nat) (ht:t≤1200):(limbs (tenN t)).length≤1201:=by
  have:=limbs_length_le (pow_bound (show (10:Nat)<B32 by rw [B32_eq];decide) t)
  have e:tenN t=10 ^ t:=rfl
  rw [e];omega
theorem prod_len {N t:Nat} (hN:(limbs N).length≤90) (ht:t≤1200):(limbs (N*tenN t)).length≤1291:=by
  have h1:=val_lt (limbs_ok N)
  have h2:=val_lt (limbs_ok (tenN t))
  rw [val_limbs] at h1 h2
  have h3:=ten_len t ht
  have h4:N*tenN t<B32 ^ ((limbs N).length+(limbs (tenN t)).length):=by
    rw [Nat.pow_add]
    exact Nat.mul_lt_mul_of_lt_of_le h1 (Nat.le_of_lt h2) (Nat.pow_pos (by rw [B32_eq];decide))
  have:=limbs_length_le h4
  omega
theorem int_core (pa:Bool) (ta:Value) (xa:Int) (ng:Bool) (ad:Option Addr) (n cap:Nat) (xs:List Nat) (e:Int) (w:World) (ha:NumOk w ng ad n cap xs e)
    (KA:∀ W,Below w.heap.size w W→Calls Tryz.prog 80 #[.agg #[.bool pa,ta,.int .i64 xa]] W (NumBelow ng (.slice ad n cap) e W)) (hta:∃ a b c,ta=.slice a b c) :
    Calls Tryz.prog 46 #[.agg #[.bool pa,ta,.int .i64 xa]] w (IntNP ng (val xs) e w):=by
  obtain ⟨a0,b0,c0,rfl⟩:=hta
  have hbl:=below_box w #[.bool pa,.slice a0 b0 c0,.int .i64 xa] 25
  have HB:=Lib.hid hbl
  have KAH:=Lib.hid (KA _ hbl)
  have hlo:=ha.lo
  have h90:=ha.n90
  have hxs:limbs (val xs)=xs:=chkB_limbs ha.ok ha.chk
  have hxl:(limbs (val xs)).length≤90:=by rw [hxs,ha.len];exact h90
  have HA:=Lib.hid ha
  clear hbl KA ha
  go_enter Tryz.func46,Tryz.ntmps46
  go_wp2_with fail
  refine KAH.out.mono ?_
  rintro r w1 ⟨rfl,hb1⟩
  obtain ⟨hc1,hf1⟩:=bcell hb1
  have hz1:w.heap.size<w1.heap.size:=by have h:=hb1.size;simp at h;omega
  have HB1:=Lib.hid (below_on HB.out hb1);clear hb1
  have e0:w1.cell? ⟨w.heap.size,0,none⟩=some (.bool pa):=by rw [hc1 _ _ (by simp)];simp
  have e1:w1.cell? ⟨w.heap.size,1,none⟩=some (.slice a0 b0 c0):=by rw [hc1 _ _ (by simp)];simp
  have e2:w1.cell? ⟨w.heap.size,2,none⟩=some (.int .i64 xa):=by rw [hc1 _ _ (by simp)];simp
  have g0:w1.frozen? ⟨w.heap.size,0,none⟩=false:=by rw [hf1 _ _ (by simp)];simp
  have g1:w1.frozen? ⟨w.heap.size,1,none⟩=false:=by rw [hf1 _ _ (by simp)];simp
  have g2:w1.frozen? ⟨w.heap.size,2,none⟩=false:=by rw [hf1 _ _ (by simp)];simp
  clear hc1 hf1
  go_upto_region 2 with fail
  have hbz:Below w.heap.size w (((w1.setCell ⟨w.heap.size,0,none⟩ (.bool ng)).setCell ⟨w.heap.size,1,none⟩ (.slice ad n cap)).setCell ⟨w.heap.size,2,none⟩ (.int .i64 e)):=((HB1.out.setCell (by simp) _).setCell (by simp) _).setCell (by simp) _
  have z0:(((w1.setCell ⟨w.heap.size,0,none⟩ (.bool ng)).setCell ⟨w.heap.size,1,none⟩ (.slice ad n cap)).setCell ⟨w.heap.size,2,none⟩ (.int .i64 e)).cell? ⟨w.heap.size,0,none⟩=some (.bool ng):=by simp [go_sem,e0,e1,e2]
  have z1:(((w1.setCell ⟨w.heap.size,0,none⟩ (.bool ng)).setCell ⟨w.heap.size,1,none⟩ (.slice ad n cap)).setCell ⟨w.heap.size,2,none⟩ (.int .i64 e)).cell? ⟨w.heap.size,1,none⟩=some (.slice ad n cap):=by simp [go_sem,e0,e1,e2]
  have z2:(((w1.setCell ⟨w.heap.size,0,none⟩ (.bool ng)).setCell ⟨w.heap.size,1,none⟩ (.slice ad n cap)).setCell ⟨w.heap.size,2,none⟩ (.int .i64 e)).cell? ⟨w.heap.size,2,none⟩=some (.int .i64 e):=by simp [go_sem,e0,e1,e2]
  have zs:w.heap.size<(((w1.setCell ⟨w.heap.size,0,none⟩ (.bool ng)).setCell ⟨w.heap.size,1,none⟩ (.slice ad n cap)).setCell ⟨w.heap.size,2,none⟩ (.int .i64 e)).heap.size:=by simpa [World.setCell] using hz1
  have HBZ:=Lib.hid hbz
  clear hbz e0 e1 e2 g0 g1 g2 HB1 hz1
  generalize ((w1.setCell ⟨w.heap.size,0,none⟩ (.bool ng)).setCell ⟨w.heap.size,1,none⟩ (.slice ad n cap)).setCell ⟨w.heap.size,2,none⟩ (.int .i64 e)=W0 at *
  by_cases he:e<0
  · have HE:=Lib.hid (show ¬ (0≤e∧bitsN (val xs*tenN e.toNat)≤400) from fun h=>by omega)
    go_wp2_with fail
    go_ret3
    exact ⟨HBZ.out,by rw [if_neg HE.out];rfl⟩
  · obtain ⟨t,rfl⟩:∃ t:Nat,e=(t:Int):=⟨e.toNat,by omega⟩
    have ht:t≤1200:=by omega
    have KP:=Lib.hid (fun (W:World)=>(show Calls Tryz.prog 82 #[.int .u32 10,.int .i64 (t:Int)] W (Gives (tenN t) W) from by
      have K:=pow_any 10 (t:Int) W (by decide)
      rw [cutP_nat (n:=t) (by omega)] at K;exact K))
    have KM:=Lib.hid (fun (W:World) (v2:Value) (B:Nat) (hB:Below w.heap.size w W) (h:Own B W v2 (limbs (tenN t)))=>(show Calls Tryz.prog 81 #[.slice ad n cap,v2] W (Gives (val xs*tenN t) W) from by
      obtain ⟨ad3,cap3,rfl,q1,q2,_⟩:=h.view
      have hl:=ten_len t ht
      have K:=mul_any ad n cap xs ad3 (limbs (tenN t)).length cap3 (limbs (tenN t)) W HA.out.len HA.out.cap (by omega) HA.out.ok (HA.out.rd.below hB) rfl q1 (by omega) (limbs_ok _) q2
      rw [val_limbs] at K
      exact K))
    have KB:=Lib.hid (fun (W:World) (v:Value) (B:Nat) (h:Own B W v (limbs (val xs*tenN t)))=>(show Calls Tryz.prog 83 #[v] W (fun r w'=>r=.returned (.int .i64 (bitsN (val xs*tenN t):Int))∧W=w') from by
      obtain ⟨ad3,cap3,rfl,q1,q2,_⟩:=h.view
      have hl:=prod_len hxl ht
      have K:=bits_any ad3 _ cap3 _ W rfl q1 (by omega) (limbs_ok _) q2
      rwa [val_limbs] at K))
    have HIF:Hid (IntNP ng (val xs) (t:Int) w=fun r w'=>Below w.heap.size w w'∧if (0:Int)≤(t:Int)∧bitsN (val xs*tenN t)≤400 then ∃ v,r=.returned (.tuple #[.bool ng,v,.bool true])∧Own w.heap.size w' v (limbs (val xs*tenN t)) else r=.returned (.tuple #[.bool false,.slice none 0 0,.bool false])):=rfl
    have het:¬ ((t:Int)<0):=he
    clear he hxl hxs
    generalize val xs*tenN t=PK at *
    go_upto_region 4 with fail
    go_region_held_law (fun w'=>w'.cell? ⟨w.heap.size,1,none⟩=some (.slice ad n cap)∧w'.cell? ⟨w.heap.size,2,none⟩=some (.int .i64 (t:Int))) (first | exact ⟨x1,x2⟩ | go_keep) (first | (refine step_callX rfl 82 _ Tryz.func82 (by kernel_rfl) (by kernel_rfl) _ _ rfl #[.int .u32 10,.int .i64 (t:Int)] (by simp [Act.eval,Act.put]) (KP.out _) ?_;rintro r w2 ⟨v2,rfl,ho2,hb2⟩;have hB2:=below_on (below_drew HBZ.out) hb2;have x0:=(hb2.cell (p:=⟨w.heap.size,0,none⟩) zs).trans z0;have x1:=(hb2.cell (p:=⟨w.heap.size,1,none⟩) zs).trans z1;have x2:=(hb2.cell (p:=⟨w.heap.size,2,none⟩) zs).trans z2;have xs2:=Nat.lt_of_lt_of_le zs hb2.size;refine ⟨_,rfl,?_⟩) | (refine step_callX rfl 81 _ Tryz.func81 (by kernel_rfl) (by kernel_rfl) _ _ rfl #[.slice ad n cap,v2] (by simp [Act.eval,Act.put]) (KM.out _ v2 _ hB2 ho2) ?_;rintro r w3 ⟨v3,rfl,ho3,hb3⟩;have hB3:=below_on hB2 hb3;have y0:=(hb3.cell (p:=⟨w.heap.size,0,none⟩) xs2).trans x0;have x1:=(hb3.cell (p:=⟨w.heap.size,1,none⟩) xs2).trans x1;have x2:=(hb3.cell (p:=⟨w.heap.size,2,none⟩) xs2).trans x2;refine ⟨_,rfl,?_⟩))
    all_goals
      have HO3:=Lib.hid (ho3.mono (Nat.le_of_lt xs2))
      have HB3:=Lib.hid hB3
      have KB2:=Lib.hid (KB.out _ _ _ ho3)
      clear ho3 hB3 hb3 hB2 hb2 ho2
      go_wp2_with fail
      refine KB2.out.mono ?_
      rintro r w4 ⟨rfl,rfl⟩
      by_cases hbt:bitsN PK≤400
      · have hbz:¬ (400:Int)<(bitsN PK:Int):=by omega
        have HIF2:=Lib.hid (show (0:Int)≤(t:Int)∧bitsN PK≤400 from ⟨by omega,hbt⟩)
        clear hbt
        generalize bitsN PK=bk at *
        go_wp2_with fail
        go_ret3
        rw [HIF.out]
        exact ⟨HB3.out,by rw [if_pos HIF2.out];exact ⟨_,rfl,HO3.out⟩⟩
      · have hbz:(400:Int)<(bitsN PK:Int):=by omega
        have HIF2:=Lib.hid (show ¬ ((0:Int)≤(t:Int)∧bitsN PK≤400) from fun h=>hbt h.2)
        clear hbt
        generalize bitsN PK=bk at *
        go_wp2_with fail
        go_ret3
        rw [HIF.out]
        exact ⟨HB3.out,by rw [if_neg HIF2.out];rfl⟩
end Go.Proofs.YtnacbakcalcgaaaGreatDoor
namespace Go.Proofs.YtnacbakcalcgaaaGreatDoor
def bt (l:List UInt8) (k:Nat):Nat:=(l.getD k 0).toNat
theorem bt_lt (l:List UInt8) (k:Nat):bt l k<256:=(l.getD k 0).toNat_lt
theorem bt_drop (l:List UInt8) (i k:Nat):bt (l.drop i) k=bt l (i+k):=by
  simp [bt,List.getD,List.getElem?_drop]
def decL (l:List UInt8):Nat × Nat:=Lib.decodeN l.length (bt l 0) (bt l 1) (bt l 2) (bt l 3)
def runeL (l:List UInt8):Int × Nat:=if decL l=(65533,1) then (-1,1) else (((decL l).1:Int),(decL l).2)
theorem get!_list (s:ByteArray) (k:Nat):s.get! k=s.data.toList.getD k 0:=by
  cases s with
  | mk d =>
    by_cases h:k<d.size
    · simp [ByteArray.get!,List.getD,h,getElem!_pos]
    · simp [ByteArray.get!,List.getD,h,getElem!_neg];rfl
theorem decode_list (s:ByteArray) (i:Nat):Utf8.decode s i=decL (s.data.toList.drop i):=by
  have e:∀ k,(s.get! (i+k)).toNat=bt (s.data.toList.drop i) k:=fun k=>by rw [bt_drop];simp [bt,get!_list]
  have e0:=e 0
  rw [Nat.add_zero] at e0
  rw [Lib.decode_at,decL,e0,e 1,e 2,e 3]
  congr 1
  simp
def encN (r:Nat):List Nat :=
  if r<128 then [r]
  else if r<2048 then [192+r / 64,128+r % 64]
  else if r<65536 then [224+r / 4096,128+r / 64 % 64,128+r % 64]
  else [240+r / 262144,128+r / 4096 % 64,128+r / 64 % 64,128+r % 64]
def enc (r:Int):List UInt8:=(encN r.toNat).map fun x=>UInt8.ofNat x
theorem decN_inv {m b0 b1 b2 b3 c k:Nat} (hm:1≤m) (l0:b0<256) (l1:b1<256) (l2:b2<256) (l3:b3<256) (h:Lib.decodeN m b0 b1 b2 b3=(c,k)) (hne:¬ ((c,k)=(65533,1))) :
    k≤m∧1≤k∧k≤4∧(c<55296∨(57344≤c∧c≤1114111))∧encN c=[b0,b1,b2,b3].take k:=by
  unfold Lib.decodeN at h
  by_cases c1:b0<128
  · rw [if_pos c1] at h
    obtain ⟨rfl,rfl⟩:=Prod.mk.injEq .. ▸ h
    refine ⟨hm,by omega,by omega,by omega,?_⟩
    unfold encN;rw [if_pos c1];rfl
  · rw [if_neg c1] at h
    by_cases c2:b0 / 32=6∧(1<m∧b1 / 64=2)
    · rw [if_pos c2] at h
      by_cases d2:b0 % 32*64+b1 % 64 ≥ 128
      · rw [if_pos d2] at h
        obtain ⟨rfl,rfl⟩:=Prod.mk.injEq .. ▸ h
        refine ⟨by omega,by omega,by omega,by omega,?_⟩
        unfold encN;rw [if_neg (by omega),if_pos (by omega)]
        simp;omega
      · rw [if_neg d2] at h;exact absurd h.symm hne
    · rw [if_neg c2] at h
      by_cases c3:b0 / 16=14∧(1<m∧b1 / 64=2)∧(2<m∧b2 / 64=2)
      · rw [if_pos c3] at h
        split at h
        · rename_i d3
          obtain ⟨rfl,rfl⟩:=Prod.mk.injEq .. ▸ h
          refine ⟨by omega,by omega,by omega,by omega,?_⟩
          unfold encN;rw [if_neg (by omega),if_neg (by omega),if_pos (by omega)]
          simp;omega
        · exact absurd h.symm hne
      · rw [if_neg c3] at h
        by_cases c4:b0 / 8=30∧(1<m∧b1 / 64=2)∧(2<m∧b2 / 64=2)∧(3<m∧b3 / 64=2)
        · rw [if_pos c4] at h
          split at h
          · rename_i d4
            obtain ⟨rfl,rfl⟩:=Prod.mk.injEq .. ▸ h
            refine ⟨by omega,by omega,by omega,by omega,?_⟩
            unfold encN;rw [if_neg (by omega),if_neg (by omega),if_neg (by omega)]
            simp;omega
          · exact absurd h.symm hne
        · rw [if_neg c4] at h;exact absurd h.symm hne
theorem decL_width (l:List UInt8) (h:l ≠ []):1≤(decL l).2∧(decL l).2≤l.length:=by
  have hm:1≤l.length:=by cases l;exact absurd rfl h;simp
  by_cases e:decL l=(65533,1)
  · rw [e];exact ⟨by simp,hm⟩
  · have:=decN_inv (c:=(decL l).1) (k:=(decL l).2) hm (bt_lt l 0) (bt_lt l 1) (bt_lt l 2) (bt_lt l 3) rfl e
    omega
theorem runeL_width (l:List UInt8) (h:l ≠ []):1≤(runeL l).2∧(runeL l).2≤l.length:=by
  have:=decL_width l h
  unfold runeL;split
  · exact ⟨by simp,by cases l;exact absurd rfl h;simp⟩
  · exact this
def runesF:Nat→List UInt8→List Int
  | 0,_=>[]
  | f+1,l=>if l=[] then [] else (runeL l).1::runesF f (l.drop (runeL l).2)
def runesL (l:List UInt8):List Int:=runesF l.length l
theorem runesF_nil (f:Nat):runesF f []=[]:=by cases f <;> simp [runesF]
theorem runesF_eq : ∀ (f g : Nat) (l : List UInt8), l.length ≤ f → l.length ≤ g → runesF f l = runesF g l := by
  intro f
  induction f with
  | zero => intro g l h _; have : l = [] := List.eq_nil_of_length_eq_zero (by omega)
            rw [this, runesF_nil, runesF_nil]
  | succ f ih =>
    intro g l h k
    cases g with
    | zero => have : l = [] := List.eq_nil_of_length_eq_zero (by omega)
              rw [this, runesF_nil, runesF_nil]
    | succ g =>
      by_cases hl : l = []
      · rw [hl, runesF_nil, runesF_nil]
      · have hw := runeL_width l hl
        simp only [runesF, if_neg hl]
        rw [ih g _ (by rw [List.length_drop]; omega) (by rw [List.length_drop]; omega)]
theorem runesL_cons {l:List UInt8} (h:l ≠ []):runesL l=(runeL l).1::runesL (l.drop (runeL l).2):=by
  have hw:=runeL_width l h
  unfold runesL
  have hm:l.length=(l.length - 1)+1:=by omega
  rw [hm,runesF,if_neg h,runesF_eq _ (l.drop (runeL l).2).length _ (by rw [List.length_drop];omega) (Nat.le_refl _)]
def validL (l:List UInt8):Bool:=(runesL l).all fun r=>decide (0≤r)
theorem valid_cons {l:List UInt8} (h:l ≠ []):validL l=(decide (0≤(runeL l).1) && validL (l.drop (runeL l).2)):=by
  unfold validL;rw [runesL_cons h];rfl
end Go.Proofs.YtnacbakcalcgaaaGreatDoor
namespace Go.Proofs.YtnacbakcalcgaaaGreatDoor
open Go.RowKit Go.Shelf
def UT (w:World):Prop:=Lib.Utf8Tabs 1 2 w
theorem UT.below {w w':World} (h:UT w) (hb:Below w.heap.size w w'):UT w':=by
  refine ⟨fun c hc=>?_,fun i hi=>⟨?_,?_⟩⟩
  · have h1:=h.1 c hc
    rw [hb.cell (World.block_lt_of_cell? w _ h1)];exact h1
  · have h1:=(h.2 i hi).1
    rw [hb.cell (World.block_lt_of_cell? w _ h1)];exact h1
  · have h1:=(h.2 i hi).2
    rw [hb.cell (World.block_lt_of_cell? w _ h1)];exact h1
def runeAt (s:ByteArray) (k:Int):Int × Int :=
  if k<0∨(s.size:Int)≤k then (-1,0) else ((runeL (s.data.toList.drop k.toNat)).1,((runeL (s.data.toList.drop k.toNat)).2:Int))
theorem extract_list (s:ByteArray) (k:Nat):(s.extract k s.size).data.toList=s.data.toList.drop k:=by
  rw [ByteArray.data_extract,Array.toList_extract]
  simp [List.extract_eq_take_drop]
  exact List.take_of_length_le (by simp)
theorem decodeGo_drop (s:ByteArray) (k:Nat) (h:k<s.size):Lib.decodeGo (s.extract k s.size)=decL (s.data.toList.drop k):=by
  have hz:(s.extract k s.size).size ≠ 0:=by rw [ByteArray.size_extract];omega
  unfold Lib.decodeGo
  rw [if_neg hz,decode_list]
  congr 1
  rw [List.drop_zero]
  exact extract_list s k
theorem uRune_any (s:ByteArray) (k:Int) (w:World) (hs:s.size≤maxLen) (hk:-9223372036854775808≤k∧k≤9223372036854775807) (hT:UT w) :
    Calls Tryz.prog 201 #[.string s,.int .i64 k] w fun e w'=>e=.returned (.tuple #[.int .i32 (runeAt s k).1,.int .i64 (runeAt s k).2])∧Below w.heap.size w w':=by
  unfold maxLen at hs
  by_cases h0:k<0
  · have e:runeAt s k=(-1,0):=by unfold runeAt;rw [if_pos (.inl h0)]
    rw [e];clear e hT
    go_enter Tryz.func201,Tryz.ntmps201
    go_wp2
    go_ret2
    exact ⟨rfl,Below.refl _ _⟩
  · by_cases h1:(s.size:Int)≤k
    · have e:runeAt s k=(-1,0):=by unfold runeAt;rw [if_pos (.inr h1)]
      rw [e];clear e hT
      go_enter Tryz.func201,Tryz.ntmps201
      go_wp2
      go_ret2
      exact ⟨rfl,Below.refl _ _⟩
    · obtain ⟨n,rfl⟩:∃ n:Nat,k=n:=⟨k.toNat,by omega⟩
      have hn:n<s.size:=by omega
      have e:runeAt s n=((runeL (s.data.toList.drop n)).1,((runeL (s.data.toList.drop n)).2:Int)):=by unfold runeAt;rw [if_neg (by omega)];rfl
      rw [e];clear e
      have hd:=decodeGo_drop s n hn
      have KD:=Lib.hid (Tryz.utf8_DecodeRuneInString (s.extract n s.size) w hT)
      rw [hd] at KD
      clear hT hd
      unfold runeL
      generalize hD:decL (s.data.toList.drop n)=D at *
      obtain ⟨c,m⟩:=D
      clear hD
      have h1':¬ (s.size:Int)≤(n:Int):=h1
      by_cases hc:c=65533
      · subst hc
        by_cases hm:m=1
        · subst hm
          rw [if_pos rfl]
          go_enter Tryz.func201,Tryz.ntmps201
          go_wp2_with fail
          refine KD.out.mono ?_
          rintro r w' ⟨rfl,hb⟩
          have HB:=Lib.hid hb;clear hb
          go_wp2
          go_ret2
          exact ⟨rfl,HB.out⟩
        · rw [if_neg (by intro e;exact hm (congrArg Prod.snd e))]
          have hm':¬ (m:Int)=1:=by omega
          go_enter Tryz.func201,Tryz.ntmps201
          go_wp2_with fail
          refine KD.out.mono ?_
          rintro r w' ⟨rfl,hb⟩
          have HB:=Lib.hid hb;clear hb
          go_wp2
          go_ret2
          exact ⟨rfl,HB.out⟩
      · rw [if_neg (by intro e;exact hc (congrArg Prod.fst e))]
        have hc':¬ (c:Int)=65533:=by omega
        go_enter Tryz.func201,Tryz.ntmps201
        go_wp2_with fail
        refine KD.out.mono ?_
        rintro r w' ⟨rfl,hb⟩
        have HB:=Lib.hid hb;clear hb
        go_wp2
        go_ret2
        exact ⟨rfl,HB.out⟩
def noneAt (s:ByteArray) (k:Int):Bool:=decide ((runeAt s k).1 = -1)
theorem wrong_any (s:ByteArray) (k:Int) (w:World) (hs:s.size≤maxLen) (hk:-9223372036854775808≤k∧k≤9223372036854775807) (hT:UT w) :
    Calls Tryz.prog 178 #[.string s,.int .i64 k] w fun e w'=>e=.returned (.bool (noneAt s k))∧Below w.heap.size w w':=by
  have K:=Lib.hid (uRune_any s k w hs hk hT)
  unfold noneAt
  generalize hR:runeAt s k=R at *
  obtain ⟨c,m⟩:=R
  clear hR hT
  by_cases hc:c = -1
  · subst hc
    go_enter Tryz.func178,Tryz.ntmps178
    go_wp2_with fail
    refine K.out.mono ?_
    rintro r w' ⟨rfl,hb⟩
    have HB:=Lib.hid hb;clear hb
    go_wp2
    go_ret
    exact ⟨rfl,HB.out⟩
  · go_enter Tryz.func178,Tryz.ntmps178
    go_wp2_with fail
    refine K.out.mono ?_
    rintro r w' ⟨rfl,hb⟩
    have HB:=Lib.hid hb;clear hb
    go_wp2
    go_ret
    simp [hc];exact HB.out
def VB (s:ByteArray) (B:Nat) (w:World) (e:Ending) (w':World):Prop :=
  ∃ n:Nat,e=.returned (.int .i64 n)∧n≤s.size∧(n=s.size ↔ validL s.data.toList=true)∧Below B w w'
def RI (s:ByteArray) (B:Nat) (w:World) (pos:Nat) (wr:World):Prop :=
  wr.heap[B]? = some (.stringIter s pos)∧Below B w wr
theorem RI.start (s:ByteArray) (w:World):RI s w.heap.size w 0 (w.iter s 0) :=
  ⟨World.iter_heap w s 0,(Below.refl _ w).alloc (Nat.le_refl _) _⟩
theorem RI.lt {s:ByteArray} {B:Nat} {w:World} {pos:Nat} {wr:World} (h:RI s B w pos wr):B<wr.heap.size:=(Array.getElem?_eq_some_iff.1 h.1).1
theorem RI.next {s:ByteArray} {B:Nat} {w:World} {pos:Nat} {wr:World} (h:RI s B w pos wr) (q:Nat):RI s B w q (wr.iterAt B s q) :=
  ⟨Lib.iterAt_heap wr B s pos q h.1,Lib.below_iterAt h.2 (Nat.le_refl _) s q⟩
theorem RI.below {s:ByteArray} {B:Nat} {w:World} {pos:Nat} {wr w':World} (h:RI s B w pos wr) (hb:Below wr.heap.size wr w'):RI s B w pos w' :=
  ⟨by rw [hb.block B h.lt];exact h.1,h.2.trans (hb.mono (Nat.le_of_lt h.lt))⟩
theorem RI.pos {s:ByteArray} {B:Nat} {w:World} {pos:Nat} {wr:World} (h:RI s B w pos wr):wr.iterPos B=pos:=by
  simp [World.iterPos,h.1]
def tailL (s:ByteArray) (k:Nat):List UInt8:=s.data.toList.drop k
theorem tailL_zero (s:ByteArray):tailL s 0=s.data.toList:=by simp [tailL]
theorem tailL_length (s:ByteArray) (k:Nat):(tailL s k).length=s.size - k:=by simp [tailL]
theorem tailL_ne {s:ByteArray} {k:Nat} (h:k<s.size):tailL s k ≠ []:=by
  intro e;have:=congrArg List.length e;rw [tailL_length] at this;simp only [List.length_nil] at this;omega
theorem tailL_end {s:ByteArray} {k:Nat} (h:s.size≤k):tailL s k=[]:=List.eq_nil_of_length_eq_zero (by rw [tailL_length];omega)
theorem tailL_drop (s:ByteArray) (k m:Nat):(tailL s k).drop m=tailL s (k+m):=by simp [tailL,List.drop_drop]
theorem decode_tail (s:ByteArray) (k:Nat):Utf8.decode s k=decL (tailL s k):=decode_list s k
theorem runeAt_tail {s:ByteArray} {k:Nat} (h:k<s.size):runeAt s k=((runeL (tailL s k)).1,((runeL (tailL s k)).2:Int)):=by
  unfold runeAt;rw [if_neg (by omega)];rfl
theorem noneAt_tail {s:ByteArray} {k:Nat} (h:k<s.size):noneAt s k=decide ((runeL (tailL s k)).1 = -1):=by
  unfold noneAt;rw [runeAt_tail h]
theorem valid_tail {s:ByteArray} {k:Nat} (h:k<s.size):validL (tailL s k)=(decide (0≤(runeL (tailL s k)).1) && validL (tailL s (k+(runeL (tailL s k)).2))):=by
  rw [valid_cons (tailL_ne h),tailL_drop]
theorem rune_not {l:List UInt8} (h:(decL l).1 ≠ 65533):runeL l=(((decL l).1:Int),(decL l).2):=by
  unfold runeL;rw [if_neg];intro e;exact h (congrArg Prod.fst e)
theorem runeL_lo (l:List UInt8):-1≤(runeL l).1:=by unfold runeL;split <;> simp <;> omega
theorem rune_width (l:List UInt8):(runeL l).2=(decL l).2:=by unfold runeL;split;rename_i e;rw [e];rfl
def VR (s:ByteArray) (B:Nat) (w:World) (k:Nat) (e:Value) (wr:World):Prop :=
  ∃ pos,s.size - pos≤k∧e=.int .i64 s.size∧validL s.data.toList=validL (tailL s pos)∧RI s B w pos wr
theorem validBytes_any (s:ByteArray) (w:World) (hs:s.size≤maxLen) (hT:UT w) :
    Calls Tryz.prog 143 #[.string s] w (VB s w.heap.size w):=by
  unfold maxLen at hs
  have HT:=Lib.hid hT;clear hT
  go_enter Tryz.func143,Tryz.ntmps143
  go_wp2
  go_step3
  go_wp2
  go_step3
  go_wp2
  have hst:=RI.start s w
  generalize hB:w.heap.size=B at *
  have HB0:=Lib.hid hB;clear hB
  go_loopg [3] s.size (fun k e wr=>VR s B w k e wr)
  case atStart=>exact ⟨0,by omega,rfl,by rw [tailL_zero],hst⟩
  case round =>
    obtain ⟨pos,hk,rfl,hv,hri⟩:=hrel
    have HV:=Lib.hid hv;clear hv
    by_cases hp:pos<s.size
    · obtain ⟨k,rfl⟩:∃ k,gk=k+1:=⟨gk - 1,by omega⟩
      have hnx:∀ ty,(Instr.next (.pointer (some ⟨B,0,none⟩)) true ty).run Tryz.prog wr=_:=fun ty=>Lib.run_next_any_at wr B s pos ty hri.1 hp
      rw [decode_tail] at hnx
      have hw:=decL_width (tailL s pos) (tailL_ne hp)
      have hvt:=valid_tail hp
      rw [tailL_length] at hw
      have HVT:=Lib.hid hvt;clear hvt
      by_cases hc:(decL (tailL s pos)).1=65533
      · have hri2:=Lib.hid (hri.next (pos+(decL (tailL s pos)).2))
        have hrw:=Lib.hid (rune_width (tailL s pos))
        have hlo:=Lib.hid (runeL_lo (tailL s pos))
        have KW:=Lib.hid (wrong_any s pos (wr.iterAt B s (pos+(decL (tailL s pos)).2)) (by unfold maxLen;omega) (by omega) (HT.out.below (by rw [HB0.out];exact hri2.out.2)))
        rw [noneAt_tail hp] at KW
        generalize hm:(decL (tailL s pos)).2=m at *
        have hnx2:∀ ty,(Instr.next (.pointer (some ⟨B,0,none⟩)) true ty).run Tryz.prog wr=Result.ok (Value.tuple #[Value.bool true,Value.int IntKind.i64 ↑pos,Value.int IntKind.i32 65533]) (wr.iterAt B s (pos+m)):=by
          intro ty;rw [hnx ty,hc];rfl
        clear hnx hc hm
        by_cases hn:(runeL (tailL s pos)).1 = -1
        · have hd:decide ((runeL (tailL s pos)).1 = -1)=true:=decide_eq_true hn
          rw [hd] at KW
          have hbad:=Lib.hid (show validL s.data.toList=false by rw [HV.out,HVT.out,hn];rfl)
          clear hn hd hri
          go_wp2_with fail
          refine KW.out.mono ?_
          rintro r w' ⟨rfl,hb⟩
          have hri3:=Lib.hid (hri2.out.below hb);clear hb
          go_wp2
          rw [Exit.noGoto_ret]
          go_ret
          exact ⟨pos,rfl,by omega,⟨fun h=>absurd h (by omega),fun h=>by rw [hbad.out] at h;cases h⟩,hri3.out.2⟩
        · have hd:decide ((runeL (tailL s pos)).1 = -1)=false:=decide_eq_false hn
          rw [hd] at KW
          have hgo:=Lib.hid (show validL s.data.toList=validL (tailL s (pos+m)) by
            rw [HV.out,HVT.out,hrw.out,decide_eq_true (by have:=hlo.out;omega),Bool.true_and])
          clear hn hd hri
          go_wp2_with fail
          refine KW.out.mono ?_
          rintro r w' ⟨rfl,hb⟩
          have hri3:=Lib.hid (hri2.out.below hb);clear hb
          go_wp2
          go_roundg k
          case rel=>exact ⟨pos+m,by omega,rfl,hgo.out,hri3.out⟩
          case measure=>omega
      · have hc':¬ ((decL (tailL s pos)).1:Int)=65533:=by omega
        have hr:=rune_not hc
        have hgo:=Lib.hid (show validL s.data.toList=validL (tailL s (pos+(decL (tailL s pos)).2)) by
          rw [HV.out,HVT.out,hr,decide_eq_true (by simp),Bool.true_and])
        clear hr
        generalize hD:decL (tailL s pos)=D at *
        obtain ⟨c,m⟩:=D
        simp only at hnx hc hc' hw
        have hri2:=Lib.hid (hri.next (pos+m))
        clear hD hri
        go_wp2
        go_roundg k
        case rel=>exact ⟨pos+m,by omega,rfl,hgo.out,hri2.out⟩
        case measure=>omega
    · have hnx:∀ ty,(Instr.next (.pointer (some ⟨B,0,none⟩)) true ty).run Tryz.prog wr=_:=fun ty=>Lib.run_next_end_at wr B s pos ty hri.1 hp
      have hok:=Lib.hid (show validL s.data.toList=true by rw [HV.out,tailL_end (by omega)];rfl)
      have hb:=Lib.hid hri.2
      clear hri
      go_wp2
      rw [Exit.noGoto_ret]
      go_ret
      exact ⟨s.size,rfl,Nat.le_refl _,⟨fun _=>hok.out,fun _=>rfl⟩,hb.out⟩
theorem valid_any (s:ByteArray) (w:World) (hs:s.size≤maxLen) (hT:UT w) :
    Calls Tryz.prog 103 #[.string s] w fun e w'=>e=.returned (.bool (validL s.data.toList))∧Below w.heap.size w w':=by
  have K:=Lib.hid (validBytes_any s w hs hT)
  unfold maxLen at hs
  clear hT
  cases hv:validL s.data.toList
  · have HV:=Lib.hid hv;clear hv
    go_enter Tryz.func103,Tryz.ntmps103
    go_wp2_with fail
    refine K.out.mono ?_
    rintro r w' ⟨n,rfl,h1,h2,hb⟩
    have hn:¬ (n:Int)=(s.size:Int):=by
      intro e
      have e':n=s.size:=by omega
      have:=h2.1 e'
      rw [HV.out] at this;cases this
    have HB:=Lib.hid hb
    clear h2 hb
    go_wp2
    go_ret
    exact ⟨by simp;omega,HB.out⟩
  · have HV:=Lib.hid hv;clear hv
    go_enter Tryz.func103,Tryz.ntmps103
    go_wp2_with fail
    refine K.out.mono ?_
    rintro r w' ⟨n,rfl,h1,h2,hb⟩
    have hn:=h2.2 HV.out
    have HB:=Lib.hid hb
    clear h2 hb h1
    subst hn
    go_wp2
    go_ret
    exact ⟨by simp,HB.out⟩
end Go.Proofs.YtnacbakcalcgaaaGreatDoor
namespace Go.Proofs.YtnacbakcalcgaaaGreatDoor
open Go.RowKit
theorem below_drewN {B:Nat} {a w:World} (h:Below B a w) (n:Nat):Below B a (w.drewN n):=h.trans ⟨rfl,rfl,rfl,Nat.le_refl _,fun _ _=>rfl⟩
def RdV (w:World) (ad:Option Addr) (vs:List Value):Prop :=
  ∀ i,i<vs.length→∃ b o,ad=some ⟨b,o,none⟩∧b<w.heap.size∧w.cell? ⟨b,o+i,none⟩=vs[i]?
theorem RdV.nil (w:World) (ad:Option Addr):RdV w ad []:=by intro i h;simp at h
theorem RdV.at {w:World} {b o:Nat} {vs:List Value} (h:RdV w (some ⟨b,o,none⟩) vs) (i:Nat) (hi:i<vs.length):w.cell? ⟨b,o+i,none⟩=vs[i]?:=by
  obtain ⟨b',o',e,_,hc⟩:=h i hi
  cases e;exact hc
theorem RdV.shape {w:World} {ad:Option Addr} {vs:List Value} (h:RdV w ad vs) (hp:0<vs.length):∃ b o,ad=some ⟨b,o,none⟩∧b<w.heap.size:=by
  obtain ⟨b,o,e,hb,_⟩:=h 0 hp
  exact ⟨b,o,e,hb⟩
theorem RdV.take {w:World} {ad:Option Addr} {vs:List Value} (h:RdV w ad vs) (n:Nat):RdV w ad (vs.take n):=by
  intro i hi
  rw [List.length_take] at hi
  obtain ⟨b,o,e,hb,hc⟩:=h i (by omega)
  exact ⟨b,o,e,hb,by rw [hc,List.getElem?_take];simp [show i<n by omega]⟩
theorem RdV.drop {w:World} {b o:Nat} {vs:List Value} (h:RdV w (some ⟨b,o,none⟩) vs) (k:Nat):RdV w (some ⟨b,o+k,none⟩) (vs.drop k):=by
  intro i hi
  rw [List.length_drop] at hi
  obtain ⟨b',o',e,hb,hc⟩:=h (k+i) (by omega)
  cases e
  exact ⟨b,o+k,rfl,hb,by rw [Nat.add_assoc,hc,List.getElem?_drop]⟩
theorem RdV.below {w w':World} {ad:Option Addr} {vs:List Value} (h:RdV w ad vs) {B:Nat} (hb:Below B w w') (hB:∀ a,ad=some a→0<vs.length→a.block<B):RdV w' ad vs:=by
  intro i hi
  obtain ⟨b,o,e,hlt,hc⟩:=h i hi
  have hbb:b<B:=hB _ e (by omega)
  exact ⟨b,o,e,Nat.lt_of_lt_of_le hlt hb.size,by rw [hb.cell (p:=⟨b,o+i,none⟩) hbb];exact hc⟩
theorem RdV.on {w w':World} {ad:Option Addr} {vs:List Value} (h:RdV w ad vs) (hb:Below w.heap.size w w'):RdV w' ad vs :=
  h.below hb fun a e hp=>by obtain ⟨b,o,e',hlt,_⟩:=h 0 hp;rw [e] at e';cases e';exact hlt
theorem RdV.lt {w:World} {ad:Option Addr} {vs:List Value} (h:RdV w ad vs) (a:Addr) (e:ad=some a) (hp:0<vs.length):a.block<w.heap.size:=by
  obtain ⟨b,o,e',hb⟩:=h.shape hp
  rw [e] at e';cases e';exact hb
def BlkV (w:World) (g:Nat) (e:TypeId) (vs:List Value):Prop:=w.heap[g]? = some (.cells vs.toArray e (0,0))
theorem BlkV.lt {w:World} {g:Nat} {e:TypeId} {vs:List Value} (h:BlkV w g e vs):g<w.heap.size:=by
  rcases Nat.lt_or_ge g w.heap.size with h1 | h1
  · exact h1
  · rw [BlkV,Array.getElem?_eq_none h1] at h;cases h
theorem BlkV.cell {w:World} {g:Nat} {e:TypeId} {vs:List Value} (h:BlkV w g e vs) (i:Nat):w.cell? ⟨g,i,none⟩=vs[i]?:=by
  unfold BlkV at h
  simp [World.cell?,h]
theorem BlkV.free {w:World} {g:Nat} {e:TypeId} {vs:List Value} (h:BlkV w g e vs) (i:Nat):w.frozen? ⟨g,i,none⟩=false:=by
  unfold BlkV at h
  simp [World.frozen?,h]
theorem BlkV.rd {w:World} {g:Nat} {e:TypeId} {vs:List Value} (h:BlkV w g e vs) (o n:Nat):RdV w (some ⟨g,o,none⟩) ((vs.drop o).take n):=by
  intro i hi
  rw [List.length_take,List.length_drop] at hi
  refine ⟨g,o,rfl,h.lt,?_⟩
  rw [h.cell (o+i),List.getElem?_take,List.getElem?_drop]
  simp [show i<n by omega]
theorem BlkV.all {w:World} {g:Nat} {e:TypeId} {vs:List Value} (h:BlkV w g e vs):RdV w (some ⟨g,0,none⟩) vs:=by
  have:=h.rd 0 vs.length
  simpa using this
theorem BlkV.set {w:World} {g:Nat} {e:TypeId} {vs:List Value} (h:BlkV w g e vs) (i:Nat) (v:Value):BlkV (w.setCell ⟨g,i,none⟩ v) g e (vs.set i v):=by
  have hlt:=h.lt
  unfold BlkV at h ⊢
  simp only [World.setCell,Array.getElem?_modify,h]
  simp
theorem BlkV.drewN {w:World} {g:Nat} {e:TypeId} {vs:List Value} (h:BlkV w g e vs) (q:Nat):BlkV (w.drewN q) g e vs:=h
theorem BlkV.below {w w':World} {g:Nat} {e:TypeId} {vs:List Value} (h:BlkV w g e vs) {B:Nat} (hb:Below B w w') (hg:g<B):BlkV w' g e vs:=by
  unfold BlkV;rw [hb.block g hg];exact h
structure But (g:Nat) (w w':World):Prop where
  os:w'.os=w.os
  tape:w'.tape=w.tape
  output:w'.output=w.output
  size:w.heap.size≤w'.heap.size
  block:∀ k,k<w.heap.size→k ≠ g→w'.heap[k]? = w.heap[k]?
theorem But.refl (g:Nat) (w:World):But g w w:=⟨rfl,rfl,rfl,Nat.le_refl _,fun _ _ _=>rfl⟩
theorem But.trans {g:Nat} {a b c:World} (h:But g a b) (k:But g b c):But g a c :=
  ⟨k.os.trans h.os,k.tape.trans h.tape,k.output.trans h.output,Nat.le_trans h.size k.size,fun i hi hn=>(k.block i (Nat.lt_of_lt_of_le hi h.size) hn).trans (h.block i hi hn)⟩
theorem But.of_below {g:Nat} {w w':World} (h:Below w.heap.size w w'):But g w w':=⟨h.os,h.tape,h.output,h.size,fun k hk _=>h.block k hk⟩
theorem But.drewN {g:Nat} {a w:World} (h:But g a w) (n:Nat):But g a (w.drewN n):=h.trans ⟨rfl,rfl,rfl,Nat.le_refl _,fun _ _ _=>rfl⟩
theorem But.setCell {g:Nat} {a w:World} (h:But g a w) (i:Nat) (v:Value):But g a (w.setCell ⟨g,i,none⟩ v) :=
  h.trans ⟨rfl,rfl,rfl,by simp [World.setCell],fun k _ hn=>Below.heap_setCell _ _ _ _ hn⟩
theorem But.below {g:Nat} {w w':World} (h:But g w w') {B:Nat} (hg:B≤g) (hB:B≤w.heap.size):Below B w w' :=
  ⟨h.os,h.tape,h.output,h.size,fun k hk=>h.block k (by omega) (by omega)⟩
theorem But.blk {g k:Nat} {w w':World} (h:But g w w') {e:TypeId} {vs:List Value} (hb:BlkV w k e vs) (hk:k ≠ g):BlkV w' k e vs:=by
  unfold BlkV;rw [h.block k hb.lt hk];exact hb
theorem But.rd {g:Nat} {w w':World} (h:But g w w') {ad:Option Addr} {vs:List Value} (hr:RdV w ad vs) (hn:∀ a,ad=some a→0<vs.length→a.block ≠ g):RdV w' ad vs:=by
  intro i hi
  obtain ⟨b,o,e,hlt,hc⟩:=hr i hi
  exact ⟨b,o,e,Nat.lt_of_lt_of_le hlt h.size,by rw [World.cell?_of_block (w:=w) (h.block b hlt (hn _ e (by omega)))];exact hc⟩
def iv (n:Nat):Value:=.int .i64 (n:Int)
theorem iv_get (l:List Nat) (i:Nat) (hi:i<l.length):(l.map iv)[i]? = some (.int .i64 ((l.getD i 0:Nat):Int)):=by
  simp [List.getD,hi,iv]
def sv (l:List ByteArray):List Value:=l.map Value.string
theorem sv_get (l:List ByteArray) (i:Nat) (hi:i<l.length):(sv l)[i]? = some (.string (l.getD i ByteArray.empty)):=by
  simp [List.getD,hi,sv]
theorem sv_len (l:List ByteArray):(sv l).length=l.length:=by simp [sv]
theorem info_int:(Tryz.prog.info? 3).map (fun i=>(i.zero,i.size,i.bytes))=some (some (.int .i64 0),1,8):=by kernel_rfl
theorem made_blk (w:World) (z:Value) (n:Nat) (e:TypeId):BlkV (w.alloc (.cells (madeCells #[z] n) e)) w.heap.size e (List.replicate n z):=by
  unfold BlkV
  rw [heap_alloc_new]
  congr 2
  apply Array.ext
  · simp [madeCells]
  · intro i h1 h2;simp [madeCells,Nat.mod_one]
theorem rep_iv (n:Nat):List.replicate n (Value.int .i64 0)=(List.replicate n 0).map iv:=by simp [iv]
theorem own_view {w:World} {B:Nat} {e:TypeId} {v:Value} {n:Nat} {vs:List Value} (h:w.ownsRow B e 1 v n vs) :
    ∃ ad cap,v=.slice ad n cap∧n≤cap∧RdV w ad vs∧vs.length=n∧∀ a,ad=some a→B≤a.block∧a.block<w.heap.size:=by
  have hl:vs.length=n:=by have:=h.1;omega
  rcases h.2 with ⟨rfl,h0⟩ | ⟨g,cap,cur,rfl,hB,hg,hc,hm,hs,ht⟩
  · subst h0
    have:vs=[]:=List.eq_nil_of_length_eq_zero hl
    subst this
    exact ⟨none,0,rfl,Nat.le_refl _,RdV.nil _ _,rfl,fun a h=>by cases h⟩
  · have hlt:g<w.heap.size:=(Array.getElem?_eq_some_iff.1 hg).1
    refine ⟨_,cap,rfl,hc,?_,hl,fun a h=>by cases h;exact ⟨hB,hlt⟩⟩
    intro i hi
    refine ⟨g,0,rfl,hlt,?_⟩
    have hv:vs[i]? = some vs[i]:=List.getElem?_eq_getElem hi
    have:=World.ownsRow.cells h (g:=g) rfl i vs[i] hv
    have hadd:(⟨g,0,none⟩:Addr).add i=⟨g,0+i,none⟩:=by unfold Addr.add;split <;> simp_all
    rw [hadd] at this
    rw [this,hv]
section
variable {t e : TypeId} {z : Value} {bytes : Nat}
end
theorem info_string:(Tryz.prog.info? 9).map (fun i=>(i.zero,i.size,i.bytes))=some (some (.string ByteArray.empty),1,16):=by kernel_rfl
structure Cel where
  k:Int
  b:Bool
  neg:Bool
  ma:Option Addr
  mn:Nat
  mc:Nat
  e:Int
  s:ByteArray
  ka:Option Addr
  kn:Nat
  kc:Nat
  va:Option Addr
  vn:Nat
  vc:Nat
def Cel.cells (c:Cel):List Value:=[.int .i64 c.k,.bool c.b,.bool c.neg,(.slice c.ma c.mn c.mc),.int .i64 c.e,.string c.s,(.slice c.ka c.kn c.kc),(.slice c.va c.vn c.vc)]
def Cel.val (c:Cel):Value:=.agg #[.int .i64 c.k,.bool c.b,.bool c.neg,(.slice c.ma c.mn c.mc),.int .i64 c.e,.string c.s,(.slice c.ka c.kn c.kc),(.slice c.va c.vn c.vc)]
def flat (l:List Cel):List Value:=l.flatMap Cel.cells
theorem flat_len (l:List Cel):(flat l).length=l.length*8:=by
  induction l with
  | nil=>rfl
  | cons c l ih=>simp only [flat,List.flatMap_cons,List.length_append] at ih ⊢;rw [ih];simp [Cel.cells];omega
theorem flat_get (l:List Cel) (i j:Nat) (hi:i<l.length) (hj:j<8):(flat l)[i*8+j]? = l[i].cells[j]?:=by
  induction l generalizing i with
  | nil=>simp at hi
  | cons c l ih =>
    simp only [flat,List.flatMap_cons]
    cases i with
    | zero=>rw [Nat.zero_mul,Nat.zero_add,List.getElem?_append_left (by simp [Cel.cells];omega)];rfl
    | succ i =>
      rw [List.getElem?_append_right (by simp [Cel.cells];omega)]
      have:(i+1)*8+j - c.cells.length=i*8+j:=by simp [Cel.cells];omega
      rw [this]
      simp only [List.length_cons] at hi
      exact ih i (by omega)
def zeroC:Cel:=⟨0,false,false,none,0,0,0,ByteArray.empty,none,0,0,none,0,0⟩
theorem info_tree:(Tryz.prog.info? 29).map (fun i=>(i.zero,i.size,i.bytes))=some (some zeroC.val,8,120):=by kernel_rfl
theorem flat_rep (c:Cel) (n:Nat):flat (List.replicate n c)=(List.range (n*8)).map fun i=>c.cells.getD (i % 8) default:=by
  apply List.ext_getElem?
  intro q
  by_cases h:q<n*8
  · have h1:=flat_get (List.replicate n c) (q / 8) (q % 8) (by simp;omega) (Nat.mod_lt _ (by decide))
    rw [show q / 8*8+q % 8=q by omega] at h1
    rw [h1]
    have h8:q % 8<c.cells.length:=Nat.mod_lt _ (by decide)
    simp [h,List.getD,h8]
  · rw [List.getElem?_eq_none (by rw [flat_len];simp;omega),List.getElem?_eq_none (by simp;omega)]
theorem made_trees (n:Nat):(madeCells zeroC.val.cells (n*8)).toList=flat (List.replicate n zeroC):=by
  rw [flat_rep]
  simp only [madeCells]
  apply List.ext_getElem
  · simp
  · intro i h1 h2
    simp [zeroC,Cel.val,Cel.cells,Value.cells]
theorem wpl_make_trees (w:World) {ops:Array Oper} {rest:List Oper} {o:Oper} {a:Act} {Q:Exit→Act→World→Prop}
    (hg:o.guard=none) (l c:Operand) (hop:o.op=Op.makeSlice 27 l c) (kl kc:IntKind) (L C:Int) (n:Nat)
    (hl:a.eval l=.int kl L) (hc:a.eval c=.int kc C) (hL:L=(n:Int)) (hC:C=(n:Int)) (hn:n≤1000000000000)
    (hK:∀ w',BlkV w' w.heap.size 29 (flat (List.replicate n zeroC))→Below w.heap.size w w'→wpList Tryz.prog ops Q rest (a.put o.dst (.slice (some ⟨w.heap.size,0,none⟩) n n)) w') :
    wpList Tryz.prog ops Q (o::rest) a w:=by
  obtain ⟨i0,hi,hz0,hz1,hz2⟩:=info_parts info_tree
  refine wpList_make_full w hg l c 27 hop w.heap.size 29 i0 zeroC.val 8 Tryz.underlying27 hi hz0 hz1 kl kc L C n hl hc hL hC (by rw [hz2];omega) (by unfold maxLen;omega) (Nat.le_refl _) ?_
  intro w' ho hgr
  refine hK w' ?_ ((Below.refl _ _).grown hgr (Nat.le_refl _) (fun k h=>by cases h))
  obtain ⟨hl',h | ⟨g,cap,cur,e,_,hh,_,_,hs,ht⟩⟩:=ho
  · exact absurd h.1 (by simp)
  · simp only [Value.slice.injEq,Option.some.injEq,Addr.mk.injEq] at e
    obtain ⟨⟨rfl,_⟩,_,rfl⟩:=e
    unfold BlkV
    rw [hh,← made_trees]
    have:cur.toList=(madeCells (Value.cells zeroC.val) (n*8)).toList:=by
      have h2:=ht
      rw [List.take_of_length_le (by simp [hs])] at h2
      simpa using h2
    rw [← this]
theorem flat_at {w:World} {b o:Nat} {l:List Cel} (h:RdV w (some ⟨b,o,none⟩) (flat l)) (p:Nat) (hp:p<l.length) {c:Cel} (hc:l.getD p zeroC=c) :
    w.cell? ⟨b,o+p*8,none⟩=some (.int .i64 c.k)∧w.cell? ⟨b,o+p*8+1,none⟩=some (.bool c.b)∧w.cell? ⟨b,o+p*8+2,none⟩=some (.bool c.neg)∧w.cell? ⟨b,o+p*8+3,none⟩=some (.slice c.ma c.mn c.mc) ∧
    w.cell? ⟨b,o+p*8+4,none⟩=some (.int .i64 c.e)∧w.cell? ⟨b,o+p*8+5,none⟩=some (.string c.s)∧w.cell? ⟨b,o+p*8+6,none⟩=some (.slice c.ka c.kn c.kc)∧w.cell? ⟨b,o+p*8+7,none⟩=some (.slice c.va c.vn c.vc):=by
  have hg:l[p]=c:=by rw [← hc];simp [List.getD,hp]
  have key:∀ j,j<8→w.cell? ⟨b,o+(p*8+j),none⟩=c.cells[j]?:=fun j hj=>by
    rw [h.at (p*8+j) (by rw [flat_len];omega),flat_get l p j hp hj,hg]
  have k0:=key 0 (by decide);have k1:=key 1 (by decide);have k2:=key 2 (by decide);have k3:=key 3 (by decide)
  have k4:=key 4 (by decide);have k5:=key 5 (by decide);have k6:=key 6 (by decide);have k7:=key 7 (by decide)
  simp only [← Nat.add_assoc,Nat.add_zero] at k0 k1 k2 k3 k4 k5 k6 k7
  exact ⟨k0,k1,k2,k3,k4,k5,k6,k7⟩
theorem flat_set (l:List Cel) (p:Nat) (hp:p<l.length) (c:Cel) :
    ((((((((flat l).set (p*8) (.int .i64 c.k)).set (p*8+1) (.bool c.b)).set (p*8+2) (.bool c.neg)).set (p*8+3) (.slice c.ma c.mn c.mc)).set (p*8+4) (.int .i64 c.e)).set (p*8+5) (.string c.s)).set (p*8+6) (.slice c.ka c.kn c.kc)).set (p*8+7) (.slice c.va c.vn c.vc)=flat (l.set p c):=by
  apply List.ext_getElem?
  intro q
  simp only [List.getElem?_set,List.length_set,flat_len]
  by_cases hq:q<l.length*8
  · have h1:=flat_get (l.set p c) (q / 8) (q % 8) (by simp;omega) (Nat.mod_lt _ (by decide))
    rw [show q / 8*8+q % 8=q by omega] at h1
    rw [h1,List.getElem_set]
    have h2:=flat_get l (q / 8) (q % 8) (by omega) (Nat.mod_lt _ (by decide))
    rw [show q / 8*8+q % 8=q by omega] at h2
    by_cases e:p=q / 8
    · rw [if_pos e]
      have h8:q % 8=0∨q % 8=1∨q % 8=2∨q % 8=3∨q % 8=4∨q % 8=5∨q % 8=6∨q % 8=7:=by omega
      rcases h8 with h | h | h | h | h | h | h | h
      all_goals
        have hq':q=p*8+q % 8:=by omega
        rw [h] at hq' ⊢
        clear h h1 h2
        subst hq'
        simp [Cel.cells]
        try omega
    · rw [if_neg e,← h2]
      repeat (rw [if_neg (by omega)])
  · repeat (rw [if_neg (by omega)])
    rw [List.getElem?_eq_none (by rw [flat_len];omega),List.getElem?_eq_none (by rw [flat_len];simp;omega)]
def put8 (w:World) (b q:Nat) (c:Cel):World :=
  (((((((w.setCell ⟨b,q,none⟩ (.int .i64 c.k)).setCell ⟨b,q+1,none⟩ (.bool c.b)).setCell ⟨b,q+2,none⟩ (.bool c.neg)).setCell ⟨b,q+3,none⟩ (.slice c.ma c.mn c.mc)).setCell ⟨b,q+4,none⟩ (.int .i64 c.e)).setCell ⟨b,q+5,none⟩ (.string c.s)).setCell ⟨b,q+6,none⟩ (.slice c.ka c.kn c.kc)).setCell ⟨b,q+7,none⟩ (.slice c.va c.vn c.vc)
theorem put8_blk {w:World} {b:Nat} {l:List Cel} (h:BlkV w b 29 (flat l)) (p:Nat) (hp:p<l.length) (c:Cel):BlkV (put8 w b (p*8) c) b 29 (flat (l.set p c)):=by
  rw [← flat_set l p hp c]
  exact (((((((h.set _ _).set _ _).set _ _).set _ _).set _ _).set _ _).set _ _).set _ _
theorem put8_but (w:World) (b q:Nat) (c:Cel):But b w (put8 w b q c) :=
  ((((((((But.refl b w).setCell _ _).setCell _ _).setCell _ _).setCell _ _).setCell _ _).setCell _ _).setCell _ _).setCell _ _
theorem blk_olds {W:World} {g k:Nat} {l:List Cel} (h:BlkV W g 29 (flat l)) (hk:k<l.length) :
    (∃ z,W.cell? ⟨g,k*8,none⟩=some z)∧(∃ z,W.cell? ⟨g,k*8+1,none⟩=some z)∧(∃ z,W.cell? ⟨g,k*8+2,none⟩=some z)∧(∃ z,W.cell? ⟨g,k*8+3,none⟩=some z) ∧
    (∃ z,W.cell? ⟨g,k*8+4,none⟩=some z)∧(∃ z,W.cell? ⟨g,k*8+5,none⟩=some z)∧(∃ z,W.cell? ⟨g,k*8+6,none⟩=some z)∧(∃ z,W.cell? ⟨g,k*8+7,none⟩=some z):=by
  have key:∀ j,j<8→∃ z,W.cell? ⟨g,k*8+j,none⟩=some z:=fun j hj=>by
    rw [h.cell]
    have:k*8+j<(flat l).length:=by rw [flat_len];omega
    exact ⟨_,List.getElem?_eq_getElem this⟩
  exact ⟨key 0 (by decide),key 1 (by decide),key 2 (by decide),key 3 (by decide),key 4 (by decide),key 5 (by decide),key 6 (by decide),key 7 (by decide)⟩
end Go.Proofs.YtnacbakcalcgaaaGreatDoor
