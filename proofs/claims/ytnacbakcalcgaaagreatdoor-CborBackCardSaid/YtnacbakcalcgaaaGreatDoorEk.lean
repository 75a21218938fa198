/- Texts of the claim. -/
import Derived.Test.YtnacbakcalcgaaaGreatDoorEi
import Derived.Deep.RegionHeld3
import Derived.Deep.DrawnRows
import Derived.Defers
import Derived.Recover
import Derived.RegionTactic
import Derived.Test.YtnacbakcalcgaaaGreatDoorEh
import Derived.Deep.RegionHeldLaw
import Derived.Deep.DeepCutAuto
import Derived.Lib.DecodeN
import Derived.Lib.RuneBytes
import Derived.Lib.RuneCount
import Derived.Lib.Hide
set_option linter.unusedVariables false
set_option linter.unusedSimpArgs false
set_option maxHeartbeats 8000000
set_option maxRecDepth 100000
namespace Go.Proofs.YtnacbakcalcgaaaGreatDoor
open Go.RowKit Go.Sort

end Go.Proofs.YtnacbakcalcgaaaGreatDoor
namespace Go.Proofs.YtnacbakcalcgaaaGreatDoor
open Go.RowKit Go.Sort
open Go.RowKit Go.Sort
structure Bx (w:World) (g:Nat) (neg:Bool) (v:Value) (e:Int):Prop where
  lt:g<w.heap.size
  c0:w.cell? ⟨g,0,none⟩=some (.bool neg)
  c1:w.cell? ⟨g,1,none⟩=some v
  c2:w.cell? ⟨g,2,none⟩=some (.int .i64 e)
theorem Bx.step {w w':World} {g:Nat} {neg:Bool} {v:Value} {e:Int} (h:Bx w g neg v e) (hb:Below w.heap.size w w'):Bx w' g neg v e :=
  ⟨Nat.lt_of_lt_of_le h.lt hb.size,(hb.cell (p:=⟨g,0,none⟩) h.lt).trans h.c0,(hb.cell (p:=⟨g,1,none⟩) h.lt).trans h.c1,(hb.cell (p:=⟨g,2,none⟩) h.lt).trans h.c2⟩
theorem bx_new (w:World) (neg:Bool) (v:Value) (e:Int):Bx (w.alloc (.cells #[.bool neg,v,.int .i64 e] 25)) w.heap.size neg v e:=⟨by simp,by simp,by simp,by simp⟩
theorem Ctx.on {w0 w w':World} {l l':List Ent} (hc:Ctx w w' l') (h:Ctx w0 w l):Ctx w0 w' l':=⟨below_on h.below hc.below,hc.all⟩
theorem below_box (w:World) (a:Array Value) (t:TypeId):Below w.heap.size w (w.alloc (.cells a t)):=(Below.refl _ _).alloc (Nat.le_refl _) _
theorem Ctx.lits {w0 w:World} {l:List Ent} (h:Ctx w0 w l) {xs:List Nat} (hx:Okl xs) {N:Nat} (hN:val xs=N) :
    Ctx w0 (w.alloc (.cells (xs.map lv).toArray 51)) (⟨.slice (some ⟨w.heap.size,0,none⟩) xs.length xs.length,xs.length,N,xs⟩::l) :=
  (h.step ((Below.refl _ _).alloc (Nat.le_refl _) _)).push ⟨_,_,rfl,Nat.le_refl _,Nat.le_refl _,hx,(alloc_blk w xs).rd_all,hN⟩
theorem sameNum_any (neg:Bool) (ad:Option Addr) (n cap:Nat) (xs:List Nat) (e:Int) (ad':Option Addr) (cap':Nat) (w:World) (hn:xs.length=n) (hcap:n≤cap) (hcap':n≤cap') (hm:n≤1000000000) (hr:Rd w ad xs) (hr':Rd w ad' xs) :
    Calls Tryz.prog 33 #[.agg #[.bool neg,.slice ad n cap,.int .i64 e],.agg #[.bool neg,.slice ad' n cap',.int .i64 e]] w (BoolBelow true w):=by
  have hbl:Below w.heap.size w ((w.alloc (.cells #[.bool neg,.slice ad n cap,.int .i64 e] 25)).alloc (.cells #[.bool neg,.slice ad' n cap',.int .i64 e] 25)):=((Below.refl _ _).alloc (Nat.le_refl _) _).alloc (by simp) _
  have HB:=Lib.hid hbl
  have K:=Lib.hid (same_any ad n cap xs ad' cap' _ hn hcap hcap' hm (hr.below hbl) (hr'.below hbl))
  clear hbl hn
  have ht:(neg == neg)=true:=by simp
  have hte:(e == e)=true:=by simp
  go_enter Tryz.func33,Tryz.ntmps33
  go_wp2_with fail
  refine K.out.mono ?_
  rintro r w' ⟨rfl,q,rfl⟩
  go_wp2
  go_ret
  exact BoolBelow.mk rfl (below_drewN' HB.out q)
end Go.Proofs.YtnacbakcalcgaaaGreatDoor
namespace Go.Proofs.YtnacbakcalcgaaaGreatDoor
open Go.RowKit Go.Sort
theorem step_callX {w:World} {ops:Array Oper} {o:Oper} {a:Act} {K:Act→World→Prop} {Q:Exit→Act→World→Prop} {E:Prop} (hgd:o.guard=none) (n:Nat) (fn:Func) (hf:Tryz.prog.funcs[n]? = some fn) (hn:(fn.name == "runtime.NumGoroutine")=false) (hb:fn.body.isNone=false)
    (args:Array Operand) (ts:Array TypeId) (ho:o.op=.call { callee:=.value (.func n),args:=args,argTypes:=ts }) (vs:Array Value) (hv:args.map a.eval=vs) {Post:Ending→World→Prop} (C:Calls Tryz.prog n vs w Post)
    (h:∀ r w',Post r w'→∃ v,r=.returned v∧K (a.put o.dst v) w') :
    if Region.wanted o (yielded ops a.tmps)=true then Oper.wp Tryz.prog o a w K Q else E:=by
  have hw:Region.wanted o (yielded ops a.tmps)=true:=by simp [Region.wanted,hgd]
  rw [if_pos hw]
  have hx:(execOp a.eval o).run Tryz.prog w=.ok (.enter n vs) w:=by
    have e0:a.eval (.func n)=.func (.func n) #[] #[]:=rfl
    simp [execOp,ho,resolve,Deferred.ofValue,invoke,callFunc,hf,hv,e0,go_sem]
    rw [if_neg (by simpa using hn),if_neg (by intro h0;rw [h0] at hb;cases hb)]
  unfold Oper.wp
  rw [hx,Oper.upon_enter]
  exact C.mono (fun r w' hp=>by obtain ⟨v,rfl,hk⟩:=h r w' hp;exact hk)
def IntNP (ng:Bool) (N:Nat) (e:Int) (w:World) (r:Ending) (w':World):Prop :=
  Below w.heap.size w w'∧if 0≤e∧bitsN (N*tenN e.toNat)≤400 then ∃ v,r=.returned (.tuple #[.bool ng,v,.bool true])∧Own w.heap.size w' v (limbs (N*tenN e.toNat)) else r=.returned (.tuple #[.bool false,.slice none 0 0,.bool false])
theorem ten_len (t:Nat) (ht:t≤1200):(limbs (tenN t)).length≤1201:=by
  have:=limbs_length_le (pow_bound (show (10:Nat)<B32 by rw [B32_eq];decide) t)
  have e:tenN t=10 ^ t:=rfl
  rw [e];omega
theorem prod_len {N t:Nat} (hN:(limbs N).length≤90) (ht:t≤1200):(limbs (N*tenN t)).length≤1291:=by
  have h1:=val_lt (limbs_ok N)
  have h2:=val_lt (limbs_ok (tenN t))
  rw [val_limbs] at h1 h2
  have h3:=ten_len t ht
  have h4:N*tenN t<B32 ^ ((limbs N).length+(limbs (tenN t)).length):=by
    rw [Nat.pow_add]
    exact Nat.mul_lt_mul_of_lt_of_le h1 (Nat.le_of_lt h2) (Nat.pow_pos (by rw [B32_eq];decide))
  have:=limbs_length_le h4
  omega
theorem int_core (pa:Bool) (ta:Value) (xa:Int) (ng:Bool) (ad:Option Addr) (n cap:Nat) (xs:List Nat) (e:Int) (w:World) (ha:NumOk w ng ad n cap xs e)
    (KA:∀ W,Below w.heap.size w W→Calls Tryz.prog 80 #[.agg #[.bool pa,ta,.int .i64 xa]] W (NumBelow ng (.slice ad n cap) e W)) (hta:∃ a b c,ta=.slice a b c) :
    Calls Tryz.prog 46 #[.agg #[.bool pa,ta,.int .i64 xa]] w (IntNP ng (val xs) e w):=by
  obtain ⟨a0,b0,c0,rfl⟩:=hta
  have hbl:=below_box w #[.bool pa,.slice a0 b0 c0,.int .i64 xa] 25
  have HB:=Lib.hid hbl
  have KAH:=Lib.hid (KA _ hbl)
  have hlo:=ha.lo
  have h90:=ha.n90
  have hxs:limbs (val xs)=xs:=chkB_limbs ha.ok ha.chk
  have hxl:(limbs (val xs)).length≤90:=by rw [hxs,ha.len];exact h90
  have HA:=Lib.hid ha
  clear hbl KA ha
  go_enter Tryz.func46,Tryz.ntmps46
  go_wp2_with fail
  refine KAH.out.mono ?_
  rintro r w1 ⟨rfl,hb1⟩
  obtain ⟨hc1,hf1⟩:=bcell hb1
  have hz1:w.heap.size<w1.heap.size:=by have h:=hb1.size;simp at h;omega
  have HB1:=Lib.hid (below_on HB.out hb1);clear hb1
  have e0:w1.cell? ⟨w.heap.size,0,none⟩=some (.bool pa):=by rw [hc1 _ _ (by simp)];simp
  have e1:w1.cell? ⟨w.heap.size,1,none⟩=some (.slice a0 b0 c0):=by rw [hc1 _ _ (by simp)];simp
  have e2:w1.cell? ⟨w.heap.size,2,none⟩=some (.int .i64 xa):=by rw [hc1 _ _ (by simp)];simp
  have g0:w1.frozen? ⟨w.heap.size,0,none⟩=false:=by rw [hf1 _ _ (by simp)];simp
  have g1:w1.frozen? ⟨w.heap.size,1,none⟩=false:=by rw [hf1 _ _ (by simp)];simp
  have g2:w1.frozen? ⟨w.heap.size,2,none⟩=false:=by rw [hf1 _ _ (by simp)];simp
  clear hc1 hf1
  go_upto_region 2 with fail
  have hbz:Below w.heap.size w (((w1.setCell ⟨w.heap.size,0,none⟩ (.bool ng)).setCell ⟨w.heap.size,1,none⟩ (.slice ad n cap)).setCell ⟨w.heap.size,2,none⟩ (.int .i64 e)):=((HB1.out.setCell (by simp) _).setCell (by simp) _).setCell (by simp) _
  have z0:(((w1.setCell ⟨w.heap.size,0,none⟩ (.bool ng)).setCell ⟨w.heap.size,1,none⟩ (.slice ad n cap)).setCell ⟨w.heap.size,2,none⟩ (.int .i64 e)).cell? ⟨w.heap.size,0,none⟩=some (.bool ng):=by simp [go_sem,e0,e1,e2]
  have z1:(((w1.setCell ⟨w.heap.size,0,none⟩ (.bool ng)).setCell ⟨w.heap.size,1,none⟩ (.slice ad n cap)).setCell ⟨w.heap.size,2,none⟩ (.int .i64 e)).cell? ⟨w.heap.size,1,none⟩=some (.slice ad n cap):=by simp [go_sem,e0,e1,e2]
  have z2:(((w1.setCell ⟨w.heap.size,0,none⟩ (.bool ng)).setCell ⟨w.heap.size,1,none⟩ (.slice ad n cap)).setCell ⟨w.heap.size,2,none⟩ (.int .i64 e)).cell? ⟨w.heap.size,2,none⟩=some (.int .i64 e):=by simp [go_sem,e0,e1,e2]
  have zs:w.heap.size<(((w1.setCell ⟨w.heap.size,0,none⟩ (.bool ng)).setCell ⟨w.heap.size,1,none⟩ (.slice ad n cap)).setCell ⟨w.heap.size,2,none⟩ (.int .i64 e)).heap.size:=by simpa [World.setCell] using hz1
  have HBZ:=Lib.hid hbz
  clear hbz e0 e1 e2 g0 g1 g2 HB1 hz1
  generalize ((w1.setCell ⟨w.heap.size,0,none⟩ (.bool ng)).setCell ⟨w.heap.size,1,none⟩ (.slice ad n cap)).setCell ⟨w.heap.size,2,none⟩ (.int .i64 e)=W0 at *
  by_cases he:e<0
  · have HE:=Lib.hid (show ¬ (0≤e∧bitsN (val xs*tenN e.toNat)≤400) from fun h=>by omega)
    go_wp2_with fail
    go_ret3
    exact ⟨HBZ.out,by rw [if_neg HE.out];rfl⟩
  · obtain ⟨t,rfl⟩:∃ t:Nat,e=(t:Int):=⟨e.toNat,by omega⟩
    have ht:t≤1200:=by omega
    have KP:=Lib.hid (fun (W:World)=>(show Calls Tryz.prog 82 #[.int .u32 10,.int .i64 (t:Int)] W (Gives (tenN t) W) from by
      have K:=pow_any 10 (t:Int) W (by decide)
      rw [cutP_nat (n:=t) (by omega)] at K;exact K))
    have KM:=Lib.hid (fun (W:World) (v2:Value) (B:Nat) (hB:Below w.heap.size w W) (h:Own B W v2 (limbs (tenN t)))=>(show Calls Tryz.prog 81 #[.slice ad n cap,v2] W (Gives (val xs*tenN t) W) from by
      obtain ⟨ad3,cap3,rfl,q1,q2,_⟩:=h.view
      have hl:=ten_len t ht
      have K:=mul_any ad n cap xs ad3 (limbs (tenN t)).length cap3 (limbs (tenN t)) W HA.out.len HA.out.cap (by omega) HA.out.ok (HA.out.rd.below hB) rfl q1 (by omega) (limbs_ok _) q2
      rw [val_limbs] at K
      exact K))
    have KB:=Lib.hid (fun (W:World) (v:Value) (B:Nat) (h:Own B W v (limbs (val xs*tenN t)))=>(show Calls Tryz.prog 83 #[v] W (fun r w'=>r=.returned (.int .i64 (bitsN (val xs*tenN t):Int))∧W=w') from by
      obtain ⟨ad3,cap3,rfl,q1,q2,_⟩:=h.view
      have hl:=prod_len hxl ht
      have K:=bits_any ad3 _ cap3 _ W rfl q1 (by omega) (limbs_ok _) q2
      rwa [val_limbs] at K))
    have HIF:Hid (IntNP ng (val xs) (t:Int) w=fun r w'=>Below w.heap.size w w'∧if (0:Int)≤(t:Int)∧bitsN (val xs*tenN t)≤400 then ∃ v,r=.returned (.tuple #[.bool ng,v,.bool true])∧Own w.heap.size w' v (limbs (val xs*tenN t)) else r=.returned (.tuple #[.bool false,.slice none 0 0,.bool false])):=rfl
    have het:¬ ((t:Int)<0):=he
    clear he hxl hxs
    generalize val xs*tenN t=PK at *
    go_upto_region 4 with fail
    go_region_held_law (fun w'=>w'.cell? ⟨w.heap.size,1,none⟩=some (.slice ad n cap)∧w'.cell? ⟨w.heap.size,2,none⟩=some (.int .i64 (t:Int))) (first | exact ⟨x1,x2⟩ | go_keep) (first | (refine step_callX rfl 82 _ Tryz.func82 (by kernel_rfl) (by kernel_rfl) _ _ rfl #[.int .u32 10,.int .i64 (t:Int)] (by simp [Act.eval,Act.put]) (KP.out _) ?_;rintro r w2 ⟨v2,rfl,ho2,hb2⟩;have hB2:=below_on (below_drew HBZ.out) hb2;have x0:=(hb2.cell (p:=⟨w.heap.size,0,none⟩) zs).trans z0;have x1:=(hb2.cell (p:=⟨w.heap.size,1,none⟩) zs).trans z1;have x2:=(hb2.cell (p:=⟨w.heap.size,2,none⟩) zs).trans z2;have xs2:=Nat.lt_of_lt_of_le zs hb2.size;refine ⟨_,rfl,?_⟩) | (refine step_callX rfl 81 _ Tryz.func81 (by kernel_rfl) (by kernel_rfl) _ _ rfl #[.slice ad n cap,v2] (by simp [Act.eval,Act.put]) (KM.out _ v2 _ hB2 ho2) ?_;rintro r w3 ⟨v3,rfl,ho3,hb3⟩;have hB3:=below_on hB2 hb3;have y0:=(hb3.cell (p:=⟨w.heap.size,0,none⟩) xs2).trans x0;have x1:=(hb3.cell (p:=⟨w.heap.size,1,none⟩) xs2).trans x1;have x2:=(hb3.cell (p:=⟨w.heap.size,2,none⟩) xs2).trans x2;refine ⟨_,rfl,?_⟩))
    all_goals
      have HO3:=Lib.hid (ho3.mono (Nat.le_of_lt xs2))
      have HB3:=Lib.hid hB3
      have KB2:=Lib.hid (KB.out _ _ _ ho3)
      clear ho3 hB3 hb3 hB2 hb2 ho2
      go_wp2_with fail
      refine KB2.out.mono ?_
      rintro r w4 ⟨rfl,rfl⟩
      by_cases hbt:bitsN PK≤400
      · have hbz:¬ (400:Int)<(bitsN PK:Int):=by omega
        have HIF2:=Lib.hid (show (0:Int)≤(t:Int)∧bitsN PK≤400 from ⟨by omega,hbt⟩)
        clear hbt
        generalize bitsN PK=bk at *
        go_wp2_with fail
        go_ret3
        rw [HIF.out]
        exact ⟨HB3.out,by rw [if_pos HIF2.out];exact ⟨_,rfl,HO3.out⟩⟩
      · have hbz:(400:Int)<(bitsN PK:Int):=by omega
        have HIF2:=Lib.hid (show ¬ ((0:Int)≤(t:Int)∧bitsN PK≤400) from fun h=>hbt h.2)
        clear hbt
        generalize bitsN PK=bk at *
        go_wp2_with fail
        go_ret3
        rw [HIF.out]
        exact ⟨HB3.out,by rw [if_neg HIF2.out];rfl⟩
end Go.Proofs.YtnacbakcalcgaaaGreatDoor
namespace Go.Proofs.YtnacbakcalcgaaaGreatDoor
def bt (l:List UInt8) (k:Nat):Nat:=(l.getD k 0).toNat
theorem bt_lt (l:List UInt8) (k:Nat):bt l k<256:=(l.getD k 0).toNat_lt
theorem bt_drop (l:List UInt8) (i k:Nat):bt (l.drop i) k=bt l (i+k):=by
  simp [bt,List.getD,List.getElem?_drop]
theorem bt_append_left {a b:List UInt8} {k:Nat} (h:k<a.length):bt (a++b) k=bt a k:=by
  simp [bt,List.getD,List.getElem?_append_left h]
def decL (l:List UInt8):Nat × Nat:=Lib.decodeN l.length (bt l 0) (bt l 1) (bt l 2) (bt l 3)
def runeL (l:List UInt8):Int × Nat:=if decL l=(65533,1) then (-1,1) else (((decL l).1:Int),(decL l).2)
theorem get!_list (s:ByteArray) (k:Nat):s.get! k=s.data.toList.getD k 0:=by
  cases s with
  | mk d =>
    by_cases h:k<d.size
    · simp [ByteArray.get!,List.getD,h,getElem!_pos]
    · simp [ByteArray.get!,List.getD,h,getElem!_neg];rfl
theorem decode_list (s:ByteArray) (i:Nat):Utf8.decode s i=decL (s.data.toList.drop i):=by
  have e:∀ k,(s.get! (i+k)).toNat=bt (s.data.toList.drop i) k:=fun k=>by rw [bt_drop];simp [bt,get!_list]
  have e0:=e 0
  rw [Nat.add_zero] at e0
  rw [Lib.decode_at,decL,e0,e 1,e 2,e 3]
  congr 1
  simp
def okR (r:Int):Bool:=Utf8.valid r
theorem okR_iff {r:Int}:okR r=true ↔ (0≤r∧r<55296)∨(57344≤r∧r≤1114111):=by
  simp [okR,Utf8.valid]
def encN (r:Nat):List Nat :=
  if r<128 then [r]
  else if r<2048 then [192+r / 64,128+r % 64]
  else if r<65536 then [224+r / 4096,128+r / 64 % 64,128+r % 64]
  else [240+r / 262144,128+r / 4096 % 64,128+r / 64 % 64,128+r % 64]
def enc (r:Int):List UInt8:=(encN r.toNat).map fun x=>UInt8.ofNat x
theorem okR_nat {r:Int} (h:okR r=true):∃ n:Nat,r=n∧(n<55296∨(57344≤n∧n≤1114111)):=by
  rw [okR_iff] at h
  exact ⟨r.toNat,by omega,by omega⟩
theorem encN_lt {n:Nat} (h:n≤1114111):∀ x∈encN n,x<256:=by
  intro x hx
  unfold encN at hx
  repeat' split at hx
  all_goals simp at hx;omega
theorem encN_length (n:Nat):1≤(encN n).length∧(encN n).length≤4:=by
  unfold encN
  repeat' split
  all_goals simp
theorem enc_length (r:Int):(enc r).length=(encN r.toNat).length:=by simp [enc]
theorem enc_pos (r:Int):1≤(enc r).length:=by rw [enc_length];exact (encN_length _).1
theorem enc_ne (r:Int):enc r ≠ []:=by
  intro h;have:=enc_pos r;rw [h] at this;simp at this
theorem bt_map {xs:List Nat} {l:List UInt8} {k:Nat} (hk:k<xs.length) (hx:xs.getD k 0<256):bt (xs.map (fun x=>UInt8.ofNat x)++l) k=xs.getD k 0:=by
  rw [bt_append_left (by simpa using hk)]
  simp only [bt,List.getD,List.getElem?_map,List.getElem?_eq_getElem hk,Option.map_some,Option.getD_some] at hx ⊢
  rw [UInt8.toNat_ofNat'];omega
theorem decN_enc {n:Nat} (hn:n<55296∨(57344≤n∧n≤1114111)) {m b0 b1 b2 b3:Nat} (hm:(encN n).length≤m) (h0:b0=(encN n).getD 0 0)
    (h1:1<(encN n).length→b1=(encN n).getD 1 0) (h2:2<(encN n).length→b2=(encN n).getD 2 0) (h3:3<(encN n).length→b3=(encN n).getD 3 0) :
    Lib.decodeN m b0 b1 b2 b3=(n,(encN n).length):=by
  unfold encN at hm h0 h1 h2 h3 ⊢
  split at hm <;> rename_i c1
  · simp only [if_pos c1] at h0 ⊢
    simp at h0
    unfold Lib.decodeN
    rw [if_pos (by omega),h0];rfl
  · simp only [if_neg c1] at h0 h1 h2 h3 ⊢
    split at hm <;> rename_i c2
    · simp only [if_pos c2] at h0 h1 h2 h3 ⊢
      simp at h0 h1 hm
      unfold Lib.decodeN
      repeat' split
      all_goals first | (exfalso;omega) | (apply Prod.ext <;> simp <;> omega)
    · simp only [if_neg c2] at h0 h1 h2 h3 ⊢
      split at hm <;> rename_i c3
      · simp only [if_pos c3] at h0 h1 h2 h3 ⊢
        simp at h0 h1 h2 hm
        unfold Lib.decodeN
        repeat' split
        all_goals first | (exfalso;omega) | (apply Prod.ext <;> simp <;> omega)
      · simp only [if_neg c3] at h0 h1 h2 h3 ⊢
        simp at h0 h1 h2 h3 hm
        unfold Lib.decodeN
        repeat' split
        all_goals first | (exfalso;omega) | (apply Prod.ext <;> simp <;> omega)
theorem encN_three (n:Nat) (h:(encN n).length=1):n<128:=by
  unfold encN at h
  repeat' split at h
  all_goals simp at h
  assumption
theorem runeL_enc {r:Int} (h:okR r=true) (l:List UInt8):runeL (enc r++l)=(r,(enc r).length):=by
  obtain ⟨n,rfl,hn⟩:=okR_nat h
  have hb:∀ k,k<(encN n).length→bt (enc (n:Int)++l) k=(encN n).getD k 0:=by
    intro k hk
    unfold enc;rw [Int.toNat_natCast]
    refine bt_map hk ?_
    simp only [List.getD,List.getElem?_eq_getElem hk,Option.getD_some]
    exact encN_lt (by omega) _ (List.getElem_mem hk)
  have hp:=encN_length n
  have hl:(enc (n:Int)).length=(encN n).length:=by rw [enc_length,Int.toNat_natCast]
  have hd:decL (enc (n:Int)++l)=(n,(encN n).length):=by
    unfold decL
    exact decN_enc hn (by rw [List.length_append,hl];omega) (hb 0 (by omega)) (fun h=>hb 1 h) (fun h=>hb 2 h) (fun h=>hb 3 h)
  unfold runeL
  rw [hd,hl,if_neg]
  intro e
  have e1:=congrArg Prod.fst e
  have e2:=congrArg Prod.snd e
  simp at e1 e2
  have:=encN_three n e2
  omega
theorem decN_inv {m b0 b1 b2 b3 c k:Nat} (hm:1≤m) (l0:b0<256) (l1:b1<256) (l2:b2<256) (l3:b3<256) (h:Lib.decodeN m b0 b1 b2 b3=(c,k)) (hne:¬ ((c,k)=(65533,1))) :
    k≤m∧1≤k∧k≤4∧(c<55296∨(57344≤c∧c≤1114111))∧encN c=[b0,b1,b2,b3].take k:=by
  unfold Lib.decodeN at h
  by_cases c1:b0<128
  · rw [if_pos c1] at h
    obtain ⟨rfl,rfl⟩:=Prod.mk.injEq .. ▸ h
    refine ⟨hm,by omega,by omega,by omega,?_⟩
    unfold encN;rw [if_pos c1];rfl
  · rw [if_neg c1] at h
    by_cases c2:b0 / 32=6∧(1<m∧b1 / 64=2)
    · rw [if_pos c2] at h
      by_cases d2:b0 % 32*64+b1 % 64 ≥ 128
      · rw [if_pos d2] at h
        obtain ⟨rfl,rfl⟩:=Prod.mk.injEq .. ▸ h
        refine ⟨by omega,by omega,by omega,by omega,?_⟩
        unfold encN;rw [if_neg (by omega),if_pos (by omega)]
        simp;omega
      · rw [if_neg d2] at h;exact absurd h.symm hne
    · rw [if_neg c2] at h
      by_cases c3:b0 / 16=14∧(1<m∧b1 / 64=2)∧(2<m∧b2 / 64=2)
      · rw [if_pos c3] at h
        split at h
        · rename_i d3
          obtain ⟨rfl,rfl⟩:=Prod.mk.injEq .. ▸ h
          refine ⟨by omega,by omega,by omega,by omega,?_⟩
          unfold encN;rw [if_neg (by omega),if_neg (by omega),if_pos (by omega)]
          simp;omega
        · exact absurd h.symm hne
      · rw [if_neg c3] at h
        by_cases c4:b0 / 8=30∧(1<m∧b1 / 64=2)∧(2<m∧b2 / 64=2)∧(3<m∧b3 / 64=2)
        · rw [if_pos c4] at h
          split at h
          · rename_i d4
            obtain ⟨rfl,rfl⟩:=Prod.mk.injEq .. ▸ h
            refine ⟨by omega,by omega,by omega,by omega,?_⟩
            unfold encN;rw [if_neg (by omega),if_neg (by omega),if_neg (by omega)]
            simp;omega
          · exact absurd h.symm hne
        · rw [if_neg c4] at h;exact absurd h.symm hne
theorem take_bt (l:List UInt8) (k:Nat) (h:k≤l.length):l.take k=((List.range k).map (bt l)).map fun x=>UInt8.ofNat x:=by
  apply List.ext_getElem
  · simp;omega
  · intro i h1 h2
    simp at h1
    simp [bt,List.getD,List.getElem?_eq_getElem (show i<l.length by omega)]
theorem decL_width (l:List UInt8) (h:l ≠ []):1≤(decL l).2∧(decL l).2≤l.length:=by
  have hm:1≤l.length:=by cases l;exact absurd rfl h;simp
  by_cases e:decL l=(65533,1)
  · rw [e];exact ⟨by simp,hm⟩
  · have:=decN_inv (c:=(decL l).1) (k:=(decL l).2) hm (bt_lt l 0) (bt_lt l 1) (bt_lt l 2) (bt_lt l 3) rfl e
    omega
theorem runeL_width (l:List UInt8) (h:l ≠ []):1≤(runeL l).2∧(runeL l).2≤l.length:=by
  have:=decL_width l h
  unfold runeL;split
  · exact ⟨by simp,by cases l;exact absurd rfl h;simp⟩
  · exact this
theorem runeL_inv (l:List UInt8) (h:l ≠ []) (hr:0≤(runeL l).1):okR (runeL l).1=true∧enc (runeL l).1=l.take (runeL l).2∧(runeL l).2=(decL l).2∧(runeL l).1=(decL l).1:=by
  have hm:1≤l.length:=by cases l;exact absurd rfl h;simp
  unfold runeL at hr ⊢
  split
  · rename_i e;rw [if_pos e] at hr;simp at hr
  · rename_i e
    obtain ⟨a1,a2,a3,a4,a5⟩:=decN_inv (c:=(decL l).1) (k:=(decL l).2) hm (bt_lt l 0) (bt_lt l 1) (bt_lt l 2) (bt_lt l 3) rfl e
    refine ⟨okR_iff.2 (by omega),?_,rfl,rfl⟩
    unfold enc
    rw [Int.toNat_natCast,a5,take_bt l _ a1]
    congr 1
    generalize (decL l).2=k at *
    have hk:k=1∨k=2∨k=3∨k=4:=by omega
    rcases hk with rfl | rfl | rfl | rfl <;> rfl
def runesF:Nat→List UInt8→List Int
  | 0,_=>[]
  | f+1,l=>if l=[] then [] else (runeL l).1::runesF f (l.drop (runeL l).2)
def runesL (l:List UInt8):List Int:=runesF l.length l
theorem runesF_nil (f:Nat):runesF f []=[]:=by cases f <;> simp [runesF]
theorem runesF_eq : ∀ (f g : Nat) (l : List UInt8), l.length ≤ f → l.length ≤ g → runesF f l = runesF g l := by
  intro f
  induction f with
  | zero => intro g l h _; have : l = [] := List.eq_nil_of_length_eq_zero (by omega)
            rw [this, runesF_nil, runesF_nil]
  | succ f ih =>
    intro g l h k
    cases g with
    | zero => have : l = [] := List.eq_nil_of_length_eq_zero (by omega)
              rw [this, runesF_nil, runesF_nil]
    | succ g =>
      by_cases hl : l = []
      · rw [hl, runesF_nil, runesF_nil]
      · have hw := runeL_width l hl
        simp only [runesF, if_neg hl]
        rw [ih g _ (by rw [List.length_drop]; omega) (by rw [List.length_drop]; omega)]
theorem runesL_nil:runesL []=[]:=rfl
theorem runesL_cons {l:List UInt8} (h:l ≠ []):runesL l=(runeL l).1::runesL (l.drop (runeL l).2):=by
  have hw:=runeL_width l h
  unfold runesL
  have hm:l.length=(l.length - 1)+1:=by omega
  rw [hm,runesF,if_neg h,runesF_eq _ (l.drop (runeL l).2).length _ (by rw [List.length_drop];omega) (Nat.le_refl _)]
theorem runesL_length : ∀ (m : Nat) (l : List UInt8), l.length ≤ m → (runesL l).length ≤ l.length := by
  intro m
  induction m with
  | zero => intro l h; have : l = [] := List.eq_nil_of_length_eq_zero (by omega)
            rw [this]; simp [runesL_nil]
  | succ m ih =>
    intro l h
    by_cases hl : l = []
    · rw [hl]; simp [runesL_nil]
    · have hw := runeL_width l hl
      rw [runesL_cons hl, List.length_cons]
      have := ih (l.drop (runeL l).2) (by rw [List.length_drop]; omega)
      rw [List.length_drop] at this; omega
theorem runesL_le (l:List UInt8):(runesL l).length≤l.length:=runesL_length _ l (Nat.le_refl _)
def validL (l:List UInt8):Bool:=(runesL l).all fun r=>decide (0≤r)
def joinL (rs:List Int):List UInt8:=rs.flatMap enc
def okAll (rs:List Int):Bool:=rs.all okR
theorem joinL_cons (r:Int) (rs:List Int):joinL (r::rs)=enc r++joinL rs:=rfl
theorem joinL_append (a b:List Int):joinL (a++b)=joinL a++joinL b:=by simp [joinL]
theorem runesL_enc {r:Int} (h:okR r=true) (l:List UInt8):runesL (enc r++l)=r::runesL l:=by
  have he:=runeL_enc h l
  rw [runesL_cons (by simp [enc_ne]),he]
  simp
theorem okR_pos {r:Int} (h:okR r=true):0≤r:=by rw [okR_iff] at h;omega
theorem runes_join:∀ (rs:List Int) (l:List UInt8),okAll rs=true→runesL (joinL rs++l)=rs++runesL l:=by
  intro rs
  induction rs with
  | nil=>intro l _;rfl
  | cons r rs ih =>
    intro l h
    simp only [okAll,List.all_cons,Bool.and_eq_true] at h
    rw [joinL_cons,List.append_assoc,runesL_enc h.1,ih l h.2];rfl
theorem runes_join_nil {rs:List Int} (h:okAll rs=true):runesL (joinL rs)=rs:=by
  have:=runes_join rs [] h
  simpa [runesL_nil] using this
theorem valid_join {rs:List Int} (h:okAll rs=true):validL (joinL rs)=true:=by
  unfold validL;rw [runes_join_nil h,List.all_eq_true]
  intro r hr
  have:=okR_pos (List.all_eq_true.1 h r hr)
  simpa using this
theorem valid_cons {l:List UInt8} (h:l ≠ []):validL l=(decide (0≤(runeL l).1) && validL (l.drop (runeL l).2)):=by
  unfold validL;rw [runesL_cons h];rfl
theorem join_runesF : ∀ (m : Nat) (l : List UInt8), l.length ≤ m → validL l = true → okAll (runesL l) = true ∧ joinL (runesL l) = l := by
  intro m
  induction m with
  | zero => intro l h _; have : l = [] := List.eq_nil_of_length_eq_zero (by omega)
            rw [this]; exact ⟨rfl, rfl⟩
  | succ m ih =>
    intro l h hv
    by_cases hl : l = []
    · rw [hl]; exact ⟨rfl, rfl⟩
    · have hw := runeL_width l hl
      rw [valid_cons hl, Bool.and_eq_true, decide_eq_true_eq] at hv
      obtain ⟨h1, h2, _, _⟩ := runeL_inv l hl hv.1
      obtain ⟨i1, i2⟩ := ih (l.drop (runeL l).2) (by rw [List.length_drop]; omega) hv.2
      rw [runesL_cons hl]
      refine ⟨by simp only [okAll, List.all_cons, Bool.and_eq_true]; exact ⟨h1, i1⟩, ?_⟩
      rw [joinL_cons, h2, i2, List.take_append_drop]
theorem join_runes {l:List UInt8} (h:validL l=true):okAll (runesL l)=true∧joinL (runesL l)=l:=join_runesF _ l (Nat.le_refl _) h
theorem okAll_append {a b:List Int} (ha:okAll a=true) (hb:okAll b=true):okAll (a++b)=true:=by simp [okAll] at ha hb ⊢;exact ⟨ha,hb⟩
theorem valid_append {a b:List UInt8} (ha:validL a=true) (hb:validL b=true):validL (a++b)=true∧runesL (a++b)=runesL a++runesL b:=by
  obtain ⟨a1,a2⟩:=join_runes ha
  obtain ⟨b1,b2⟩:=join_runes hb
  have e:a++b=joinL (runesL a++runesL b):=by rw [joinL_append,a2,b2]
  constructor
  · rw [e];exact valid_join (okAll_append a1 b1)
  · conv=>lhs;rw [e]
    exact runes_join_nil (okAll_append a1 b1)
end Go.Proofs.YtnacbakcalcgaaaGreatDoor
