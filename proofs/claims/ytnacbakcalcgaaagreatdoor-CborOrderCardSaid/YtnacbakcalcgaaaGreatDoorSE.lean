/- Texts of the claim. -/
import Derived.Test.YtnacbakcalcgaaaGreatDoorSD
import Derived.Deep.CutBlock
import Derived.Test.YtnacbakcalcgaaaGreatDoorTie
import Derived.LaidMore
import Derived.Lay
import Derived.Lib.LaidU8T
import Derived.Lib.SmallJoins
set_option linter.unusedVariables false
set_option linter.unusedSimpArgs false
set_option maxHeartbeats 8000000
set_option maxRecDepth 100000
namespace Go.Proofs.YtnacbakcalcgaaaGreatDoor
open Go.RowKit Go.Lib Go.Sort
theorem box8C {k:Int} {b neg:Bool} {ma:Option Addr} {mn mc:Nat} {e:Int} {s:ByteArray} {ka:Option Addr} {kn kc:Nat} {va:Option Addr} {vn vc:Nat} (w:World) {W:World}
    (h:Below (w.alloc (.cells #[.int .i64 k,.bool b,.bool neg,.slice ma mn mc,.int .i64 e,.string s,.slice ka kn kc,.slice va vn vc] 29)).heap.size (w.alloc (.cells #[.int .i64 k,.bool b,.bool neg,.slice ma mn mc,.int .i64 e,.string s,.slice ka kn kc,.slice va vn vc] 29)) W) :
    W.cell? ⟨w.heap.size,0,none⟩=some (.int .i64 k)∧W.cell? ⟨w.heap.size,1,none⟩=some (.bool b)∧W.cell? ⟨w.heap.size,2,none⟩=some (.bool neg)∧W.cell? ⟨w.heap.size,3,none⟩=some (.slice ma mn mc)∧W.cell? ⟨w.heap.size,4,none⟩=some (.int .i64 e)∧W.cell? ⟨w.heap.size,5,none⟩=some (.string s)∧W.cell? ⟨w.heap.size,6,none⟩=some (.slice ka kn kc)∧W.cell? ⟨w.heap.size,7,none⟩=some (.slice va vn vc):=by
  have q:=(h.block _ (by simp)).trans (heap_alloc_new w (.cells #[.int .i64 k,.bool b,.bool neg,.slice ma mn mc,.int .i64 e,.string s,.slice ka kn kc,.slice va vn vc] 29))
  exact ⟨(box_cellsJC q 0 _ rfl).1,(box_cellsJC q 1 _ rfl).1,(box_cellsJC q 2 _ rfl).1,(box_cellsJC q 3 _ rfl).1,(box_cellsJC q 4 _ rfl).1,(box_cellsJC q 5 _ rfl).1,(box_cellsJC q 6 _ rfl).1,(box_cellsJC q 7 _ rfl).1⟩
theorem below_newC (w:World) (o:Obj):Below w.heap.size w (w.alloc o):=(Below.refl _ _).alloc (Nat.le_refl _) _
structure BytA (w:World) (ad:Option Addr) (n cap:Nat) (l:List Nat):Prop where
  ln:l.length=n
  cp:n≤cap
  ok:Okb l
  rd:RdV w ad (bc l)
  shp:Shp ad cap
theorem BytA.on {w w':World} {ad:Option Addr} {n cap:Nat} {l:List Nat} (h:BytA w ad n cap l) (hb:Below w.heap.size w w'):BytA w' ad n cap l:=⟨h.ln,h.cp,h.ok,h.rd.on hb,h.shp⟩
theorem BytA.own {w:World} {B:Nat} {v:Value} {n:Nat} {l:List Nat} (h:w.ownsRow B 5 1 v n (bc l)) (hk:Okb l):∃ ad k cap,v=.slice ad k cap∧BytA w ad k cap l:=by
  obtain ⟨ad,k,cap,e,h1,h2,h3,h4,_⟩:=(Byt.own h).at_
  exact ⟨ad,k,cap,e,h1,h2,hk,h3,h4⟩
theorem enco_text {a:ByteArray} (ha:a.size≤300) (hv:okN a=true):encoX (leafT 4 false a)=.inl (strC 3 a):=by
  have hs:soundB (leafT 4 false a)=true:=by
    unfold okN at hv
    rw [Bool.and_eq_true] at hv
    show (validL a.data.toList && (decide (a.size≤2000) && _))=true
    rw [hv.2,hv.1];rfl
  have hc:checkB (leafT 4 false a)=true:=by
    unfold checkB
    rw [leaf_nodesC,leaf_preC]
    simp [hs]
  have he:encX (leafT 4 false a)=strC 3 a:=by rw [encX_eq];rfl
  rw [encoX_yes hc (by rw [he];have:=strC_len 3 a;omega),he]
theorem strC_bytes (a:ByteArray) (ha:a.size≤300):Okb (strC 3 a):=strC_okb 3 a (by decide) (by omega)
theorem cborOrder_main (a b:ByteArray) (w:World) (ha:a.size≤300) (hb:b.size≤300) (hne:a.toList ≠ b.toList) (hU:UT w) (hT:DB w) :
    Calls Tryz.prog 7 #[.string a,.string b] w (BoolBelow true w):=by
  have AW:=Lib.hid (fun W (h:Below w.heap.size w W)=>show Calls Tryz.prog 14 #[] W (BoolBelow true w) from (awake10_any W (hU.below h) (hT.below h)).mono fun _ _ hp=>⟨hp.1,below_on h hp.2⟩)
  have K1:=Lib.hid (set_one a w (by unfold maxLen;omega))
  have K2:=Lib.hid (fun e w1 h=>set_two (w:=w) (e:=e) (w1:=w1) h hne (by unfold maxLen;omega))
  have KE:=Lib.hid (fun (t:MT) W (h:Below w.heap.size w W) (hR:Rep W t)=>encode_cb t W hR (hU.below h) (hT.below h))
  have HNE:=Lib.hid hne
  have HA:=Lib.hid ha;have HB:=Lib.hid hb
  have hx:(a.toList == b.toList)=false:=by rw [beq_eq_false_iff_ne];exact hne
  have ha1:decide ((300:Int)<(a.size:Int))=false:=decide_eq_false (by omega)
  have hb1:decide ((300:Int)<(b.size:Int))=false:=decide_eq_false (by omega)
  clear hne ha hb hU hT
  have K1:Hid (Calls _ _ #[.agg #[.int .i64 0,.bool false,.bool false,.slice none 0 0,.int .i64 0,.string ⟨#[]⟩,.slice none 0 0,.slice none 0 0],.string a,.agg #[.int .i64 1,.bool false,.bool false,.slice none 0 0,.int .i64 0,.string ⟨#[]⟩,.slice none 0 0,.slice none 0 0]] _ _):=K1
  go_enter Tryz.func7,Tryz.ntmps7
  go_wp2_with fail
  refine K1.out.mono ?_
  intro r w1 hp
  obtain ⟨ka,kc,va,vc,rfl,hb1,K3⟩:=K2.out _ _ hp
  change Calls _ _ #[.agg #[.int .i64 7,.bool false,.bool false,.slice none 0 0,.int .i64 0,.string ⟨#[]⟩,.slice ka 1 kc,.slice va 1 vc],.string b,.agg #[.int .i64 2,.bool false,.bool false,.slice none 0 0,.int .i64 0,.string ⟨#[]⟩,.slice none 0 0,.slice none 0 0]] _ _ at K3
  dsimp only [objC7,Cel.val]
  have H1:=Lib.hid hb1
  have K3:=Lib.hid K3
  clear hp hb1 K1 K2
  go_wp2_with fail
  refine K3.out.mono ?_
  rintro r w2 ⟨u,x,y,ka2,kc2,va2,vc2,hu,hc,rfl,hR,hb2⟩
  have H2:=Lib.hid (below_on H1.out hb2)
  obtain ⟨W3,hW3⟩:∃ x,w2.alloc (.cells #[.int .i64 7,.bool false,.bool false,.slice none 0 0,.int .i64 0,.string ⟨#[]⟩,.slice ka2 2 kc2,.slice va2 2 vc2] 29)=x:=⟨_,rfl⟩
  have hb3:Below w2.heap.size w2 W3:=by rw [← hW3];exact below_newC _ _
  have HY:=Lib.hid (fun W (h:Below W3.heap.size W3 W)=>(by rw [← hW3] at h;exact box8C w2 h:W.cell? ⟨w2.heap.size,0,none⟩=some (.int .i64 7)∧W.cell? ⟨w2.heap.size,1,none⟩=some (.bool false)∧W.cell? ⟨w2.heap.size,2,none⟩=some (.bool false)∧W.cell? ⟨w2.heap.size,3,none⟩=some (.slice none 0 0)∧W.cell? ⟨w2.heap.size,4,none⟩=some (.int .i64 0)∧W.cell? ⟨w2.heap.size,5,none⟩=some (.string ⟨#[]⟩)∧W.cell? ⟨w2.heap.size,6,none⟩=some (.slice ka2 2 kc2)∧W.cell? ⟨w2.heap.size,7,none⟩=some (.slice va2 2 vc2)))
  have H3:=Lib.hid (below_on H2.out hb3)
  have KE3:=KE.out u W3 H3.out (hR.on hb3)
  have HRU:=Lib.hid (fun W (h:Below W3.heap.size W3 W)=>(hR.on (hb3.trans (h.mono hb3.size)):Rep W u))
  have HU:=Lib.hid hu
  dsimp only [objC7,Cel.val]
  rw [hc] at KE3
  have HC:=Lib.hid hc
  have HW3:=Lib.hid hW3
  clear hb2 hb3 hW3 hR hu hc K3
  have hck:=HU.out.check
  cases hok:okN x && okN y with
  | false =>
    rw [hok] at hck
    have he:encoX u=.inr 1:=by unfold encoX;rw [if_pos hck]
    rw [he] at KE3
    unfold EnP at KE3
    dsimp only [objC7,Cel.val] at KE3 ⊢
    have KE4:=Lib.hid KE3
    have HOK:=Lib.hid hok
    clear he hck KE3 hok
    go_wp2_with fail
    rw [HW3.out]
    refine KE4.out.mono ?_
    rintro r w4 ⟨rfl,hb4⟩
    have H4:=Lib.hid (below_on H3.out hb4)
    have H34:=Lib.hid hb4
    obtain ⟨c0,c1,c2,c3,c4,c5,c6,c7⟩:=HY.out _ hb4
    have KC:=Lib.hid (refCheck_noC (.agg #[.int .i64 7,.bool false,.bool false,.slice none 0 0,.int .i64 0,.string ⟨#[]⟩,.slice ka2 2 kc2,.slice va2 2 vc2]) w4 ⟨_,_,_,_,_,_,_,_,_,_,_,_,_,_,rfl⟩ (fun W h=>by
      refine refFields_noC none 0 ka2 kc2 va2 vc2 2 [x,y] W (fun W' h'=>?_)
      have hr:=HRU.out W' (H34.out.trans ((h.trans (h'.mono h.size)).mono H34.out.size))
      have own:=hr.own
      have hk:=HU.out.k
      have hkr:=own.kr
      rw [hk,HC.out] at hkr
      have hkc:2≤kc2:=by have:=own.kc;rw [HC.out] at this;exact this
      have hz:x.size≤300∧y.size≤300:=by
        have h1:=HA.out;have h2:=HB.out
        rcases HU.out.v with ⟨rfl,rfl,_⟩ | ⟨rfl,rfl,_⟩
        · exact ⟨h1,h2⟩
        · exact ⟨h2,h1⟩
      have hokk:=HOK.out
      by_cases hvx:validL x.data.toList=true
      · have hx1:okN x=true:=by unfold okN;rw [hvx,decide_eq_true (show x.size≤2000 by omega)];rfl
        rw [hx1,Bool.true_and] at hokk
        have hvy:validL y.data.toList=false:=by
          unfold okN at hokk
          rw [decide_eq_true (show y.size≤2000 by omega),Bool.true_and] at hokk
          exact hokk
        exact refNames_noC ka2 2 kc2 [x,y] W' rfl hkc hkr (by decide) 1 (by decide) hvy (by show y.size≤1000;omega) (fun j hj=>by
          obtain rfl:j=0:=by omega
          unfold nameAt
          show (okN x && (decide (0=0) || _))=true
          rw [hx1];rfl)
      · have hvx':validL x.data.toList=false:=by cases hq:validL x.data.toList <;> simp_all
        exact refNames_noC ka2 2 kc2 [x,y] W' rfl hkc hkr (by decide) 0 (by decide) hvx' (by show x.size≤1000;omega) (fun j hj=>by omega)))
    clear hb4 KE4
    go_wp2_with fail
    refine KC.out.mono ?_
    rintro r w5 ⟨rfl,hb5⟩
    have H5:=Lib.hid (below_on H4.out hb5)
    clear hb5
    go_wp2_with fail
    refine (AW.out _ H5.out).mono ?_
    rintro r w9 ⟨rfl,hb9⟩
    have HB9:=Lib.hid hb9
    clear hb9
    go_wp2_with fail
    go_ret
    exact BoolBelow.mk rfl HB9.out
  | true =>
    rw [hok] at hck
    have hno:okN a=true∧okN b=true:=by
      rw [Bool.and_eq_true] at hok
      rcases HU.out.v with ⟨rfl,rfl,_⟩ | ⟨rfl,rfl,_⟩
      · exact hok
      · exact ⟨hok.2,hok.1⟩
    have he:encoX u=.inl (encX u):=encoX_yes hck (by have:=HU.out.len HNE.out HA.out HB.out;omega)
    rw [he] at KE3
    have HEX:=Lib.hid (encX_two HU.out.two HNE.out)
    have hlx:=HU.out.len HNE.out HA.out HB.out
    unfold EnP at KE3
    dsimp only [objC7,Cel.val] at KE3 ⊢
    have KE4:=Lib.hid KE3
    have ta:=Lib.hid (enco_text HA.out hno.1)
    have tb:=Lib.hid (enco_text HB.out hno.2)
    have KA:=Lib.hid (fun W (h:Below w.heap.size w W)=>(by have:=KE.out (leafT 4 false a) W h (leafT_rep W 4 false a (by decide) (by have:=HA.out;unfold maxLen;omega));rw [ta.out] at this;exact this:Calls Tryz.prog 15 #[.agg #[.int .i64 4,.bool false,.bool false,.slice none 0 0,.int .i64 0,.string a,.slice none 0 0,.slice none 0 0]] W (EnP (.inl (strC 3 a)) W)))
    have KB:=Lib.hid (fun W (h:Below w.heap.size w W)=>(by have:=KE.out (leafT 4 false b) W h (leafT_rep W 4 false b (by decide) (by have:=HB.out;unfold maxLen;omega));rw [tb.out] at this;exact this:Calls Tryz.prog 15 #[.agg #[.int .i64 4,.bool false,.bool false,.slice none 0 0,.int .i64 0,.string b,.slice none 0 0,.slice none 0 0]] W (EnP (.inl (strC 3 b)) W)))
    have HLE:=Lib.hid (strC_less b a HB.out HA.out)
    have hpl:(strC 3 a).length≤309:=by have:=strC_len 3 a;have:=HA.out;omega
    have hql:(strC 3 b).length≤309:=by have:=strC_len 3 b;have:=HB.out;omega
    have HBA:=Lib.hid (strC_bytes a HA.out);have HBB:=Lib.hid (strC_bytes b HB.out)
    unfold EnP at KA KB
    clear he hck KE3 hok hno KE ta tb HY HRU
    generalize encX u=L at *
    generalize hP:strC 3 a=P at *
    generalize hQ:strC 3 b=Q at *
    clear hP hQ
    have HLL:=Lib.hid hlx
    have HPL:=Lib.hid hpl;have HQL:=Lib.hid hql
    clear hlx hpl hql
    go_wp2_with fail
    rw [HW3.out]
    refine KE4.out.mono ?_
    rintro r w4 ⟨v4,rfl,ho4,hb4⟩
    obtain ⟨a4,n4,c4,rfl,g1,g2,g3,g4,_⟩:=(Byt.own ho4).at_
    have H4:=Lib.hid (below_on H3.out hb4)
    have G4:=Lib.hid g3
    have N4:=Lib.hid g1
    have K4:=Lib.hid (KA.out w4 H4.out)
    clear ho4 hb4 KE4 g1 g2 g3 g4 KA
    go_wp2_with fail
    refine K4.out.mono ?_
    rintro r w5 ⟨v5,rfl,ho5,hb5⟩
    obtain ⟨a5,n5,c5,rfl,g1,g2,g3,g4,_⟩:=(Byt.own ho5).at_
    have H5:=Lib.hid (below_on H4.out hb5)
    replace G4:=Lib.hid (G4.out.on hb5)
    have G5:=Lib.hid g3
    have N5:=Lib.hid g1
    have K5:=Lib.hid (KB.out w5 H5.out)
    clear ho5 hb5 K4 g1 g2 g3 g4 KB
    go_wp2_with fail
    refine K5.out.mono ?_
    rintro r w6 ⟨v6,rfl,ho6,hb6⟩
    obtain ⟨a6,n6,c6,rfl,g1,g2,g3,g4,_⟩:=(Byt.own ho6).at_
    have H6:=Lib.hid (below_on H5.out hb6)
    replace G4:=Lib.hid (G4.out.on hb6)
    replace G5:=Lib.hid (G5.out.on hb6)
    have C4:=Lib.hid (conv_bv w6 a4 n4 c4 L N4.out G4.out)
    have C5:=Lib.hid (conv_bv w6 a5 n5 c5 P N5.out G5.out)
    have C6:=Lib.hid (conv_bv w6 a6 n6 c6 Q g1 g3)
    clear ho6 hb6 K5 g1 g2 g3 g4 G4 G5 N4 N5
    have hsp:(strB P).size≤309:=by rw [strB_size];exact HPL.out
    have hsq:(strB Q).size≤309:=by rw [strB_size];exact HQL.out
    have HXE:Hid (strB L=if shortL b.toList a.toList then ⟨#[162]⟩++strB Q++⟨#[244]⟩++strB P++⟨#[246]⟩ else ⟨#[162]⟩++strB P++⟨#[246]⟩++strB Q++⟨#[244]⟩):=Lib.hid (by
      rw [HEX.out]
      cases shortL b.toList a.toList
      · simp only [Bool.false_eq_true,if_false]
        apply ByteArray.ext
        simp [strB]
      · simp only [if_true]
        apply ByteArray.ext
        simp [strB])
    generalize strB P=SP at *
    generalize strB Q=SQ at *
    generalize strB L=SX at *
    have z1:¬ 9223372036854775807<1+SP.size:=by omega
    have z2:¬ 9223372036854775807<1+SP.size+1:=by omega
    have z3:¬ 9223372036854775807<1+SP.size+1+SQ.size:=by omega
    have z4:¬ 9223372036854775807<1+SP.size+1+SQ.size+1:=by omega
    have y1:¬ 9223372036854775807<1+SQ.size:=by omega
    have y2:¬ 9223372036854775807<1+SQ.size+1:=by omega
    have y3:¬ 9223372036854775807<1+SQ.size+1+SP.size:=by omega
    have y4:¬ 9223372036854775807<1+SQ.size+1+SP.size+1:=by omega
    go_upto_region 9 with fail
    go_wp2_with fail
    rw [C5.out]
    simp only [Result.andThen]
    rw [Oper.upon_value]
    go_wp2_with fail
    rw [C6.out]
    simp only [Result.andThen]
    rw [Oper.upon_value]
    go_upto_region 10 with fail
    go_wp2_with fail
    rw [C6.out]
    simp only [Result.andThen]
    rw [Oper.upon_value]
    go_wp2_with fail
    rw [C5.out]
    simp only [Result.andThen]
    rw [Oper.upon_value]
    have hless:=HLE.out
    cases hsl:shortL b.toList a.toList with
    | false =>
      rw [hsl] at hless HXE
      simp only [Bool.false_eq_true,if_false] at HXE
      clear hsl
      generalize hR:(⟨#[162]⟩:ByteArray)++SP++⟨#[246]⟩++SQ++⟨#[244]⟩=RR at *
      have hrr:(SX.toList == RR.toList)=true:=by rw [HXE.out];simp
      clear hR
      go_wp2_with fail
      rw [C4.out]
      simp only [Result.andThen]
      rw [Oper.upon_value]
      go_wp2_with fail
      refine (AW.out _ H6.out).mono ?_
      rintro r w9 ⟨rfl,hb9⟩
      have HB9:=Lib.hid hb9
      clear hb9
      go_wp2_with fail
      go_ret
      exact BoolBelow.mk rfl HB9.out
    | true =>
      rw [hsl] at hless HXE
      simp only [if_true] at HXE
      clear hsl
      go_wp2_with fail
      rw [C6.out]
      simp only [Result.andThen]
      rw [Oper.upon_value]
      go_wp2_with fail
      rw [C5.out]
      simp only [Result.andThen]
      rw [Oper.upon_value]
      generalize hR:(⟨#[162]⟩:ByteArray)++SP++⟨#[246]⟩++SQ++⟨#[244]⟩=RR at *
      clear hR
      go_upto_region 12 with fail
      generalize hR:(⟨#[162]⟩:ByteArray)++SQ++⟨#[244]⟩++SP++⟨#[246]⟩=R2 at *
      have hrr:(SX.toList == R2.toList)=true:=by rw [HXE.out];simp
      clear hR
      go_wp2_with fail
      rw [C4.out]
      simp only [Result.andThen]
      rw [Oper.upon_value]
      go_wp2_with fail
      refine (AW.out _ H6.out).mono ?_
      rintro r w9 ⟨rfl,hb9⟩
      have HB9:=Lib.hid hb9
      clear hb9
      go_wp2_with fail
      go_ret
      exact BoolBelow.mk rfl HB9.out
theorem cborOrder_awake (a b:ByteArray) (w:World) (h:300<a.size∨(a.size≤300∧300<b.size)∨(a.size≤300∧b.size≤300∧a.toList=b.toList)) (hU:UT w) (hT:DB w) :
    Calls Tryz.prog 7 #[.string a,.string b] w (BoolBelow true w):=by
  have AW:=Lib.hid (awake10_any w hU hT)
  clear hU hT
  rcases h with h | ⟨h1,h⟩ | ⟨h1,h2,h⟩
  · have e1:decide ((300:Int)<(a.size:Int))=true:=decide_eq_true (by omega)
    clear h
    go_enter Tryz.func7,Tryz.ntmps7
    go_wp2_with fail
    refine AW.out.mono ?_
    rintro r w9 ⟨rfl,hb9⟩
    have HB9:=Lib.hid hb9
    clear hb9
    go_wp2_with fail
    go_ret
    exact BoolBelow.mk rfl HB9.out
  · have e1:decide ((300:Int)<(a.size:Int))=false:=decide_eq_false (by omega)
    have e2:decide ((300:Int)<(b.size:Int))=true:=decide_eq_true (by omega)
    clear h h1
    go_enter Tryz.func7,Tryz.ntmps7
    go_wp2_with fail
    refine AW.out.mono ?_
    rintro r w9 ⟨rfl,hb9⟩
    have HB9:=Lib.hid hb9
    clear hb9
    go_wp2_with fail
    go_ret
    exact BoolBelow.mk rfl HB9.out
  · have e1:decide ((300:Int)<(a.size:Int))=false:=decide_eq_false (by omega)
    have e2:decide ((300:Int)<(b.size:Int))=false:=decide_eq_false (by omega)
    have e3:(a.toList == b.toList)=true:=by rw [beq_iff_eq];exact h
    clear h h1 h2
    go_enter Tryz.func7,Tryz.ntmps7
    go_wp2_with fail
    refine AW.out.mono ?_
    rintro r w9 ⟨rfl,hb9⟩
    have HB9:=Lib.hid hb9
    clear hb9
    go_wp2_with fail
    go_ret
    exact BoolBelow.mk rfl HB9.out
theorem cborOrder_walk (a b:ByteArray) (w:World) (ha:a.size≤maxLen) (hb:b.size≤maxLen) (hU:UT w) (hT:DB w) :
    Calls Tryz.prog 7 #[.string a,.string b] w (BoolBelow true w):=by
  by_cases h1:a.size≤300
  · by_cases h2:b.size≤300
    · by_cases h3:a.toList=b.toList
      · exact cborOrder_awake a b w (.inr (.inr ⟨h1,h2,h3⟩)) hU hT
      · exact cborOrder_main a b w h1 h2 h3 hU hT
    · exact cborOrder_awake a b w (.inr (.inl ⟨h1,by omega⟩)) hU hT
  · exact cborOrder_awake a b w (.inl (by omega)) hU hT
end Go.Proofs.YtnacbakcalcgaaaGreatDoor
namespace Go.Proofs.YtnacbakcalcgaaaGreatDoor
open Go.ChangeShapes Go.WideShapes Go.ChangeAt Go.RowKit Go.Shelf
theorem own:ownKnob Tryz.prog.godebug=none:=by kernel_rfl
def ren8:Go.Shelf.Ren:=⟨fun n=>n,fun | 5=>5 | 119=>222 | 138=>224 | 139=>225 | n=>n,fun | 3=>1 | 4=>2 | n=>n⟩
theorem types8:U8Types Tryz.prog ren8:={ t5:=Tryz.underlying5,t119:=Tryz.underlying222,t138:=Tryz.underlying224,t139:=Tryz.underlying225 }
theorem extra8:U8Extra Tryz.prog ren8:={ n3:=by kernel_rfl,n4:=by kernel_rfl,y3:=by kernel_rfl,y4:=by kernel_rfl,c5:=by kernel_rfl,c119:=by kernel_rfl,c138:=by kernel_rfl }
theorem first_data:Rows.laid_unicode_utf8_first=Lib.firstData:=by kernel_rfl
theorem accept_data:(Rows.laid_unicode_utf8_acceptRanges:DataW Unit)=Lib.acceptData:=by kernel_rfl
theorem ut_of_laid {l:List (String × DataW Unit)} {W:World} (h:laidMet Tryz.prog l W) (h1:("unicode/utf8.first",Rows.laid_unicode_utf8_first)∈l) (h2:("unicode/utf8.acceptRanges",Rows.laid_unicode_utf8_acceptRanges)∈l):UT W:=by
  have r1:=Lib.laidMet.reads h h1
  have r2:=Lib.laidMet.reads h h2
  rw [first_data] at r1
  rw [accept_data] at r2
  exact utf8Tabs_of_readsT types8 extra8 r1 r2
end Go.Proofs.YtnacbakcalcgaaaGreatDoor
namespace Go.Proofs.YtnacbakcalcgaaaGreatDoor
open Go.ChangeShapes Go.WideShapes Go.ChangeAt Go.RowKit
def bruTab:List Int:=List.map (fun n:Nat=>(n:Int)) Lib.deBruijn32tab
theorem g_bru:Tryz.prog.globalNamed "math/bits.deBruijn32tab" = some 0:=by kernel_rfl
theorem g_bruT:(Tryz.prog.globals[0]?).map (·.type)=some 218:=by kernel_rfl
theorem bru_data:(Rows.laid_math_bits_deBruijn32tab:DataW Unit)=Lib.tabData .u8 bruTab:=by kernel_rfl
theorem db_of_laid {l:List (String × DataW Unit)} {W:World} (h:laidMet Tryz.prog (("math/bits.deBruijn32tab",Rows.laid_math_bits_deBruijn32tab)::l) W):DB W:=by
  rw [bru_data] at h
  have ht:=Lib.tabIs_of_head g_bru g_bruT Tryz.underlying218 Tryz.underlying5 (by kernel_rfl) (by kernel_rfl) h
  intro j hj
  unfold Lib.TabIs World.var? at ht
  rw [g_bru] at ht
  simp only [Option.bind_some] at ht
  split at ht
  · rename_i cs t0 f0 hb
    simp only [Option.some.injEq] at ht
    subst ht
    simp only [World.cell?,hb]
    have hl:Lib.deBruijn32tab.length=32:=by decide
    simp [bruTab,List.getD,show j<Lib.deBruijn32tab.length by omega]
  · cases ht
end Go.Proofs.YtnacbakcalcgaaaGreatDoor
