/- Texts of the claim. -/
import Derived.Test.YtnacbakcalcgaaaGreatDoorHC
set_option linter.unusedVariables false
set_option linter.unusedSimpArgs false
set_option maxHeartbeats 16000000
set_option maxRecDepth 100000
namespace Go.Proofs.YtnacbakcalcgaaaGreatDoor
open Go.RowKit Go.Shelf
structure NewNum (B:Nat) (W:World) (ng:Bool) (a:Option Addr) (n c:Nat) (xs:List Nat) (x:Int):Prop where
  len:xs.length=n
  cap:n≤c
  ok:Okl xs
  chk:chkB ng xs x=true
  rd:Rd W a xs
  loc:∀ ad,a=some ad→B≤ad.block∧ad.block<W.heap.size
  sm:xs.length≤6
def MkPost (w:World) (r:Ending) (w':World):Prop :=
  ∃ ng a n c xs x ok,r=.returned (.tuple #[.agg #[.bool ng,.slice a n c,.int .i64 x],.bool ok])∧NewNum w.heap.size w' ng a n c xs x∧Below w.heap.size w w'
def NumPost (w:World) (r:Ending) (w':World):Prop :=
  ∃ ng a n c xs x,r=.returned (.agg #[.bool ng,.slice a n c,.int .i64 x])∧NewNum w.heap.size w' ng a n c xs x∧Below w.heap.size w w'
theorem newNum_zero (B:Nat) (W:World):NewNum B W false none 0 0 [] 0:=⟨rfl,Nat.le_refl _,Okl.nil,rfl,Rd.nil _ _,nofun,Nat.zero_le _⟩
theorem NewNum.on {B:Nat} {W W':World} {ng:Bool} {a:Option Addr} {n c:Nat} {xs:List Nat} {x:Int} (h:NewNum B W ng a n c xs x) (hb:Below W.heap.size W W'):NewNum B W' ng a n c xs x :=
  ⟨h.len,h.cap,h.ok,h.chk,h.rd.below hb,fun ad e=>⟨(h.loc ad e).1,Nat.lt_of_lt_of_le (h.loc ad e).2 hb.size⟩,h.sm⟩
theorem NewNum.mono {B B':Nat} {W:World} {ng:Bool} {a:Option Addr} {n c:Nat} {xs:List Nat} {x:Int} (h:NewNum B W ng a n c xs x) (hb:B'≤B):NewNum B' W ng a n c xs x :=
  ⟨h.len,h.cap,h.ok,h.chk,h.rd,fun ad e=>⟨Nat.le_trans hb (h.loc ad e).1,(h.loc ad e).2⟩,h.sm⟩
theorem NewNum.but {B g:Nat} {W W':World} {ng:Bool} {a:Option Addr} {n c:Nat} {xs:List Nat} {x:Int} (h:NewNum B W ng a n c xs x) (hg:g<B) (hs:W.heap.size≤W'.heap.size) (hk:∀ k,k<W.heap.size→k ≠ g→W'.heap[k]? = W.heap[k]?):NewNum B W' ng a n c xs x :=
  ⟨h.len,h.cap,h.ok,h.chk,by
    intro i hi
    obtain ⟨b,o,e,hlt,hc⟩:=h.rd i hi
    have:=h.loc _ e
    exact ⟨b,o,e,Nat.lt_of_lt_of_le hlt hs,by rw [World.cell?_of_block (w:=W) (hk b hlt (by simp at this;omega))];exact hc⟩,fun ad e=>⟨(h.loc ad e).1,Nat.lt_of_lt_of_le (h.loc ad e).2 hs⟩,h.sm⟩
theorem newNum_own {B:Nat} {W:World} {v:Value} {m:Nat} {ng:Bool} {x:Int} (h:Own B W v (limbs m)) (hc:chkB ng (limbs m) x=true) (hs:(limbs m).length≤6):∃ a n c,v=.slice a n c∧n=(limbs m).length∧NewNum B W ng a n c (limbs m) x:=by
  obtain ⟨ad,cap,e,h1,h2,h3⟩:=h.view
  exact ⟨ad,_,cap,e,rfl,rfl,h1,h.1,hc,h2,h3,hs⟩
theorem mk_any (neg:Bool) (ad:Option Addr) (n cap:Nat) (xs:List Nat) (e:Int) (w:World) (hn:xs.length=n) (hcap:n≤cap) (hm:n≤6) (ho:Okl xs) (hr:Rd w ad xs) (he1:-1000000≤e) (he2:e≤1000000) :
    Calls Tryz.prog 28 #[.bool neg,.slice ad n cap,.int .i64 e] w (MkPost w):=by
  have hb1:Below w.heap.size w (w.alloc (.cells #[.bool false,.slice none 0 0,.int .i64 0] 25)):=(Below.refl _ _).alloc (Nat.le_refl _) _
  have K:=Lib.hid (refTrim_any ad n cap xs _ hn hcap (by omega) ho (hr.below hb1))
  have H1:=Lib.hid hb1
  have hsz:(w.alloc (.cells #[.bool false,.slice none 0 0,.int .i64 0] 25)).heap.size=w.heap.size+1:=by simp
  have HSZ:=Lib.hid hsz
  have hval6:val xs<B32 ^ 6:=Nat.lt_of_lt_of_le (val_lt ho) (Nat.pow_le_pow_right (by rw [B32_eq];decide) (by omega))
  clear hb1 ho hr hn hsz
  go_enter Tryz.func28,Tryz.ntmps28
  go_wp2_with fail
  refine K.out.mono ?_
  rintro r w1 ⟨t,m,k,rfl,hv,hb,q1,q2,q3,q4⟩
  have HV:=Lib.hid hv
  obtain ⟨hc,hf⟩:=bcell hb
  have hz:w.heap.size<w1.heap.size:=by have:=hb.size;simp at this;omega
  have HB:=Lib.hid (H1.out.trans (hb.mono H1.out.size))
  have y0:w1.cell? ⟨w.heap.size,0,none⟩=some (.bool false):=by rw [hc _ _ (by simp)];simp
  have y1:w1.cell? ⟨w.heap.size,1,none⟩=some (.slice none 0 0):=by rw [hc _ _ (by simp)];simp
  have y2:w1.cell? ⟨w.heap.size,2,none⟩=some (.int .i64 0):=by rw [hc _ _ (by simp)];simp
  have f0:w1.frozen? ⟨w.heap.size,0,none⟩=false:=by rw [hf _ _ (by simp)];simp
  have f1:w1.frozen? ⟨w.heap.size,1,none⟩=false:=by rw [hf _ _ (by simp)];simp
  have f2:w1.frozen? ⟨w.heap.size,2,none⟩=false:=by rw [hf _ _ (by simp)];simp
  clear hc hf hv
  have HBUT:=Lib.hid (fun (v0 v1 v2:Value)=>(show But w.heap.size w1 (((w1.setCell ⟨w.heap.size,0,none⟩ v0).setCell ⟨w.heap.size,1,none⟩ v1).setCell ⟨w.heap.size,2,none⟩ v2) from (((But.refl _ _).setCell _ _).setCell _ _).setCell _ _))
  have HEND:=Lib.hid (fun (v0 v1 v2:Value)=>(show Below w.heap.size w (((w1.setCell ⟨w.heap.size,0,none⟩ v0).setCell ⟨w.heap.size,1,none⟩ v1).setCell ⟨w.heap.size,2,none⟩ v2) from HB.out.trans ((HBUT.out v0 v1 v2).below (Nat.le_refl _) (Nat.le_of_lt hz))))
  have HM:=Lib.hid (fun (h1:m ≠ 0)=>(show m % 10 ≠ 0 from by
    refine q3 (fun h0=>h1 ?_)
    have hk:=q2 h0
    rw [hk,tenN_zero] at q1
    omega))
  have HNIL:=Lib.hid (fun (h1:m ≠ 0)=>(show (limbs m).length ≠ 0 from fun h=>h1 ((limbs_nil_iff m).1 (List.eq_nil_of_length_eq_zero h))))
  have q4':(k:Int)≤400000000:=by omega
  have HS6:Hid ((limbs m).length≤6):=Lib.hid (limbs_length_le (Nat.lt_of_le_of_lt (by rw [q1];exact Nat.le_mul_of_pos_right _ (tenN_pos k)) hval6))
  clear hb q1 q2 q3 q4 HSZ hval6
  by_cases h0:m=0
  · subst h0
    have e0:(limbs 0).length=0:=by rw [limbs_zero];rfl
    obtain ⟨a,n',c,rfl,en,hnew⟩:=newNum_own (ng:=false) (x:=0) HV.out (by rw [limbs_zero];rfl) HS6.out
    rw [e0] at en
    subst en
    clear hnew HV e0
    go_wp2
    refine bodyPost_ret (v:=.tuple #[.agg #[.bool false,.slice none 0 0,.int .i64 0],.bool true]) (by simp [results,Tryz.results28,go_sem,y0,y1,y2]) rfl ⟨false,none,0,0,[],0,true,rfl,newNum_zero _ _,HEND.out _ _ _⟩
  · have hm10:=HM.out h0
    have hnz:=HNIL.out h0
    by_cases hroom:(limbs m).length≤90∧-1200≤e+(k:Int)∧e+(k:Int)≤1200
    · obtain ⟨a,n',c,rfl,en,hnew⟩:=newNum_own (ng:=neg) (x:=e+(k:Int)) HV.out (chkB_mk hm10 hroom.1 hroom.2.1 hroom.2.2) HS6.out
      obtain ⟨r1,r2,r3⟩:=hroom
      have HNEW:=Lib.hid (fun (v0 v1 v2:Value)=>(NewNum.mono (B':=w.heap.size) (hnew.but (g:=w.heap.size) (by simp) (HBUT.out v0 v1 v2).size (fun k h1 h2=>(HBUT.out v0 v1 v2).block k h1 h2)) (by simp)))
      clear hnew HV
      generalize hn':(limbs m).length=n'' at *
      subst en
      have HN:=Lib.hid hn';clear hn'
      have hsum:IntKind.i64.wrap (e+(k:Int))=e+(k:Int):=IntWalk.i64_in _ (by omega)
      have g0:((n':Int) == 0)=false:=by rw [beq_eq_false_iff_ne];omega
      have g1:¬ ((90:Int)<(n':Int)):=by omega
      have g2:¬ (e < -1099511627776):=by omega
      have g3:¬ (1099511627776<e):=by omega
      have g4:¬ (1099511627776<(k:Int)):=by omega
      have g5:¬ (e+(k:Int) < -1200):=by omega
      have g6:¬ (1200<e+(k:Int)):=by omega
      clear hnz hm10 HNIL HM
      go_wp2_with fail
      refine bodyPost_ret (v:=.tuple #[.agg #[.bool neg,.slice a n' c,.int .i64 (e+(k:Int))],.bool true]) (by simp [results,Tryz.results28,go_sem,y0,y1,y2]) rfl ⟨neg,a,n',c,limbs m,e+(k:Int),true,rfl,HNEW.out _ _ _,HEND.out _ _ _⟩
    · obtain ⟨a,n',c,hv,en,_,_,_⟩:∃ a n' c,t=.slice a n' c∧n'=(limbs m).length∧True∧True∧True:=by
        obtain ⟨ad,cap,e,_⟩:=HV.out.view
        exact ⟨ad,_,cap,e,rfl,trivial,trivial,trivial⟩
      subst hv
      have HNO:=Lib.hid hroom;clear hroom HV
      generalize hn':(limbs m).length=n'' at *
      subst en
      have HN:=Lib.hid hn';clear hn'
      have hsum:IntKind.i64.wrap (e+(k:Int))=e+(k:Int):=IntWalk.i64_in _ (by omega)
      have g0:((n':Int) == 0)=false:=by rw [beq_eq_false_iff_ne];omega
      have g2:¬ (e < -1099511627776):=by omega
      have g3:¬ (1099511627776<e):=by omega
      have g4:¬ (1099511627776<(k:Int)):=by omega
      clear hnz hm10 HNIL HM
      by_cases c1:(90:Int)<(n':Int)
      · go_wp2_with fail
        exact bodyPost_ret (v:=.tuple #[.agg #[.bool false,.slice none 0 0,.int .i64 0],.bool false]) (by simp [results,Tryz.results28,go_sem,y0,y1,y2]) rfl ⟨false,none,0,0,[],0,false,rfl,newNum_zero _ _,HEND.out _ _ _⟩
      · by_cases c2:e+(k:Int) < -1200
        · go_wp2_with fail
          exact bodyPost_ret (v:=.tuple #[.agg #[.bool false,.slice none 0 0,.int .i64 0],.bool false]) (by simp [results,Tryz.results28,go_sem,y0,y1,y2]) rfl ⟨false,none,0,0,[],0,false,rfl,newNum_zero _ _,HEND.out _ _ _⟩
        · have g6:1200<e+(k:Int):=by have:=HNO.out;omega
          go_wp2_with fail
          exact bodyPost_ret (v:=.tuple #[.agg #[.bool false,.slice none 0 0,.int .i64 0],.bool false]) (by simp [results,Tryz.results28,go_sem,y0,y1,y2]) rfl ⟨false,none,0,0,[],0,false,rfl,newNum_zero _ _,HEND.out _ _ _⟩
theorem newNum_end {w w1:World} {ng:Bool} {a:Option Addr} {n c:Nat} {xs:List Nat} {x:Int} (h:NewNum (w.heap.size+1) w1 ng a n c xs x) (hb:Below w.heap.size w w1) (hz:w.heap.size<w1.heap.size) (v0 v1 v2:Value) (o:Obj) :
    NumPost w (.returned (.agg #[.bool ng,.slice a n c,.int .i64 x])) ((((w1.setCell ⟨w.heap.size,0,none⟩ v0).setCell ⟨w.heap.size,1,none⟩ v1).setCell ⟨w.heap.size,2,none⟩ v2).alloc o):=by
  have hbut:But w.heap.size w1 (((w1.setCell ⟨w.heap.size,0,none⟩ v0).setCell ⟨w.heap.size,1,none⟩ v1).setCell ⟨w.heap.size,2,none⟩ v2):=(((But.refl _ _).setCell _ _).setCell _ _).setCell _ _
  have h2:=(h.but (g:=w.heap.size) (by omega) hbut.size (fun k h1 h2=>hbut.block k h1 h2)).mono (B':=w.heap.size) (by omega)
  have h3:=hb.trans (hbut.below (Nat.le_refl _) (Nat.le_of_lt hz))
  have h4:=(Below.refl (((w1.setCell ⟨w.heap.size,0,none⟩ v0).setCell ⟨w.heap.size,1,none⟩ v1).setCell ⟨w.heap.size,2,none⟩ v2).heap.size _).alloc (Nat.le_refl _) o
  exact ⟨ng,a,n,c,xs,x,rfl,h2.on h4,h3.trans (h4.mono h3.size)⟩
theorem of_new (v:Int) (hv:-4611686018427387904≤v∧v≤4611686018427387904) (w:World):Calls Tryz.prog 23 #[.int .i64 v] w (NumPost w):=by
  obtain ⟨k,hk⟩:∃ k,v.natAbs=k:=⟨_,rfl⟩
  have hk64:k<18446744073709551616:=by omega
  have hb1:=below_box w #[.bool false,.slice none 0 0,.int .i64 0] 25
  have hl1:k % 4294967296<B32:=by rw [B32_eq];omega
  have hl2:k / 4294967296<B32:=by rw [B32_eq];omega
  have h2:=((Ctx.begin w).step hb1).lits2 (Okl.cons hl1 (Okl.cons hl2 Okl.nil)) rfl 2 rfl #[.int .u32 ((k:Int) % 4294967296),.int .u32 ((k:Int) / 4294967296)] (by simp [lv])
  have hg:=h2.get 0 rfl
  obtain ⟨ad,cap,e1,e2,_,e4,e5,_⟩:=hg
  cases e1
  have KM:=Lib.hid (mk_any (decide (v<0)) _ _ _ _ 0 _ rfl e2 (by simp) e4 e5 (by decide) (by decide))
  have H2:=Lib.hid h2.below
  clear h2 hb1 e2 e4 e5
  by_cases hs:v<0
  · rw [decide_eq_true hs] at KM
    have HD:=Lib.hid (decide_eq_true hs)
    obtain rfl:v = -(k:Int):=by omega
    clear hk
    have hw1:IntKind.u64.wrap (-IntKind.u64.wrap (-(k:Int)))=(k:Int):=by
      have hx:∀ x:Int,IntKind.u64.wrap x=x % 18446744073709551616:=fun x=>rfl
      rw [hx,hx];omega
    have hw2:(k:Int) / 4294967296 % 4294967296=(k:Int) / 4294967296:=by omega
    go_enter Tryz.func23,Tryz.ntmps23
    go_wp2_with fail
    refine KM.out.mono ?_
    rintro r w1 ⟨ng,a,n,c,xs,x,ok,rfl,hnew,hb⟩
    obtain ⟨hc,hf⟩:=bcell hb
    have hz:w.heap.size<w1.heap.size:=by have:=hb.size;simp at this;omega
    have HN:=Lib.hid (hnew.mono (B':=w.heap.size+1) (by simp));have HB:=Lib.hid (H2.out.trans (hb.mono H2.out.size))
    clear hnew hb
    go_wp2
    have d0:w1.cell? ⟨w.heap.size,0,none⟩=some (.bool false):=by rw [hc _ _ (by simp <;> omega)];simp [World.cell?_alloc_lt]
    have d1:w1.cell? ⟨w.heap.size,1,none⟩=some (.slice none 0 0):=by rw [hc _ _ (by simp <;> omega)];simp [World.cell?_alloc_lt]
    have d2:w1.cell? ⟨w.heap.size,2,none⟩=some (.int .i64 0):=by rw [hc _ _ (by simp <;> omega)];simp [World.cell?_alloc_lt]
    obtain ⟨g0,g1,g2⟩:=box3_cells (w:=w1) (g:=w.heap.size) hz d0 d1 d2 (.bool ng) (.slice a n c) (.int .i64 x) #[.bool ng,.slice a n c,.int .i64 x] 25
    refine bodyPost_ret (v:=.agg #[.bool ng,.slice a n c,.int .i64 x]) (by simp [results,Tryz.results23,go_sem,g0,g1,g2]) rfl ?_
    exact newNum_end HN.out HB.out hz _ _ _ _
  · rw [decide_eq_false hs] at KM
    have HD:=Lib.hid (decide_eq_false hs)
    obtain rfl:v=(k:Int):=by omega
    clear hk
    go_enter Tryz.func23,Tryz.ntmps23
    go_wp2_with fail
    refine KM.out.mono ?_
    rintro r w1 ⟨ng,a,n,c,xs,x,ok,rfl,hnew,hb⟩
    obtain ⟨hc,hf⟩:=bcell hb
    have hz:w.heap.size<w1.heap.size:=by have:=hb.size;simp at this;omega
    have HN:=Lib.hid (hnew.mono (B':=w.heap.size+1) (by simp));have HB:=Lib.hid (H2.out.trans (hb.mono H2.out.size))
    clear hnew hb
    go_wp2
    have d0:w1.cell? ⟨w.heap.size,0,none⟩=some (.bool false):=by rw [hc _ _ (by simp <;> omega)];simp [World.cell?_alloc_lt]
    have d1:w1.cell? ⟨w.heap.size,1,none⟩=some (.slice none 0 0):=by rw [hc _ _ (by simp <;> omega)];simp [World.cell?_alloc_lt]
    have d2:w1.cell? ⟨w.heap.size,2,none⟩=some (.int .i64 0):=by rw [hc _ _ (by simp <;> omega)];simp [World.cell?_alloc_lt]
    obtain ⟨g0,g1,g2⟩:=box3_cells (w:=w1) (g:=w.heap.size) hz d0 d1 d2 (.bool ng) (.slice a n c) (.int .i64 x) #[.bool ng,.slice a n c,.int .i64 x] 25
    refine bodyPost_ret (v:=.agg #[.bool ng,.slice a n c,.int .i64 x]) (by simp [results,Tryz.results23,go_sem,g0,g1,g2]) rfl ?_
    exact newNum_end HN.out HB.out hz _ _ _ _
theorem newNum_end0 {w w1:World} {ng:Bool} {a:Option Addr} {n c:Nat} {xs:List Nat} {x:Int} (h:NewNum (w.heap.size+1) w1 ng a n c xs x) (hb:Below w.heap.size w w1) (hz:w.heap.size<w1.heap.size) (v0 v1 v2:Value) :
    NumPost w (.returned (.agg #[.bool ng,.slice a n c,.int .i64 x])) (((w1.setCell ⟨w.heap.size,0,none⟩ v0).setCell ⟨w.heap.size,1,none⟩ v1).setCell ⟨w.heap.size,2,none⟩ v2):=by
  have hbut:But w.heap.size w1 (((w1.setCell ⟨w.heap.size,0,none⟩ v0).setCell ⟨w.heap.size,1,none⟩ v1).setCell ⟨w.heap.size,2,none⟩ v2):=(((But.refl _ _).setCell _ _).setCell _ _).setCell _ _
  exact ⟨ng,a,n,c,xs,x,rfl,(h.but (g:=w.heap.size) (by omega) hbut.size (fun k h1 h2=>hbut.block k h1 h2)).mono (B':=w.heap.size) (by omega),hb.trans (hbut.below (Nat.le_refl _) (Nat.le_of_lt hz))⟩
theorem mk_lit (neg:Bool) (xs:List Nat) (cs:Array Value) (hcs:cs=(xs.map lv).toArray) (hx:Okl xs) (n:Nat) (hn:xs.length=n) (hm:n≤6) (e:Int) (he1:-1000000≤e) (he2:e≤1000000) (w:World) (o:Obj) :
    Calls Tryz.prog 28 #[.bool neg,.slice (some ⟨w.heap.size+1,0,none⟩) n n,.int .i64 e] ((w.alloc o).alloc (.cells cs 51)) fun r w' =>
      ∃ ng a n c xs x ok,r=.returned (.tuple #[.agg #[.bool ng,.slice a n c,.int .i64 x],.bool ok])∧NewNum (w.heap.size+1) w' ng a n c xs x∧Below w.heap.size w w'∧Below ((w.alloc o).alloc (.cells cs 51)).heap.size ((w.alloc o).alloc (.cells cs 51)) w':=by
  have hb0:=(Below.refl w.heap.size w).alloc (Nat.le_refl _) o
  have hb1:=hb0.alloc hb0.size (.cells cs 51)
  have h2:=((Ctx.begin w).step hb0).lits2 hx rfl n hn cs hcs
  have hg:=h2.get 0 rfl
  obtain ⟨ad,cap,e1,e2,_,e4,e5,_⟩:=hg
  rw [hn] at e1 e2
  cases e1
  refine (mk_any neg _ _ _ _ e _ hn (Nat.le_refl _) (by omega) e4 e5 he1 he2).mono ?_
  rintro r w' ⟨ng,a,n',c,xs',x,ok,rfl,hnew,hb⟩
  exact ⟨ng,a,n',c,xs',x,ok,rfl,hnew.mono (by simp),hb1.trans (hb.mono hb1.size),hb⟩
theorem number_any (v:Nat) (hv:v≤1073741824) (w:World):Calls Tryz.prog 78 #[.int .i64 (v:Int)] w (NumPost w):=by
  have hz:(v:Int)≤1073741824:=by omega
  have h5:v % 5=0∨v % 5=1∨v % 5=2∨v % 5=3∨v % 5=4:=by omega
  rcases h5 with h5 | h5 | h5 | h5 | h5
  · have h0:(v:Int) % 5=0:=by omega
    have KM:=Lib.hid (of_new ((v:Int) / 5 % 60 - 20) (by omega) (w.alloc (.cells #[.bool false,.slice none 0 0,.int .i64 0] 25)))
    have HA:=Lib.hid (below_box w #[.bool false,.slice none 0 0,.int .i64 0] 25)
    go_enter Tryz.func78,Tryz.ntmps78
    go_wp2_with fail
    refine KM.out.mono ?_
    rintro r w1 ⟨ng,a,n,c,xs,x,rfl,hnew,hbx⟩
    have hz:w.heap.size<w1.heap.size:=by have:=hbx.size;simp at this;omega
    obtain ⟨hc,hf⟩:=bcell hbx
    have hb:=HA.out.trans (hbx.mono HA.out.size)
    rw [World.size_alloc] at hnew
    have HN:=Lib.hid hnew;have HB:=Lib.hid hb
    clear hnew hb hbx
    go_wp2
    have d0:w1.cell? ⟨w.heap.size,0,none⟩=some (.bool false):=by rw [hc _ _ (by simp <;> omega)];simp [World.cell?_alloc_lt]
    have d1:w1.cell? ⟨w.heap.size,1,none⟩=some (.slice none 0 0):=by rw [hc _ _ (by simp <;> omega)];simp [World.cell?_alloc_lt]
    have d2:w1.cell? ⟨w.heap.size,2,none⟩=some (.int .i64 0):=by rw [hc _ _ (by simp <;> omega)];simp [World.cell?_alloc_lt]
    clear hc hf
    refine bodyPost_ret (v:=.agg #[.bool ng,.slice a n c,.int .i64 x]) (by simp [results,Tryz.results78,go_sem,d0,d1,d2]) rfl ?_
    exact newNum_end0 HN.out HB.out hz _ _ _
  · have h0:(v:Int) % 5=1:=by omega
    have KM:=Lib.hid (mk_lit ((v:Int) / 5 % 2 == 1) [v / 10 % 2000] #[.int .u32 ((v:Int) / 10 % 2000)] rfl (Okl.cons (by rw [B32_eq];omega) Okl.nil) 1 rfl (by decide) ((v:Int) / 7 % 9 - 5) (by omega) (by omega) w (.cells #[.bool false,.slice none 0 0,.int .i64 0] 25))
    go_enter Tryz.func78,Tryz.ntmps78
    go_wp2_with fail
    refine KM.out.mono ?_
    rintro r w1 ⟨ng,a,n,c,xs,x,ok,rfl,hnew,hb,hbx⟩
    have hz:w.heap.size<w1.heap.size:=by have:=hbx.size;simp at this;omega
    obtain ⟨hc,hf⟩:=bcell hbx
    have HN:=Lib.hid hnew;have HB:=Lib.hid hb
    clear hnew hb hbx
    go_wp2
    have d0:w1.cell? ⟨w.heap.size,0,none⟩=some (.bool false):=by rw [hc _ _ (by simp <;> omega)];simp [World.cell?_alloc_lt]
    have d1:w1.cell? ⟨w.heap.size,1,none⟩=some (.slice none 0 0):=by rw [hc _ _ (by simp <;> omega)];simp [World.cell?_alloc_lt]
    have d2:w1.cell? ⟨w.heap.size,2,none⟩=some (.int .i64 0):=by rw [hc _ _ (by simp <;> omega)];simp [World.cell?_alloc_lt]
    clear hc hf
    obtain ⟨g0,g1,g2⟩:=box3_cells (w:=w1) (g:=w.heap.size) hz d0 d1 d2 (.bool ng) (.slice a n c) (.int .i64 x) #[.bool ng,.slice a n c,.int .i64 x] 25
    refine bodyPost_ret (v:=.agg #[.bool ng,.slice a n c,.int .i64 x]) (by simp [results,Tryz.results78,go_sem,g0,g1,g2]) rfl ?_
    exact newNum_end HN.out HB.out hz _ _ _ _
  · have h0:(v:Int) % 5=2:=by omega
    have KM:=Lib.hid (mk_lit (false) [v,v / 3,v % 7] #[.int .u32 (v:Int),.int .u32 ((v:Int) / 3),.int .u32 ((v:Int) % 7)] rfl (Okl.cons (by rw [B32_eq];omega) (Okl.cons (by rw [B32_eq];omega) (Okl.cons (by rw [B32_eq];omega) Okl.nil))) 3 rfl (by decide) (0) (by omega) (by omega) w (.cells #[.bool false,.slice none 0 0,.int .i64 0] 25))
    go_enter Tryz.func78,Tryz.ntmps78
    go_wp2_with fail
    refine KM.out.mono ?_
    rintro r w1 ⟨ng,a,n,c,xs,x,ok,rfl,hnew,hb,hbx⟩
    have hz:w.heap.size<w1.heap.size:=by have:=hbx.size;simp at this;omega
    obtain ⟨hc,hf⟩:=bcell hbx
    have HN:=Lib.hid hnew;have HB:=Lib.hid hb
    clear hnew hb hbx
    go_wp2
    have d0:w1.cell? ⟨w.heap.size,0,none⟩=some (.bool false):=by rw [hc _ _ (by simp <;> omega)];simp [World.cell?_alloc_lt]
    have d1:w1.cell? ⟨w.heap.size,1,none⟩=some (.slice none 0 0):=by rw [hc _ _ (by simp <;> omega)];simp [World.cell?_alloc_lt]
    have d2:w1.cell? ⟨w.heap.size,2,none⟩=some (.int .i64 0):=by rw [hc _ _ (by simp <;> omega)];simp [World.cell?_alloc_lt]
    clear hc hf
    obtain ⟨g0,g1,g2⟩:=box3_cells (w:=w1) (g:=w.heap.size) hz d0 d1 d2 (.bool ng) (.slice a n c) (.int .i64 x) #[.bool ng,.slice a n c,.int .i64 x] 25
    refine bodyPost_ret (v:=.agg #[.bool ng,.slice a n c,.int .i64 x]) (by simp [results,Tryz.results78,go_sem,g0,g1,g2]) rfl ?_
    exact newNum_end HN.out HB.out hz _ _ _ _
  · have h0:(v:Int) % 5=3:=by omega
    have KM:=Lib.hid (mk_lit ((v:Int) % 2 == 1) [5,v] #[.int .u32 5,.int .u32 (v:Int)] rfl (Okl.cons (by rw [B32_eq];omega) (Okl.cons (by rw [B32_eq];omega) Okl.nil)) 2 rfl (by decide) (-((v:Int) / 5 % 30)) (by omega) (by omega) w (.cells #[.bool false,.slice none 0 0,.int .i64 0] 25))
    go_enter Tryz.func78,Tryz.ntmps78
    go_wp2_with fail
    refine KM.out.mono ?_
    rintro r w1 ⟨ng,a,n,c,xs,x,ok,rfl,hnew,hb,hbx⟩
    have hz:w.heap.size<w1.heap.size:=by have:=hbx.size;simp at this;omega
    obtain ⟨hc,hf⟩:=bcell hbx
    have HN:=Lib.hid hnew;have HB:=Lib.hid hb
    clear hnew hb hbx
    go_wp2
    have d0:w1.cell? ⟨w.heap.size,0,none⟩=some (.bool false):=by rw [hc _ _ (by simp <;> omega)];simp [World.cell?_alloc_lt]
    have d1:w1.cell? ⟨w.heap.size,1,none⟩=some (.slice none 0 0):=by rw [hc _ _ (by simp <;> omega)];simp [World.cell?_alloc_lt]
    have d2:w1.cell? ⟨w.heap.size,2,none⟩=some (.int .i64 0):=by rw [hc _ _ (by simp <;> omega)];simp [World.cell?_alloc_lt]
    clear hc hf
    obtain ⟨g0,g1,g2⟩:=box3_cells (w:=w1) (g:=w.heap.size) hz d0 d1 d2 (.bool ng) (.slice a n c) (.int .i64 x) #[.bool ng,.slice a n c,.int .i64 x] 25
    refine bodyPost_ret (v:=.agg #[.bool ng,.slice a n c,.int .i64 x]) (by simp [results,Tryz.results78,go_sem,g0,g1,g2]) rfl ?_
    exact newNum_end HN.out HB.out hz _ _ _ _
  · have h0:(v:Int) % 5=4:=by omega
    have KM:=Lib.hid (of_new ((v:Int)) (by omega) (w.alloc (.cells #[.bool false,.slice none 0 0,.int .i64 0] 25)))
    have HA:=Lib.hid (below_box w #[.bool false,.slice none 0 0,.int .i64 0] 25)
    go_enter Tryz.func78,Tryz.ntmps78
    go_wp2_with fail
    refine KM.out.mono ?_
    rintro r w1 ⟨ng,a,n,c,xs,x,rfl,hnew,hbx⟩
    have hz:w.heap.size<w1.heap.size:=by have:=hbx.size;simp at this;omega
    obtain ⟨hc,hf⟩:=bcell hbx
    have hb:=HA.out.trans (hbx.mono HA.out.size)
    rw [World.size_alloc] at hnew
    have HN:=Lib.hid hnew;have HB:=Lib.hid hb
    clear hnew hb hbx
    go_wp2
    have d0:w1.cell? ⟨w.heap.size,0,none⟩=some (.bool false):=by rw [hc _ _ (by simp <;> omega)];simp [World.cell?_alloc_lt]
    have d1:w1.cell? ⟨w.heap.size,1,none⟩=some (.slice none 0 0):=by rw [hc _ _ (by simp <;> omega)];simp [World.cell?_alloc_lt]
    have d2:w1.cell? ⟨w.heap.size,2,none⟩=some (.int .i64 0):=by rw [hc _ _ (by simp <;> omega)];simp [World.cell?_alloc_lt]
    clear hc hf
    refine bodyPost_ret (v:=.agg #[.bool ng,.slice a n c,.int .i64 x]) (by simp [results,Tryz.results78,go_sem,d0,d1,d2]) rfl ?_
    exact newNum_end0 HN.out HB.out hz _ _ _
end Go.Proofs.YtnacbakcalcgaaaGreatDoor
