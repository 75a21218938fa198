/- Texts of the claim. -/
import Derived.Test.YtnacbakcalcgaaaGreatDoorVA
set_option linter.unusedVariables false
set_option linter.unusedSimpArgs false
set_option maxHeartbeats 2000000
set_option maxRecDepth 100000
namespace Go.Proofs.YtnacbakcalcgaaaGreatDoor
open Go.RowKit Go.Sort
structure BxZ (w:World) (g:Nat):Prop where
  lt:g<w.heap.size
  c0:w.cell? ⟨g,0,none⟩=some (.bool false)
  c1:w.cell? ⟨g,1,none⟩=some (.slice none 0 0)
  c2:w.cell? ⟨g,2,none⟩=some (.int .i64 0)
  f0:w.frozen? ⟨g,0,none⟩=false
  f1:w.frozen? ⟨g,1,none⟩=false
  f2:w.frozen? ⟨g,2,none⟩=false
theorem BxZ.step {w w':World} {g:Nat} (h:BxZ w g) (hb:Below w.heap.size w w'):BxZ w' g :=
  ⟨Nat.lt_of_lt_of_le h.lt hb.size,(hb.cell (p:=⟨g,0,none⟩) h.lt).trans h.c0,(hb.cell (p:=⟨g,1,none⟩) h.lt).trans h.c1,(hb.cell (p:=⟨g,2,none⟩) h.lt).trans h.c2,
    (hb.frozen (p:=⟨g,0,none⟩) h.lt).trans h.f0,(hb.frozen (p:=⟨g,1,none⟩) h.lt).trans h.f1,(hb.frozen (p:=⟨g,2,none⟩) h.lt).trans h.f2⟩
theorem BxZ.alloc {w:World} {g:Nat} (h:BxZ w g) (o:Obj):BxZ (w.alloc o) g:=h.step ((Below.refl _ _).alloc (Nat.le_refl _) _)
end Go.Proofs.YtnacbakcalcgaaaGreatDoor
namespace Go.Proofs.YtnacbakcalcgaaaGreatDoor
open Go.Shelf Go.RowKit Go.Lib

end Go.Proofs.YtnacbakcalcgaaaGreatDoor
namespace Go.Proofs.YtnacbakcalcgaaaGreatDoor
open Go.RowKit Go.Lib Go.Sort
theorem leaf_nodesC (k:Int) (b:Bool) (s:ByteArray):(leafT k b s).nodes=1:=by rw [MT.nodes_eq];rfl
end Go.Proofs.YtnacbakcalcgaaaGreatDoor
namespace Go.Proofs.YtnacbakcalcgaaaGreatDoor
open Go.RowKit Go.Shelf
theorem info_i32:(Tryz.prog.info? 21).map (fun i=>(i.zero,i.size,i.bytes))=some (some (.int .i32 0),1,4):=by kernel_rfl
theorem wpl_app (w:World) {ops:Array Oper} {rest:List Oper} {o:Oper} {a:Act} {Q:Exit→Act→World→Prop}
    (hg:o.guard=none) (s x:Operand) (hop:o.op=.call { callee:=.builtin .append,args:=#[s,x],argTypes:=#[180,180] })
    (B:Nat) (v:Value) (n:Nat) (xs:List Value) (hs:a.eval s=v) (hown:w.ownsRow B 21 1 v n xs) (g:Nat) (y:Int) (hx:a.eval x=.slice (some ⟨g,0,none⟩) 1 1) (hc:w.cell? ⟨g,0,none⟩=some (.int .i32 y))
    (hn:n≤1000000000) (hB:B≤w.heap.size)
    (h:∀ v' w',w'.ownsRow B 21 1 v' (n+1) (xs++[.int .i32 y])→w.grownBy w' v.ownBlock→wpList Tryz.prog ops Q rest (a.put o.dst v') w') :
    wpList Tryz.prog ops Q (o::rest) a w:=by
  obtain ⟨i0,hi,hz0,hz1,hz2⟩:=info_parts info_i32
  refine wpList_append_own w hg s x 180 hop B 21 i0 (.int .i32 0) 1 4 Tryz.underlying180 hi hz0 hz1 hz2 rfl (by decide) v n xs hs hown ⟨g,0,none⟩ 1 1 [.int .i32 y] hx rfl ?_ ?_ (by unfold maxLen;omega) (by omega) hB (fun v' w' h1 h2 _=>h v' w' h1 h2)
  · intro j u hj
    match j,hj with
    | 0,hj=>simp at hj;subst hj;simpa [Addr.add] using hc
  · intro u hu;simp at hu;subst hu;rfl
def rv (l:List Int):List Value:=l.map (Value.int .i32)
def RunesPost (l:List Int) (w:World) (e:Ending) (w':World):Prop :=
  ∃ v,e=.returned v∧w'.ownsRow w.heap.size 21 1 v l.length (rv l)∧Below w.heap.size w w'
def RR (s:ByteArray) (B IT:Nat) (w:World) (k:Nat) (v:Value) (wr:World):Prop :=
  ∃ pos acc,s.size - pos≤k∧acc++runesL (tailL s pos)=runesL s.data.toList∧acc.length≤pos∧pos≤s.size∧wr.ownsRow B 21 1 v acc.length (rv acc)∧wr.heap[IT]? = some (.stringIter s pos)∧Below B w wr
theorem own_below {w w':World} {B:Nat} {e:TypeId} {v:Value} {n:Nat} {xs:List Value} (h:w.ownsRow B e 1 v n xs) (hb:Below w.heap.size w w'):w'.ownsRow B e 1 v n xs:=by
  refine ⟨h.1,?_⟩
  rcases h.2 with h2 | ⟨g,cap,cur,rfl,hB,hg,rest⟩
  · exact .inl h2
  · refine .inr ⟨g,cap,cur,rfl,hB,?_,rest⟩
    rw [hb.block g (Array.getElem?_eq_some_iff.1 hg).1];exact hg
theorem iter_grown {w w':World} {B:Nat} {e:TypeId} {v:Value} {n:Nat} {xs:List Value} {IT:Nat} {s:ByteArray} {p:Nat} (hi:w.heap[IT]? = some (.stringIter s p)) (h:w.ownsRow B e 1 v n xs) (hg:w.grownBy w' v.ownBlock):w'.heap[IT]? = some (.stringIter s p):=by
  rw [hg.block IT (Array.getElem?_eq_some_iff.1 hi).1];exact hi
  intro e
  rcases h.2 with ⟨rfl,_⟩ | ⟨g,cap,cur,rfl,hB,hg,rest⟩
  · simp [Value.ownBlock] at e
  · simp [Value.ownBlock] at e;subst e;rw [hg] at hi;cases hi
theorem iter_alloc {w:World} {IT:Nat} {s:ByteArray} {p:Nat} (hi:w.heap[IT]? = some (.stringIter s p)) (o:Obj):(w.alloc o).heap[IT]? = some (.stringIter s p):=by
  rw [Lib.alloc_old w o IT (Array.getElem?_eq_some_iff.1 hi).1];exact hi
theorem RR.step {s:ByteArray} {B IT:Nat} {w wr w':World} {k pos:Nat} {acc:List Int} {v v':Value} {o:Obj} (hp:pos<s.size) (hk:s.size - pos≤k+1) (ha:acc++runesL (tailL s pos)=runesL s.data.toList) (hl:acc.length≤pos)
    (ho:wr.ownsRow B 21 1 v acc.length (rv acc)) (hi:wr.heap[IT]? = some (.stringIter s (pos+(runeL (tailL s pos)).2))) (hb:Below B w wr) (hB:B≤wr.heap.size)
    (h1:w'.ownsRow B 21 1 v' (acc.length+1) (rv acc++[.int .i32 (runeL (tailL s pos)).1])) (h2:(wr.alloc o).grownBy w' v.ownBlock):RR s B IT w k v' w':=by
  have hw:=runeL_width (tailL s pos) (tailL_ne hp)
  rw [tailL_length] at hw
  refine ⟨pos+(runeL (tailL s pos)).2,acc++[(runeL (tailL s pos)).1],by omega,?_,by simp;omega,by omega,?_,?_,?_⟩
  · rw [← ha,runesL_cons (tailL_ne hp),tailL_drop];simp
  · simpa [rv] using h1
  · exact iter_grown (iter_alloc hi o) (ho.alloc o) h2
  · exact (hb.alloc hB o).grown h2 (by simp;omega) (fun g hg=>(ho.lt g hg).1)
def Rk (k:IntKind) (w:World) (ad:Option Addr) (xs:List Int):Prop :=
  ∀ i,i<xs.length→∃ b o,ad=some ⟨b,o,none⟩∧b<w.heap.size∧w.cell? ⟨b,o+i,none⟩=some (.int k (xs.getD i 0))
theorem Rk.at {k:IntKind} {w:World} {b o:Nat} {xs:List Int} (h:Rk k w (some ⟨b,o,none⟩) xs) (i:Nat) (hi:i<xs.length) :
    w.cell? ⟨b,o+i,none⟩=some (.int k (xs.getD i 0)):=by
  obtain ⟨b',o',e,_,hc⟩:=h i hi
  cases e;exact hc
theorem Rk.nil (k:IntKind) (w:World) (ad:Option Addr):Rk k w ad []:=by intro i h;simp at h
theorem Rk.below {k:IntKind} {w w':World} {ad:Option Addr} {xs:List Int} (h:Rk k w ad xs) (hb:Below w.heap.size w w'):Rk k w' ad xs:=by
  intro i hi
  obtain ⟨b,o,e,hlt,hc⟩:=h i hi
  exact ⟨b,o,e,Nat.lt_of_lt_of_le hlt hb.size,by rw [hb.cell (p:=⟨b,o+i,none⟩) hlt];exact hc⟩
theorem own_rk {w:World} {B:Nat} {v:Value} {l:List Int} (h:w.ownsRow B 21 1 v l.length (rv l)) :
    ∃ ad cap,v=.slice ad l.length cap∧l.length≤cap∧Rk .i32 w ad l:=by
  rcases h.2 with ⟨rfl,h0⟩ | ⟨g,cap,cur,rfl,hB,hg,hc,rest⟩
  · have:l=[]:=List.eq_nil_of_length_eq_zero h0
    subst this
    exact ⟨none,0,rfl,Nat.le_refl _,Rk.nil _ _ _⟩
  · refine ⟨_,cap,rfl,hc,?_⟩
    intro i hi
    refine ⟨g,0,rfl,(Array.getElem?_eq_some_iff.1 hg).1,?_⟩
    have:=World.ownsRow.cells h (g:=g) rfl i (.int .i32 (l.getD i 0)) (by simp [rv,List.getD,hi])
    have hadd:(⟨g,0,none⟩:Addr).add i=⟨g,0+i,none⟩:=by unfold Addr.add;split <;> simp_all
    rw [hadd] at this;exact this
end Go.Proofs.YtnacbakcalcgaaaGreatDoor
namespace Go.Proofs.YtnacbakcalcgaaaGreatDoor
open Go.RowKit Go.Shelf Go.Lib
theorem bt_get8 (s:ByteArray) (k:Nat) (h:k<s.size):bt s.data.toList k=(s[k]'h).toNat:=by
  unfold bt;rw [← get!_list];rw [Utf8W.get!_of_lt s k h]
theorem and192a:∀ x:Fin 256,bits .and .u8 ((x.val:Nat):Int) 192=((x.val / 64*64:Nat):Int):=by decide
def contB (s:ByteArray) (k:Nat):Bool:=decide (k<s.size∧bt s.data.toList k / 64=2)
theorem cont_any (s:ByteArray) (k:Nat) (w:World) (hs:s.size≤maxLen) (hk:k≤maxLen) :
    Calls Tryz.prog 209 #[.string s,.int .i64 k] w fun e w'=>e=.returned (.bool (contB s k))∧w=w':=by
  unfold maxLen at hs hk
  by_cases h0:k<s.size
  · have h0z:(k:Int)<(s.size:Int):=by omega
    have hx:=and192a ⟨(s[k]'h0).toNat,(s[k]'h0).toNat_lt⟩
    simp only at hx
    have hc:contB s k=decide ((s[k]'h0).toNat / 64=2):=by
      unfold contB;rw [← bt_get8 s k h0];simp [h0]
    have HC:=Lib.hid hc
    clear hc
    generalize hX:(s[k]'h0)=x at *
    by_cases h2:x.toNat / 64=2
    · rw [h2] at hx
      have hC:=Lib.hid (show contB s k=true by rw [HC.out];exact decide_eq_true h2)
      clear HC h2
      go_enter Tryz.func209,Tryz.ntmps209
      go_wp2
      go_ret
      exact ⟨by rw [hC.out];rfl,rfl⟩
    · have hC:=Lib.hid (show contB s k=false by rw [HC.out];exact decide_eq_false h2)
      have hne:((x.toNat / 64*64:Nat):Int) ≠ 128:=by omega
      generalize x.toNat / 64*64=y at *
      have hneb:(((y:Nat):Int) == 128)=false:=by simpa using hne
      clear HC h2 hne
      go_enter Tryz.func209,Tryz.ntmps209
      go_wp2
      go_ret
      exact ⟨by rw [hC.out];rfl,rfl⟩
  · have h0z:¬ (k:Int)<(s.size:Int):=by omega
    have hC:=Lib.hid (show contB s k=false from decide_eq_false (by omega))
    go_enter Tryz.func209,Tryz.ntmps209
    go_wp2
    go_ret
    exact ⟨by rw [hC.out];rfl,rfl⟩
theorem and31:∀ x:Fin 256,bits .and .i32 ((x.val:Nat):Int) 31=((x.val:Nat):Int) % 32:=by decide
theorem and15:∀ x:Fin 256,bits .and .i32 ((x.val:Nat):Int) 15=((x.val:Nat):Int) % 16:=by decide
theorem and7i:∀ x:Fin 256,bits .and .i32 ((x.val:Nat):Int) 7=((x.val:Nat):Int) % 8:=by decide
def RunePost (r m:Int) (w:World) (e:Ending) (w':World):Prop:=e=.returned (.tuple #[.int .i32 r,.int .i64 m])∧∃ q,w'=w.drewN q
theorem refRune_one (s:ByteArray) (n:Nat) (w:World) (hs:s.size≤1000000) (hn:n<s.size) (x0:UInt8) (h0:s[n]'hn=x0) (hx:0≤x0.toNat∧x0.toNat<128) :
    Calls Tryz.prog 197 #[.string s,.int .i64 n] w (RunePost ((x0.toNat:Nat):Int) 1 w):=by
  have a1:¬ ((s.size:Int)≤(n:Int)):=by omega
  have a6:decide ((n:Int)<0)=false:=decide_eq_false (by omega)
  have l0:=x0.toNat_lt
  have e0:decide ((x0.toNat:Int)<128)=true:=decide_eq_true (by omega)
  have e1:decide ((194:Int)≤(x0.toNat:Int))=false:=decide_eq_false (by omega)
  have e2:decide ((x0.toNat:Int)<224)=true:=decide_eq_true (by omega)
  have e3:decide ((224:Int)≤(x0.toNat:Int))=false:=decide_eq_false (by omega)
  have e4:decide ((x0.toNat:Int)<240)=true:=decide_eq_true (by omega)
  have e5:decide ((240:Int)≤(x0.toNat:Int))=false:=decide_eq_false (by omega)
  have e6:decide ((x0.toNat:Int)<245)=true:=decide_eq_true (by omega)
  go_enter Tryz.func197,Tryz.ntmps197
  go_wp2
  go_ret2
  exact ⟨rfl,0,rfl⟩
theorem refRune_c (s:ByteArray) (n:Nat) (w:World) (hs:s.size≤1000000) (hn:n<s.size) (x0:UInt8) (h0:s[n]'hn=x0) (hx:128≤x0.toNat∧x0.toNat<194) :
    Calls Tryz.prog 197 #[.string s,.int .i64 n] w (RunePost (-1) 1 w):=by
  have a1:¬ ((s.size:Int)≤(n:Int)):=by omega
  have a6:decide ((n:Int)<0)=false:=decide_eq_false (by omega)
  have l0:=x0.toNat_lt
  have e0:decide ((x0.toNat:Int)<128)=false:=decide_eq_false (by omega)
  have e1:decide ((194:Int)≤(x0.toNat:Int))=false:=decide_eq_false (by omega)
  have e2:decide ((x0.toNat:Int)<224)=true:=decide_eq_true (by omega)
  have e3:decide ((224:Int)≤(x0.toNat:Int))=false:=decide_eq_false (by omega)
  have e4:decide ((x0.toNat:Int)<240)=true:=decide_eq_true (by omega)
  have e5:decide ((240:Int)≤(x0.toNat:Int))=false:=decide_eq_false (by omega)
  have e6:decide ((x0.toNat:Int)<245)=true:=decide_eq_true (by omega)
  go_enter Tryz.func197,Tryz.ntmps197
  go_wp2
  go_ret2
  exact ⟨rfl,0,rfl⟩
theorem refRune_z (s:ByteArray) (n:Nat) (w:World) (hs:s.size≤1000000) (hn:n<s.size) (x0:UInt8) (h0:s[n]'hn=x0) (hx:245≤x0.toNat∧x0.toNat<256) :
    Calls Tryz.prog 197 #[.string s,.int .i64 n] w (RunePost (-1) 1 w):=by
  have a1:¬ ((s.size:Int)≤(n:Int)):=by omega
  have a6:decide ((n:Int)<0)=false:=decide_eq_false (by omega)
  have l0:=x0.toNat_lt
  have e0:decide ((x0.toNat:Int)<128)=false:=decide_eq_false (by omega)
  have e1:decide ((194:Int)≤(x0.toNat:Int))=true:=decide_eq_true (by omega)
  have e2:decide ((x0.toNat:Int)<224)=false:=decide_eq_false (by omega)
  have e3:decide ((224:Int)≤(x0.toNat:Int))=true:=decide_eq_true (by omega)
  have e4:decide ((x0.toNat:Int)<240)=false:=decide_eq_false (by omega)
  have e5:decide ((240:Int)≤(x0.toNat:Int))=true:=decide_eq_true (by omega)
  have e6:decide ((x0.toNat:Int)<245)=false:=decide_eq_false (by omega)
  go_enter Tryz.func197,Tryz.ntmps197
  go_wp2
  go_ret2
  exact ⟨rfl,0,rfl⟩
theorem refRune_d0 (s:ByteArray) (n:Nat) (w:World) (hs:s.size≤1000000) (hn:n<s.size) (x0:UInt8) (h0:s[n]'hn=x0) (hx:194≤x0.toNat∧x0.toNat<224) (c1:contB s (n+1)=false) :
    Calls Tryz.prog 197 #[.string s,.int .i64 n] w (RunePost (-1) 1 w):=by
  have a1:¬ ((s.size:Int)≤(n:Int)):=by omega
  have a6:decide ((n:Int)<0)=false:=decide_eq_false (by omega)
  have l0:=x0.toNat_lt
  have K1:=Lib.hid (fun W=>cont_any s (n+1) W (by unfold maxLen;omega) (by unfold maxLen;omega))
  rw [c1] at K1
  clear c1
  have e0:decide ((x0.toNat:Int)<128)=false:=decide_eq_false (by omega)
  have e1:decide ((194:Int)≤(x0.toNat:Int))=true:=decide_eq_true (by omega)
  have e2:decide ((x0.toNat:Int)<224)=true:=decide_eq_true (by omega)
  have e3:decide ((224:Int)≤(x0.toNat:Int))=false:=decide_eq_false (by omega)
  have e4:decide ((x0.toNat:Int)<240)=true:=decide_eq_true (by omega)
  have e5:decide ((240:Int)≤(x0.toNat:Int))=false:=decide_eq_false (by omega)
  have e6:decide ((x0.toNat:Int)<245)=true:=decide_eq_true (by omega)
  go_enter Tryz.func197,Tryz.ntmps197
  go_wp2_with fail
  refine (K1.out _).mono ?_
  rintro r w' ⟨rfl,rfl⟩
  go_wp2
  go_ret2
  exact ⟨rfl,0,rfl⟩
theorem refRune_e0 (s:ByteArray) (n:Nat) (w:World) (hs:s.size≤1000000) (hn:n<s.size) (x0:UInt8) (h0:s[n]'hn=x0) (hx:224≤x0.toNat∧x0.toNat<240) (c1:contB s (n+1)=false) :
    Calls Tryz.prog 197 #[.string s,.int .i64 n] w (RunePost (-1) 1 w):=by
  have a1:¬ ((s.size:Int)≤(n:Int)):=by omega
  have a6:decide ((n:Int)<0)=false:=decide_eq_false (by omega)
  have l0:=x0.toNat_lt
  have K1:=Lib.hid (fun W=>cont_any s (n+1) W (by unfold maxLen;omega) (by unfold maxLen;omega))
  rw [c1] at K1
  clear c1
  have e0:decide ((x0.toNat:Int)<128)=false:=decide_eq_false (by omega)
  have e1:decide ((194:Int)≤(x0.toNat:Int))=true:=decide_eq_true (by omega)
  have e2:decide ((x0.toNat:Int)<224)=false:=decide_eq_false (by omega)
  have e3:decide ((224:Int)≤(x0.toNat:Int))=true:=decide_eq_true (by omega)
  have e4:decide ((x0.toNat:Int)<240)=true:=decide_eq_true (by omega)
  have e5:decide ((240:Int)≤(x0.toNat:Int))=false:=decide_eq_false (by omega)
  have e6:decide ((x0.toNat:Int)<245)=true:=decide_eq_true (by omega)
  go_enter Tryz.func197,Tryz.ntmps197
  go_wp2_with fail
  refine (K1.out _).mono ?_
  rintro r w' ⟨rfl,rfl⟩
  go_wp2
  go_ret2
  exact ⟨rfl,0,rfl⟩
theorem refRune_e1 (s:ByteArray) (n:Nat) (w:World) (hs:s.size≤1000000) (hn:n<s.size) (x0:UInt8) (h0:s[n]'hn=x0) (hx:224≤x0.toNat∧x0.toNat<240) (c1:contB s (n+1)=true) (c2:contB s (n+2)=false) :
    Calls Tryz.prog 197 #[.string s,.int .i64 n] w (RunePost (-1) 1 w):=by
  have a1:¬ ((s.size:Int)≤(n:Int)):=by omega
  have a6:decide ((n:Int)<0)=false:=decide_eq_false (by omega)
  have l0:=x0.toNat_lt
  have K1:=Lib.hid (fun W=>cont_any s (n+1) W (by unfold maxLen;omega) (by unfold maxLen;omega))
  rw [c1] at K1
  have K2:=Lib.hid (fun W=>cont_any s (n+2) W (by unfold maxLen;omega) (by unfold maxLen;omega))
  rw [c2] at K2
  clear c1 c2
  have e0:decide ((x0.toNat:Int)<128)=false:=decide_eq_false (by omega)
  have e1:decide ((194:Int)≤(x0.toNat:Int))=true:=decide_eq_true (by omega)
  have e2:decide ((x0.toNat:Int)<224)=false:=decide_eq_false (by omega)
  have e3:decide ((224:Int)≤(x0.toNat:Int))=true:=decide_eq_true (by omega)
  have e4:decide ((x0.toNat:Int)<240)=true:=decide_eq_true (by omega)
  have e5:decide ((240:Int)≤(x0.toNat:Int))=false:=decide_eq_false (by omega)
  have e6:decide ((x0.toNat:Int)<245)=true:=decide_eq_true (by omega)
  go_enter Tryz.func197,Tryz.ntmps197
  go_wp2_with fail
  refine (K1.out _).mono ?_
  rintro r w' ⟨rfl,rfl⟩
  go_wp2_with fail
  refine (K2.out _).mono ?_
  rintro r w' ⟨rfl,rfl⟩
  go_wp2
  go_ret2
  exact ⟨rfl,0,rfl⟩
theorem refRune_f0 (s:ByteArray) (n:Nat) (w:World) (hs:s.size≤1000000) (hn:n<s.size) (x0:UInt8) (h0:s[n]'hn=x0) (hx:240≤x0.toNat∧x0.toNat<245) (c1:contB s (n+1)=false) :
    Calls Tryz.prog 197 #[.string s,.int .i64 n] w (RunePost (-1) 1 w):=by
  have a1:¬ ((s.size:Int)≤(n:Int)):=by omega
  have a6:decide ((n:Int)<0)=false:=decide_eq_false (by omega)
  have l0:=x0.toNat_lt
  have K1:=Lib.hid (fun W=>cont_any s (n+1) W (by unfold maxLen;omega) (by unfold maxLen;omega))
  rw [c1] at K1
  clear c1
  have e0:decide ((x0.toNat:Int)<128)=false:=decide_eq_false (by omega)
  have e1:decide ((194:Int)≤(x0.toNat:Int))=true:=decide_eq_true (by omega)
  have e2:decide ((x0.toNat:Int)<224)=false:=decide_eq_false (by omega)
  have e3:decide ((224:Int)≤(x0.toNat:Int))=true:=decide_eq_true (by omega)
  have e4:decide ((x0.toNat:Int)<240)=false:=decide_eq_false (by omega)
  have e5:decide ((240:Int)≤(x0.toNat:Int))=true:=decide_eq_true (by omega)
  have e6:decide ((x0.toNat:Int)<245)=true:=decide_eq_true (by omega)
  go_enter Tryz.func197,Tryz.ntmps197
  go_wp2_with fail
  refine (K1.out _).mono ?_
  rintro r w' ⟨rfl,rfl⟩
  go_wp2
  go_ret2
  exact ⟨rfl,0,rfl⟩
theorem refRune_f1 (s:ByteArray) (n:Nat) (w:World) (hs:s.size≤1000000) (hn:n<s.size) (x0:UInt8) (h0:s[n]'hn=x0) (hx:240≤x0.toNat∧x0.toNat<245) (c1:contB s (n+1)=true) (c2:contB s (n+2)=false) :
    Calls Tryz.prog 197 #[.string s,.int .i64 n] w (RunePost (-1) 1 w):=by
  have a1:¬ ((s.size:Int)≤(n:Int)):=by omega
  have a6:decide ((n:Int)<0)=false:=decide_eq_false (by omega)
  have l0:=x0.toNat_lt
  have K1:=Lib.hid (fun W=>cont_any s (n+1) W (by unfold maxLen;omega) (by unfold maxLen;omega))
  rw [c1] at K1
  have K2:=Lib.hid (fun W=>cont_any s (n+2) W (by unfold maxLen;omega) (by unfold maxLen;omega))
  rw [c2] at K2
  clear c1 c2
  have e0:decide ((x0.toNat:Int)<128)=false:=decide_eq_false (by omega)
  have e1:decide ((194:Int)≤(x0.toNat:Int))=true:=decide_eq_true (by omega)
  have e2:decide ((x0.toNat:Int)<224)=false:=decide_eq_false (by omega)
  have e3:decide ((224:Int)≤(x0.toNat:Int))=true:=decide_eq_true (by omega)
  have e4:decide ((x0.toNat:Int)<240)=false:=decide_eq_false (by omega)
  have e5:decide ((240:Int)≤(x0.toNat:Int))=true:=decide_eq_true (by omega)
  have e6:decide ((x0.toNat:Int)<245)=true:=decide_eq_true (by omega)
  go_enter Tryz.func197,Tryz.ntmps197
  go_wp2_with fail
  refine (K1.out _).mono ?_
  rintro r w' ⟨rfl,rfl⟩
  go_wp2_with fail
  refine (K2.out _).mono ?_
  rintro r w' ⟨rfl,rfl⟩
  go_wp2
  go_ret2
  exact ⟨rfl,0,rfl⟩
theorem refRune_f2 (s:ByteArray) (n:Nat) (w:World) (hs:s.size≤1000000) (hn:n<s.size) (x0:UInt8) (h0:s[n]'hn=x0) (hx:240≤x0.toNat∧x0.toNat<245) (c1:contB s (n+1)=true) (c2:contB s (n+2)=true) (c3:contB s (n+3)=false) :
    Calls Tryz.prog 197 #[.string s,.int .i64 n] w (RunePost (-1) 1 w):=by
  have a1:¬ ((s.size:Int)≤(n:Int)):=by omega
  have a6:decide ((n:Int)<0)=false:=decide_eq_false (by omega)
  have l0:=x0.toNat_lt
  have K1:=Lib.hid (fun W=>cont_any s (n+1) W (by unfold maxLen;omega) (by unfold maxLen;omega))
  rw [c1] at K1
  have K2:=Lib.hid (fun W=>cont_any s (n+2) W (by unfold maxLen;omega) (by unfold maxLen;omega))
  rw [c2] at K2
  have K3:=Lib.hid (fun W=>cont_any s (n+3) W (by unfold maxLen;omega) (by unfold maxLen;omega))
  rw [c3] at K3
  clear c1 c2 c3
  have e0:decide ((x0.toNat:Int)<128)=false:=decide_eq_false (by omega)
  have e1:decide ((194:Int)≤(x0.toNat:Int))=true:=decide_eq_true (by omega)
  have e2:decide ((x0.toNat:Int)<224)=false:=decide_eq_false (by omega)
  have e3:decide ((224:Int)≤(x0.toNat:Int))=true:=decide_eq_true (by omega)
  have e4:decide ((x0.toNat:Int)<240)=false:=decide_eq_false (by omega)
  have e5:decide ((240:Int)≤(x0.toNat:Int))=true:=decide_eq_true (by omega)
  have e6:decide ((x0.toNat:Int)<245)=true:=decide_eq_true (by omega)
  go_enter Tryz.func197,Tryz.ntmps197
  go_wp2_with fail
  refine (K1.out _).mono ?_
  rintro r w' ⟨rfl,rfl⟩
  go_wp2_with fail
  refine (K2.out _).mono ?_
  rintro r w' ⟨rfl,rfl⟩
  go_wp2_with fail
  refine (K3.out _).mono ?_
  rintro r w' ⟨rfl,rfl⟩
  go_wp2
  go_ret2
  exact ⟨rfl,0,rfl⟩
theorem refRune_d1 (s:ByteArray) (n:Nat) (w:World) (hs:s.size≤1000000) (hn:n<s.size) (x0 x1:UInt8) (h0:s[n]'hn=x0) (hx:194≤x0.toNat∧x0.toNat<224) (c1:contB s (n+1)=true) (hn1:n+1<s.size) (h1:s[n+1]'hn1=x1) :
    Calls Tryz.prog 197 #[.string s,.int .i64 n] w (RunePost ((x0.toNat % 32*64+x1.toNat % 64:Nat):Int) 2 w):=by
  have a1:¬ ((s.size:Int)≤(n:Int)):=by omega
  have a6:decide ((n:Int)<0)=false:=decide_eq_false (by omega)
  have l0:=x0.toNat_lt
  have K1:=Lib.hid (fun W=>cont_any s (n+1) W (by unfold maxLen;omega) (by unfold maxLen;omega))
  rw [c1] at K1
  clear c1
  have e0:decide ((x0.toNat:Int)<128)=false:=decide_eq_false (by omega)
  have e1:decide ((194:Int)≤(x0.toNat:Int))=true:=decide_eq_true (by omega)
  have e2:decide ((x0.toNat:Int)<224)=true:=decide_eq_true (by omega)
  have e3:decide ((224:Int)≤(x0.toNat:Int))=false:=decide_eq_false (by omega)
  have e4:decide ((x0.toNat:Int)<240)=true:=decide_eq_true (by omega)
  have e5:decide ((240:Int)≤(x0.toNat:Int))=false:=decide_eq_false (by omega)
  have e6:decide ((x0.toNat:Int)<245)=true:=decide_eq_true (by omega)
  have l1:=x1.toNat_lt
  have z1:(n:Int)+1<(s.size:Int):=by omega
  have t1:((n:Int)+1).toNat=n+1:=by omega
  have m0:=and31 ⟨x0.toNat,l0⟩
  simp only at m0
  go_enter Tryz.func197,Tryz.ntmps197
  go_wp2_with fail
  refine (K1.out _).mono ?_
  rintro r w' ⟨rfl,rfl⟩
  go_wp2
  go_ret2
  exact ⟨rfl,0,rfl⟩
theorem ret_two {a b c d:Int} (h1:a=c) (h2:b=d):Ending.returned (.tuple #[.int .i32 a,.int .i64 b])=.returned (.tuple #[.int .i32 c,.int .i64 d]):=by rw [h1,h2]
def r3 (c:Nat):Int:=if 2048≤c∧(c<55296∨57343<c) then c else -1
def m3 (c:Nat):Int:=if 2048≤c∧(c<55296∨57343<c) then 3 else 1
def r4 (c:Nat):Int:=if 65536≤c∧c≤1114111 then c else -1
def m4 (c:Nat):Int:=if 65536≤c∧c≤1114111 then 4 else 1
theorem r3_yes {c:Nat} {z:Int} (hz:z=c) (h:2048≤c∧(c<55296∨57343<c)):z=r3 c:=by unfold r3;rw [if_pos h,hz]
theorem r3_no {c:Nat} (h:¬ (2048≤c∧(c<55296∨57343<c))):-1=r3 c:=by unfold r3;rw [if_neg h]
theorem m3_yes {c:Nat} (h:2048≤c∧(c<55296∨57343<c)):3=m3 c:=by unfold m3;rw [if_pos h]
theorem m3_no {c:Nat} (h:¬ (2048≤c∧(c<55296∨57343<c))):1=m3 c:=by unfold m3;rw [if_neg h]
theorem r4_yes {c:Nat} {z:Int} (hz:z=c) (h:65536≤c∧c≤1114111):z=r4 c:=by unfold r4;rw [if_pos h,hz]
theorem r4_no {c:Nat} (h:¬ (65536≤c∧c≤1114111)):-1=r4 c:=by unfold r4;rw [if_neg h]
theorem m4_yes {c:Nat} (h:65536≤c∧c≤1114111):4=m4 c:=by unfold m4;rw [if_pos h]
theorem m4_no {c:Nat} (h:¬ (65536≤c∧c≤1114111)):1=m4 c:=by unfold m4;rw [if_neg h]
theorem refRune_e2 (s:ByteArray) (n:Nat) (w:World) (hs:s.size≤1000000) (hn:n<s.size) (x0 x1 x2:UInt8) (h0:s[n]'hn=x0) (hx:224≤x0.toNat∧x0.toNat<240) (c1:contB s (n+1)=true) (c2:contB s (n+2)=true) (hn1:n+1<s.size) (h1:s[n+1]'hn1=x1) (hn2:n+2<s.size) (h2:s[n+2]'hn2=x2) :
    Calls Tryz.prog 197 #[.string s,.int .i64 n] w (RunePost (r3 (x0.toNat % 16*4096+x1.toNat % 64*64+x2.toNat % 64)) (m3 (x0.toNat % 16*4096+x1.toNat % 64*64+x2.toNat % 64)) w):=by
  have a1:¬ ((s.size:Int)≤(n:Int)):=by omega
  have a6:decide ((n:Int)<0)=false:=decide_eq_false (by omega)
  have l0:=x0.toNat_lt
  have l1:=x1.toNat_lt
  have z1:(n:Int)+1<(s.size:Int):=by omega
  have t1:((n:Int)+1).toNat=n+1:=by omega
  have w1:IntKind.i64.wrap ((n:Int)+1)=(n:Int)+1:=IntWalk.i64_in _ (by omega)
  have p1:0≤(n:Int)+1:=by omega
  have K1:=Lib.hid (fun W=>cont_any s (n+1) W (by unfold maxLen;omega) (by unfold maxLen;omega))
  rw [c1] at K1
  have l2:=x2.toNat_lt
  have z2:(n:Int)+2<(s.size:Int):=by omega
  have t2:((n:Int)+2).toNat=n+2:=by omega
  have w2:IntKind.i64.wrap ((n:Int)+2)=(n:Int)+2:=IntWalk.i64_in _ (by omega)
  have p2:0≤(n:Int)+2:=by omega
  have K2:=Lib.hid (fun W=>cont_any s (n+2) W (by unfold maxLen;omega) (by unfold maxLen;omega))
  rw [c2] at K2
  have e0:decide ((x0.toNat:Int)<128)=false:=decide_eq_false (by omega)
  have e1:decide ((194:Int)≤(x0.toNat:Int))=true:=decide_eq_true (by omega)
  have e2:decide ((x0.toNat:Int)<224)=false:=decide_eq_false (by omega)
  have e3:decide ((224:Int)≤(x0.toNat:Int))=true:=decide_eq_true (by omega)
  have e4:decide ((x0.toNat:Int)<240)=true:=decide_eq_true (by omega)
  have e5:decide ((240:Int)≤(x0.toNat:Int))=false:=decide_eq_false (by omega)
  have e6:decide ((x0.toNat:Int)<245)=true:=decide_eq_true (by omega)
  have m0:=and15 ⟨x0.toNat,l0⟩
  simp only at m0
  clear c1 c2
  go_enter Tryz.func197,Tryz.ntmps197
  go_wp2_with fail
  refine (K1.out _).mono ?_
  rintro r w' ⟨rfl,rfl⟩
  go_wp2_with fail
  refine (K2.out _).mono ?_
  rintro r w' ⟨rfl,rfl⟩
  go_wp2_with fail
  go_quiet (fail)
  go_wp2_with fail
  all_goals
    go_ret2
    first
      | exact ⟨ret_two (r3_yes (by omega) (by omega)) (m3_yes (by omega)),_,rfl⟩
      | exact ⟨ret_two (r3_no (by omega)) (m3_no (by omega)),_,rfl⟩
theorem refRune_f3 (s:ByteArray) (n:Nat) (w:World) (hs:s.size≤1000000) (hn:n<s.size) (x0 x1 x2 x3:UInt8) (h0:s[n]'hn=x0) (hx:240≤x0.toNat∧x0.toNat<245) (c1:contB s (n+1)=true) (c2:contB s (n+2)=true) (c3:contB s (n+3)=true) (hn1:n+1<s.size) (h1:s[n+1]'hn1=x1) (hn2:n+2<s.size) (h2:s[n+2]'hn2=x2) (hn3:n+3<s.size) (h3:s[n+3]'hn3=x3) :
    Calls Tryz.prog 197 #[.string s,.int .i64 n] w (RunePost (r4 (x0.toNat % 8*262144+x1.toNat % 64*4096+x2.toNat % 64*64+x3.toNat % 64)) (m4 (x0.toNat % 8*262144+x1.toNat % 64*4096+x2.toNat % 64*64+x3.toNat % 64)) w):=by
  have a1:¬ ((s.size:Int)≤(n:Int)):=by omega
  have a6:decide ((n:Int)<0)=false:=decide_eq_false (by omega)
  have l0:=x0.toNat_lt
  have l1:=x1.toNat_lt
  have z1:(n:Int)+1<(s.size:Int):=by omega
  have t1:((n:Int)+1).toNat=n+1:=by omega
  have w1:IntKind.i64.wrap ((n:Int)+1)=(n:Int)+1:=IntWalk.i64_in _ (by omega)
  have p1:0≤(n:Int)+1:=by omega
  have K1:=Lib.hid (fun W=>cont_any s (n+1) W (by unfold maxLen;omega) (by unfold maxLen;omega))
  rw [c1] at K1
  have l2:=x2.toNat_lt
  have z2:(n:Int)+2<(s.size:Int):=by omega
  have t2:((n:Int)+2).toNat=n+2:=by omega
  have w2:IntKind.i64.wrap ((n:Int)+2)=(n:Int)+2:=IntWalk.i64_in _ (by omega)
  have p2:0≤(n:Int)+2:=by omega
  have K2:=Lib.hid (fun W=>cont_any s (n+2) W (by unfold maxLen;omega) (by unfold maxLen;omega))
  rw [c2] at K2
  have l3:=x3.toNat_lt
  have z3:(n:Int)+3<(s.size:Int):=by omega
  have t3:((n:Int)+3).toNat=n+3:=by omega
  have w3:IntKind.i64.wrap ((n:Int)+3)=(n:Int)+3:=IntWalk.i64_in _ (by omega)
  have p3:0≤(n:Int)+3:=by omega
  have K3:=Lib.hid (fun W=>cont_any s (n+3) W (by unfold maxLen;omega) (by unfold maxLen;omega))
  rw [c3] at K3
  have e0:decide ((x0.toNat:Int)<128)=false:=decide_eq_false (by omega)
  have e1:decide ((194:Int)≤(x0.toNat:Int))=true:=decide_eq_true (by omega)
  have e2:decide ((x0.toNat:Int)<224)=false:=decide_eq_false (by omega)
  have e3:decide ((224:Int)≤(x0.toNat:Int))=true:=decide_eq_true (by omega)
  have e4:decide ((x0.toNat:Int)<240)=false:=decide_eq_false (by omega)
  have e5:decide ((240:Int)≤(x0.toNat:Int))=true:=decide_eq_true (by omega)
  have e6:decide ((x0.toNat:Int)<245)=true:=decide_eq_true (by omega)
  have m0:=and7i ⟨x0.toNat,l0⟩
  simp only at m0
  clear c1 c2 c3
  go_enter Tryz.func197,Tryz.ntmps197
  go_wp2_with fail
  refine (K1.out _).mono ?_
  rintro r w' ⟨rfl,rfl⟩
  go_wp2_with fail
  refine (K2.out _).mono ?_
  rintro r w' ⟨rfl,rfl⟩
  go_wp2_with fail
  refine (K3.out _).mono ?_
  rintro r w' ⟨rfl,rfl⟩
  go_wp2_with fail
  go_quiet (fail)
  go_wp2_with fail
  all_goals
    go_ret2
    first
      | exact ⟨ret_two (r4_yes (by omega) (by omega)) (m4_yes (by omega)),_,rfl⟩
      | exact ⟨ret_two (r4_no (by omega)) (m4_no (by omega)),_,rfl⟩
end Go.Proofs.YtnacbakcalcgaaaGreatDoor
