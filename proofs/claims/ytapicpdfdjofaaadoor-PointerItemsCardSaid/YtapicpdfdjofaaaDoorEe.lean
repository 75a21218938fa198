/- Texts of the claim. -/
import Derived.Test.YtapicpdfdjofaaaDoorEd
import Derived.Laws.AppendOwnNone
import Derived.RangeFuncNested
import Derived.RangeFuncBound
import Derived.Shelf.RegionOpen
import Derived.OwnWalkIn
import Derived.LoopNIn
import Derived.Sort.LoopGhostIn
set_option linter.unusedVariables false
set_option linter.unusedSimpArgs false
set_option maxHeartbeats 8000000
set_option maxRecDepth 100000
namespace Go.Proofs.YtapicpdfdjofaaaDoor
open Go.RowKit
theorem below_drewN {B:Nat} {a w:World} (h:Below B a w) (n:Nat):Below B a (w.drewN n):=h.trans ⟨rfl,rfl,rfl,Nat.le_refl _,fun _ _=>rfl⟩
def RdV (w:World) (ad:Option Addr) (vs:List Value):Prop :=
  ∀ i,i<vs.length→∃ b o,ad=some ⟨b,o,none⟩∧b<w.heap.size∧w.cell? ⟨b,o+i,none⟩=vs[i]?
theorem RdV.nil (w:World) (ad:Option Addr):RdV w ad []:=by intro i h;simp at h
theorem RdV.at {w:World} {b o:Nat} {vs:List Value} (h:RdV w (some ⟨b,o,none⟩) vs) (i:Nat) (hi:i<vs.length):w.cell? ⟨b,o+i,none⟩=vs[i]?:=by
  obtain ⟨b',o',e,_,hc⟩:=h i hi
  cases e;exact hc
theorem RdV.shape {w:World} {ad:Option Addr} {vs:List Value} (h:RdV w ad vs) (hp:0<vs.length):∃ b o,ad=some ⟨b,o,none⟩∧b<w.heap.size:=by
  obtain ⟨b,o,e,hb,_⟩:=h 0 hp
  exact ⟨b,o,e,hb⟩
theorem RdV.take {w:World} {ad:Option Addr} {vs:List Value} (h:RdV w ad vs) (n:Nat):RdV w ad (vs.take n):=by
  intro i hi
  rw [List.length_take] at hi
  obtain ⟨b,o,e,hb,hc⟩:=h i (by omega)
  exact ⟨b,o,e,hb,by rw [hc,List.getElem?_take];simp [show i<n by omega]⟩
theorem RdV.drop {w:World} {b o:Nat} {vs:List Value} (h:RdV w (some ⟨b,o,none⟩) vs) (k:Nat):RdV w (some ⟨b,o+k,none⟩) (vs.drop k):=by
  intro i hi
  rw [List.length_drop] at hi
  obtain ⟨b',o',e,hb,hc⟩:=h (k+i) (by omega)
  cases e
  exact ⟨b,o+k,rfl,hb,by rw [Nat.add_assoc,hc,List.getElem?_drop]⟩
theorem RdV.below {w w':World} {ad:Option Addr} {vs:List Value} (h:RdV w ad vs) {B:Nat} (hb:Below B w w') (hB:∀ a,ad=some a→0<vs.length→a.block<B):RdV w' ad vs:=by
  intro i hi
  obtain ⟨b,o,e,hlt,hc⟩:=h i hi
  have hbb:b<B:=hB _ e (by omega)
  exact ⟨b,o,e,Nat.lt_of_lt_of_le hlt hb.size,by rw [hb.cell (p:=⟨b,o+i,none⟩) hbb];exact hc⟩
theorem RdV.on {w w':World} {ad:Option Addr} {vs:List Value} (h:RdV w ad vs) (hb:Below w.heap.size w w'):RdV w' ad vs :=
  h.below hb fun a e hp=>by obtain ⟨b,o,e',hlt,_⟩:=h 0 hp;rw [e] at e';cases e';exact hlt
theorem RdV.lt {w:World} {ad:Option Addr} {vs:List Value} (h:RdV w ad vs) (a:Addr) (e:ad=some a) (hp:0<vs.length):a.block<w.heap.size:=by
  obtain ⟨b,o,e',hb⟩:=h.shape hp
  rw [e] at e';cases e';exact hb
def BlkV (w:World) (g:Nat) (e:TypeId) (vs:List Value):Prop:=w.heap[g]? = some (.cells vs.toArray e (0,0))
theorem BlkV.lt {w:World} {g:Nat} {e:TypeId} {vs:List Value} (h:BlkV w g e vs):g<w.heap.size:=by
  rcases Nat.lt_or_ge g w.heap.size with h1 | h1
  · exact h1
  · rw [BlkV,Array.getElem?_eq_none h1] at h;cases h
theorem BlkV.cell {w:World} {g:Nat} {e:TypeId} {vs:List Value} (h:BlkV w g e vs) (i:Nat):w.cell? ⟨g,i,none⟩=vs[i]?:=by
  unfold BlkV at h
  simp [World.cell?,h]
theorem BlkV.free {w:World} {g:Nat} {e:TypeId} {vs:List Value} (h:BlkV w g e vs) (i:Nat):w.frozen? ⟨g,i,none⟩=false:=by
  unfold BlkV at h
  simp [World.frozen?,h]
theorem BlkV.rd {w:World} {g:Nat} {e:TypeId} {vs:List Value} (h:BlkV w g e vs) (o n:Nat):RdV w (some ⟨g,o,none⟩) ((vs.drop o).take n):=by
  intro i hi
  rw [List.length_take,List.length_drop] at hi
  refine ⟨g,o,rfl,h.lt,?_⟩
  rw [h.cell (o+i),List.getElem?_take,List.getElem?_drop]
  simp [show i<n by omega]
theorem BlkV.all {w:World} {g:Nat} {e:TypeId} {vs:List Value} (h:BlkV w g e vs):RdV w (some ⟨g,0,none⟩) vs:=by
  have:=h.rd 0 vs.length
  simpa using this
theorem BlkV.set {w:World} {g:Nat} {e:TypeId} {vs:List Value} (h:BlkV w g e vs) (i:Nat) (v:Value):BlkV (w.setCell ⟨g,i,none⟩ v) g e (vs.set i v):=by
  have hlt:=h.lt
  unfold BlkV at h ⊢
  simp only [World.setCell,Array.getElem?_modify,h]
  simp
theorem BlkV.drewN {w:World} {g:Nat} {e:TypeId} {vs:List Value} (h:BlkV w g e vs) (q:Nat):BlkV (w.drewN q) g e vs:=h
theorem BlkV.below {w w':World} {g:Nat} {e:TypeId} {vs:List Value} (h:BlkV w g e vs) {B:Nat} (hb:Below B w w') (hg:g<B):BlkV w' g e vs:=by
  unfold BlkV;rw [hb.block g hg];exact h
structure But (g:Nat) (w w':World):Prop where
  os:w'.os=w.os
  tape:w'.tape=w.tape
  output:w'.output=w.output
  size:w.heap.size≤w'.heap.size
  block:∀ k,k<w.heap.size→k ≠ g→w'.heap[k]? = w.heap[k]?
theorem But.refl (g:Nat) (w:World):But g w w:=⟨rfl,rfl,rfl,Nat.le_refl _,fun _ _ _=>rfl⟩
theorem But.trans {g:Nat} {a b c:World} (h:But g a b) (k:But g b c):But g a c :=
  ⟨k.os.trans h.os,k.tape.trans h.tape,k.output.trans h.output,Nat.le_trans h.size k.size,fun i hi hn=>(k.block i (Nat.lt_of_lt_of_le hi h.size) hn).trans (h.block i hi hn)⟩
theorem But.of_below {g:Nat} {w w':World} (h:Below w.heap.size w w'):But g w w':=⟨h.os,h.tape,h.output,h.size,fun k hk _=>h.block k hk⟩
theorem But.drewN {g:Nat} {a w:World} (h:But g a w) (n:Nat):But g a (w.drewN n):=h.trans ⟨rfl,rfl,rfl,Nat.le_refl _,fun _ _ _=>rfl⟩
theorem But.setCell {g:Nat} {a w:World} (h:But g a w) (i:Nat) (v:Value):But g a (w.setCell ⟨g,i,none⟩ v) :=
  h.trans ⟨rfl,rfl,rfl,by simp [World.setCell],fun k _ hn=>Below.heap_setCell _ _ _ _ hn⟩
theorem But.below {g:Nat} {w w':World} (h:But g w w') {B:Nat} (hg:B≤g) (hB:B≤w.heap.size):Below B w w' :=
  ⟨h.os,h.tape,h.output,h.size,fun k hk=>h.block k (by omega) (by omega)⟩
theorem But.rd {g:Nat} {w w':World} (h:But g w w') {ad:Option Addr} {vs:List Value} (hr:RdV w ad vs) (hn:∀ a,ad=some a→0<vs.length→a.block ≠ g):RdV w' ad vs:=by
  intro i hi
  obtain ⟨b,o,e,hlt,hc⟩:=hr i hi
  exact ⟨b,o,e,Nat.lt_of_lt_of_le hlt h.size,by rw [World.cell?_of_block (w:=w) (h.block b hlt (hn _ e (by omega)))];exact hc⟩
def iv (n:Nat):Value:=.int .i64 (n:Int)
def sv (l:List ByteArray):List Value:=l.map Value.string
theorem sv_get (l:List ByteArray) (i:Nat) (hi:i<l.length):(sv l)[i]? = some (.string (l.getD i ByteArray.empty)):=by
  simp [List.getD,hi,sv]
theorem sv_len (l:List ByteArray):(sv l).length=l.length:=by simp [sv]
section
variable {t e : TypeId} {z : Value} {bytes : Nat}
end
structure Cel where
  k:Int
  b:Bool
  neg:Bool
  ma:Option Addr
  mn:Nat
  mc:Nat
  e:Int
  s:ByteArray
  ka:Option Addr
  kn:Nat
  kc:Nat
  va:Option Addr
  vn:Nat
  vc:Nat
def Cel.cells (c:Cel):List Value:=[.int .i64 c.k,.bool c.b,.bool c.neg,(.slice c.ma c.mn c.mc),.int .i64 c.e,.string c.s,(.slice c.ka c.kn c.kc),(.slice c.va c.vn c.vc)]
def Cel.val (c:Cel):Value:=.agg #[.int .i64 c.k,.bool c.b,.bool c.neg,(.slice c.ma c.mn c.mc),.int .i64 c.e,.string c.s,(.slice c.ka c.kn c.kc),(.slice c.va c.vn c.vc)]
def flat (l:List Cel):List Value:=l.flatMap Cel.cells
theorem flat_len (l:List Cel):(flat l).length=l.length*8:=by
  induction l with
  | nil=>rfl
  | cons c l ih=>simp only [flat,List.flatMap_cons,List.length_append] at ih ⊢;rw [ih];simp [Cel.cells];omega
theorem flat_get (l:List Cel) (i j:Nat) (hi:i<l.length) (hj:j<8):(flat l)[i*8+j]? = l[i].cells[j]?:=by
  induction l generalizing i with
  | nil=>simp at hi
  | cons c l ih =>
    simp only [flat,List.flatMap_cons]
    cases i with
    | zero=>rw [Nat.zero_mul,Nat.zero_add,List.getElem?_append_left (by simp [Cel.cells];omega)];rfl
    | succ i =>
      rw [List.getElem?_append_right (by simp [Cel.cells];omega)]
      have:(i+1)*8+j - c.cells.length=i*8+j:=by simp [Cel.cells];omega
      rw [this]
      simp only [List.length_cons] at hi
      exact ih i (by omega)
def zeroC:Cel:=⟨0,false,false,none,0,0,0,ByteArray.empty,none,0,0,none,0,0⟩
theorem info_tree:(Tryd.prog.info? 28).map (fun i=>(i.zero,i.size,i.bytes))=some (some zeroC.val,8,120):=by kernel_rfl
theorem flat_at {w:World} {b o:Nat} {l:List Cel} (h:RdV w (some ⟨b,o,none⟩) (flat l)) (p:Nat) (hp:p<l.length) {c:Cel} (hc:l.getD p zeroC=c) :
    w.cell? ⟨b,o+p*8,none⟩=some (.int .i64 c.k)∧w.cell? ⟨b,o+p*8+1,none⟩=some (.bool c.b)∧w.cell? ⟨b,o+p*8+2,none⟩=some (.bool c.neg)∧w.cell? ⟨b,o+p*8+3,none⟩=some (.slice c.ma c.mn c.mc) ∧
    w.cell? ⟨b,o+p*8+4,none⟩=some (.int .i64 c.e)∧w.cell? ⟨b,o+p*8+5,none⟩=some (.string c.s)∧w.cell? ⟨b,o+p*8+6,none⟩=some (.slice c.ka c.kn c.kc)∧w.cell? ⟨b,o+p*8+7,none⟩=some (.slice c.va c.vn c.vc):=by
  have hg:l[p]=c:=by rw [← hc];simp [List.getD,hp]
  have key:∀ j,j<8→w.cell? ⟨b,o+(p*8+j),none⟩=c.cells[j]?:=fun j hj=>by
    rw [h.at (p*8+j) (by rw [flat_len];omega),flat_get l p j hp hj,hg]
  have k0:=key 0 (by decide);have k1:=key 1 (by decide);have k2:=key 2 (by decide);have k3:=key 3 (by decide)
  have k4:=key 4 (by decide);have k5:=key 5 (by decide);have k6:=key 6 (by decide);have k7:=key 7 (by decide)
  simp only [← Nat.add_assoc,Nat.add_zero] at k0 k1 k2 k3 k4 k5 k6 k7
  exact ⟨k0,k1,k2,k3,k4,k5,k6,k7⟩
theorem flat_set (l:List Cel) (p:Nat) (hp:p<l.length) (c:Cel) :
    ((((((((flat l).set (p*8) (.int .i64 c.k)).set (p*8+1) (.bool c.b)).set (p*8+2) (.bool c.neg)).set (p*8+3) (.slice c.ma c.mn c.mc)).set (p*8+4) (.int .i64 c.e)).set (p*8+5) (.string c.s)).set (p*8+6) (.slice c.ka c.kn c.kc)).set (p*8+7) (.slice c.va c.vn c.vc)=flat (l.set p c):=by
  apply List.ext_getElem?
  intro q
  simp only [List.getElem?_set,List.length_set,flat_len]
  by_cases hq:q<l.length*8
  · have h1:=flat_get (l.set p c) (q / 8) (q % 8) (by simp;omega) (Nat.mod_lt _ (by decide))
    rw [show q / 8*8+q % 8=q by omega] at h1
    rw [h1,List.getElem_set]
    have h2:=flat_get l (q / 8) (q % 8) (by omega) (Nat.mod_lt _ (by decide))
    rw [show q / 8*8+q % 8=q by omega] at h2
    by_cases e:p=q / 8
    · rw [if_pos e]
      have h8:q % 8=0∨q % 8=1∨q % 8=2∨q % 8=3∨q % 8=4∨q % 8=5∨q % 8=6∨q % 8=7:=by omega
      rcases h8 with h | h | h | h | h | h | h | h
      all_goals
        have hq':q=p*8+q % 8:=by omega
        rw [h] at hq' ⊢
        clear h h1 h2
        subst hq'
        simp [Cel.cells]
        try omega
    · rw [if_neg e,← h2]
      repeat (rw [if_neg (by omega)])
  · repeat (rw [if_neg (by omega)])
    rw [List.getElem?_eq_none (by rw [flat_len];omega),List.getElem?_eq_none (by rw [flat_len];simp;omega)]
def put8 (w:World) (b q:Nat) (c:Cel):World :=
  (((((((w.setCell ⟨b,q,none⟩ (.int .i64 c.k)).setCell ⟨b,q+1,none⟩ (.bool c.b)).setCell ⟨b,q+2,none⟩ (.bool c.neg)).setCell ⟨b,q+3,none⟩ (.slice c.ma c.mn c.mc)).setCell ⟨b,q+4,none⟩ (.int .i64 c.e)).setCell ⟨b,q+5,none⟩ (.string c.s)).setCell ⟨b,q+6,none⟩ (.slice c.ka c.kn c.kc)).setCell ⟨b,q+7,none⟩ (.slice c.va c.vn c.vc)
theorem put8_blk {w:World} {b:Nat} {l:List Cel} (h:BlkV w b 28 (flat l)) (p:Nat) (hp:p<l.length) (c:Cel):BlkV (put8 w b (p*8) c) b 28 (flat (l.set p c)):=by
  rw [← flat_set l p hp c]
  exact (((((((h.set _ _).set _ _).set _ _).set _ _).set _ _).set _ _).set _ _).set _ _
theorem put8_but (w:World) (b q:Nat) (c:Cel):But b w (put8 w b q c) :=
  ((((((((But.refl b w).setCell _ _).setCell _ _).setCell _ _).setCell _ _).setCell _ _).setCell _ _).setCell _ _).setCell _ _
end Go.Proofs.YtapicpdfdjofaaaDoor
namespace Go.Proofs.YtapicpdfdjofaaaDoor
open Go.RowKit Go.Shelf
def ML (w:World):Prop:=∃ m,w.cell? ⟨0,0,none⟩=some (.int .i64 m)
theorem ML.below {w w':World} (h:ML w) (hb:Below w.heap.size w w'):ML w':=by
  obtain ⟨m,hm⟩:=h
  exact ⟨m,by rw [hb.cell (Lib.lt_of_cell hm)];exact hm⟩
def mkB (l:List UInt8):ByteArray:=⟨l.toArray⟩
theorem mkB_list (l:List UInt8):(mkB l).data.toList=l:=by simp [mkB]
theorem mkB_size (l:List UInt8):(mkB l).size=l.length:=by simp [mkB,ByteArray.size]
theorem rep2_len (a b c:UInt8):∀ (n:Nat) (l:List UInt8),l.length≤n→(rep2 a b c l).length≤l.length:=by
  intro n
  induction n with
  | zero=>intro l h;cases l with
    | nil=>simp [rep2]
    | cons x l=>simp at h
  | succ n ih =>
    intro l h
    match l with
    | []=>simp [rep2]
    | [x]=>simp [rep2]
    | x::y::l =>
      simp at h
      rw [rep2]
      split
      · have:=ih l (by omega);simp;omega
      · have:=ih (y::l) (by simp;omega);simp at this ⊢;omega
theorem repAll_any (s old new:ByteArray) (w:World) (hM:ML w) (hs:s.size≤4000000000) (h1:1≤old.size) (h2:new.size≤2) :
    Calls Tryd.prog 43 #[.string s,.string old,.string new] w fun e w'=>e=.returned (.string (mkB (Lib.replaceAll s.data.toList old.data.toList new.data.toList)))∧Below w.heap.size w w':=by
  obtain ⟨m,hm⟩:=hM
  have hle:=Lib.countB_le old h1 s.size s (Nat.le_refl _)
  have h3:=Nat.mul_le_mul hle h2
  exact Tryd.strings_ReplaceAll s old new m w (by omega) hm h1 (by omega)
theorem ptPlain_any (s:ByteArray) (w:World) (hM:ML w) (hs:s.size≤4000000000) :
    Calls Tryd.prog 38 #[.string s] w fun e w'=>e=.returned (.string (mkB (plainL s.data.toList)))∧Below w.heap.size w w':=by
  have K1:=Lib.hid (repAll_any s ⟨#[126,49]⟩ ⟨#[47]⟩ w hM hs (by decide) (by decide))
  have K2:=Lib.hid (fun (t:ByteArray) W (h:Below w.heap.size w W) (ht:t.size≤4000000000)=>repAll_any t ⟨#[126,48]⟩ ⟨#[126]⟩ W (hM.below h) ht (by decide) (by decide))
  have hp:=plain_eq s.data.toList
  have hl:(Lib.replaceAll s.data.toList [126,49] [47]).length≤s.size:=by
    rw [repl_two _ _ _ _ _ (Nat.le_refl _)]
    have:=rep2_len 126 49 47 _ s.data.toList (Nat.le_refl _)
    have:=Lib.size_eq s
    omega
  have HP:=Lib.hid hp
  have HL:=Lib.hid hl
  clear hp hl hM
  go_enter Tryd.func38,Tryd.ntmps38
  go_wp2_with fail
  refine K1.out.mono ?_
  rintro r w1 ⟨rfl,hb1⟩
  have K3:=Lib.hid (K2.out (mkB (Lib.replaceAll s.data.toList [126,49] [47])) w1 hb1 (by rw [mkB_size];have:=HL.out;omega))
  rw [mkB_list] at K3
  have HB:=Lib.hid hb1
  clear hb1 K1 K2 HL
  generalize mkB (Lib.replaceAll s.data.toList [126,49] [47])=t at *
  go_wp2_with fail
  refine K3.out.mono ?_
  rintro r w2 ⟨rfl,hb2⟩
  have HF:=Lib.hid (HB.out.trans (hb2.mono HB.out.size))
  rw [HP.out]
  clear hb2 HB K3 HP
  go_wp2
  go_ret
  exact ⟨rfl,HF.out⟩
theorem spl_size (c:UInt8) (l:List UInt8):∀ t∈spl c l,t.length≤l.length:=by
  induction l with
  | nil=>intro t h;simp [spl] at h;subst h;simp
  | cons b l ih =>
    intro t h
    rw [spl] at h
    by_cases hb:b=c
    · rw [if_pos hb] at h
      rcases List.mem_cons.1 h with rfl | h
      · simp
      · have:=ih t h;simp;omega
    · rw [if_neg hb] at h
      revert h
      split
      · rename_i e;exact absurd e (spl_ne c l)
      · rename_i x m e
        rw [e] at ih
        intro h
        rcases List.mem_cons.1 h with rfl | h
        · have:=ih x (by simp);simp;omega
        · have:=ih t (by simp [h]);simp;omega
def ParseA (s:List UInt8) (w:World) (e:Ending) (w':World):Prop :=
  (∃ x,parsePt s=.inr x∧e=.returned (.tuple #[.slice none 0 0,.int .i64 x])∧Below w.heap.size w w') ∨
  (∃ p ad cap,parsePt s=.inl p∧e=.returned (.tuple #[.slice ad p.length cap,.int .i64 0])∧p.length≤cap∧RdV w' ad (sv (p.map mkB))∧p.length≤64∧Below w.heap.size w w')
def PaI (D:List ByteArray) (g:Nat) (W0:World) (n:Nat) (k:Nat) (i:Value) (wr:World):Prop :=
  ∃ j:Nat,j≤n∧n - j≤k∧i=.int .i64 (j:Int)∧BlkV wr g 9 (sv ((D.take j).map (fun x=>mkB (plainL x.data.toList))++D.drop j))∧But g W0 wr
theorem pa_get (D:List ByteArray) (j:Nat) (hj:j<D.length):(sv ((D.take j).map (fun x=>mkB (plainL x.data.toList))++D.drop j))[j]? = some (.string (D.getD j ByteArray.empty)):=by
  have hl:((D.take j).map (fun x=>mkB (plainL x.data.toList))).length=j:=by simp;omega
  rw [sv_get _ _ (by rw [List.length_append,hl,List.length_drop];omega)]
  congr 2
  rw [List.getD_eq_getElem?_getD,List.getElem?_append_right (by omega),hl,Nat.sub_self,List.getElem?_drop,List.getD_eq_getElem?_getD]
  rfl
theorem pa_set (D:List ByteArray) (j:Nat) (hj:j<D.length):(sv ((D.take j).map (fun x=>mkB (plainL x.data.toList))++D.drop j)).set j (.string (mkB (plainL (D.getD j ByteArray.empty).data.toList)))=sv ((D.take (j+1)).map (fun x=>mkB (plainL x.data.toList))++D.drop (j+1)):=by
  have hl:((D.take j).map (fun x=>mkB (plainL x.data.toList))).length=j:=by simp;omega
  have hd:D.drop j=D.getD j ByteArray.empty::D.drop (j+1):=by rw [List.drop_eq_getElem_cons hj];simp [List.getD,hj]
  have ht:D.take (j+1)=D.take j++[D.getD j ByteArray.empty]:=by rw [List.take_add_one];simp [List.getD,hj]
  unfold sv
  rw [hd,ht,List.map_append,List.set_append_right _ _ (by rw [List.length_map,hl];exact Nat.le_refl _),List.length_map,hl,Nat.sub_self]
  simp
theorem parseP_any (s:ByteArray) (w:World) (hT:UT w) (hM:ML w) (hs:s.size≤1000000000) :
    Calls Tryd.prog 11 #[.string s] w (ParseA s.data.toList w):=by
  have hln:s.data.toList.length=s.size:=by rw [Array.length_toList];rfl
  by_cases h0:s.size=0
  · have e0:=str_nil s h0
    subst e0
    have HF:=Lib.hid (show ParseA [] w (.returned (.tuple #[.slice none 0 0,.int .i64 0])) w from .inr ⟨[],none,0,rfl,rfl,Nat.le_refl _,RdV.nil _ _,by decide,Below.refl _ _⟩)
    clear hln h0 hT hM
    go_enter Tryd.func11,Tryd.ntmps11
    go_wp2
    go_ret2
    exact HF.out
  have e0:=str_ne s h0
  have h0z:0<s.size:=by omega
  obtain ⟨b0,l0,hl0⟩:∃ b l,s.data.toList=b::l:=by
    cases e:s.data.toList with
    | nil=>rw [e] at hln;simp at hln;omega
    | cons b l=>exact ⟨b,l,rfl⟩
  have hg0:s[0]'h0z=b0:=by
    have hs:0<s.data.size:=h0z
    have h1:s.data[0]? = some (s.data[0]'hs):=Array.getElem?_eq_getElem hs
    have h2:s.data.toList[0]? = some b0:=by rw [hl0];rfl
    rw [Array.getElem?_toList,h1] at h2
    exact Option.some.inj h2
  have HPE:Hid (parsePt s.data.toList=if b0 ≠ 47∨validL s.data.toList=false∨tilW false s.data.toList=false then .inr 2 else if 63<s.data.toList.count 47 then .inr 4 else .inl ((spl 47 l0).map plainL)):=Lib.hid (by rw [hl0];rfl)
  have HER:=Lib.hid (fun (x:Int) W (h:parsePt s.data.toList=.inr x) (hb:Below w.heap.size w W)=>(show ParseA s.data.toList w (.returned (.tuple #[.slice none 0 0,.int .i64 x])) W from .inl ⟨x,h,rfl,hb⟩))
  by_cases h47:b0=47
  case neg =>
    have hz:¬ (((s[0]'h0z).toNat:Nat):Int)=47:=by
      rw [hg0];intro e;apply h47;apply UInt8.toNat_inj.1;rw [show (47:UInt8).toNat=47 from rfl];omega
    have HF:=Lib.hid (HER.out 2 w (by rw [HPE.out,if_pos (.inl h47)]) (Below.refl _ _))
    clear hln hl0 hg0 HPE HER h47 hT hM
    go_enter Tryd.func11,Tryd.ntmps11
    go_wp2
    go_ret2
    exact HF.out
  subst h47
  have hz:(((s[0]'h0z).toNat:Nat):Int)=47:=by rw [hg0];rfl
  have KV:=Lib.hid (valid_any s w (by unfold maxLen;omega) hT)
  have KT:=Lib.hid (fun W=>tildes_any s W (by omega))
  cases hv:validL s.data.toList with
  | false =>
    rw [hv] at KV
    have HF:=Lib.hid (fun W h=>HER.out 2 W (by rw [HPE.out,if_pos (.inr (.inl hv))]) h)
    clear hln hl0 hg0 HPE HER hT hM hv KT
    go_enter Tryd.func11,Tryd.ntmps11
    go_wp2_with fail
    refine KV.out.mono ?_
    rintro r w1 ⟨rfl,hb1⟩
    have HF1:=Lib.hid (HF.out _ hb1)
    clear hb1
    go_wp2
    go_ret2
    exact HF1.out
  | true =>
    rw [hv] at KV
    have HV:=Lib.hid hv
    clear hv
    cases ht:tilW false s.data.toList with
    | false =>
      rw [ht] at KT
      have HF:=Lib.hid (fun W h=>HER.out 2 W (by rw [HPE.out,if_pos (.inr (.inr ht))]) h)
      clear hln hl0 hg0 HPE HER hT hM ht
      go_enter Tryd.func11,Tryd.ntmps11
      go_wp2_with fail
      refine KV.out.mono ?_
      rintro r w1 ⟨rfl,hb1⟩
      have HB:=Lib.hid hb1
      clear hb1
      go_wp2_with fail
      refine (KT.out _).mono ?_
      rintro r w2 ⟨rfl,hb2⟩
      have HF1:=Lib.hid (HF.out _ (HB.out.trans (hb2.mono HB.out.size)))
      clear hb2
      go_wp2
      go_ret2
      exact HF1.out
    | true =>
      rw [ht] at KT
      have KC:=Lib.hid (fun W=>Tryd.strings_Count_one s 47 W)
      have hcb:Lib.countByte s.data.toList 47=s.data.toList.count 47:=rfl
      rw [hcb] at KC
      rw [HV.out,ht] at HPE
      have HPE2:=Lib.hid (show parsePt s.data.toList=if 63<s.data.toList.count 47 then .inr 4 else .inl ((spl 47 l0).map plainL) by rw [HPE.out,if_neg (by simp)])
      clear HPE
      by_cases hc:63<s.data.toList.count 47
      · have HF:=Lib.hid (fun W h=>HER.out 4 W (by rw [HPE2.out,if_pos hc]) h)
        have hcz:(63:Int)<((s.data.toList.count 47:Nat):Int):=by omega
        clear hln hl0 hg0 HPE2 HER hT hM ht hc
        generalize s.data.toList.count 47=cn at *
        go_enter Tryd.func11,Tryd.ntmps11
        go_wp2_with fail
        refine KV.out.mono ?_
        rintro r w1 ⟨rfl,hb1⟩
        have HB:=Lib.hid hb1
        clear hb1
        go_wp2_with fail
        refine (KT.out _).mono ?_
        rintro r w2 ⟨rfl,hb2⟩
        have HF1:=Lib.hid (HF.out _ (HB.out.trans (hb2.mono HB.out.size)))
        clear hb2
        go_wp2_with fail
        refine (KC.out _).mono ?_
        rintro r w3 ⟨rfl,rfl⟩
        go_wp2
        go_ret2
        exact HF1.out
      · have hcz:¬ (63:Int)<((s.data.toList.count 47:Nat):Int):=by omega
        obtain ⟨t,htl⟩:∃ t:ByteArray,s.extract 1 s.size=t:=⟨_,rfl⟩
        have htd:t.data.toList=l0:=by
          rw [← htl,Lib.extract_to_end,hl0];rfl
        have hct:l0.count 47+1=s.data.toList.count 47:=by rw [hl0,List.count_cons_self]
        have hcB:Lib.countB t ⟨#[47]⟩=l0.count 47:=by
          show Lib.count t.data.toList [47]=_
          rw [htd,Lib.count_one]
        obtain ⟨D,hD⟩:∃ D,Lib.splitB ⟨#[47]⟩ 0 (l0.count 47) t=D:=⟨_,rfl⟩
        have hDd:D.map (fun x=>x.data.toList)=spl 47 l0:=by
          rw [← hD,Lib.splitB_data,htd,← splitK_one,Lib.count_one]
        have hDl:D.length=l0.count 47+1:=by
          have:=congrArg List.length hDd
          rw [List.length_map,spl_length] at this;exact this
        have hts:t.size≤s.size:=by
          rw [Lib.size_eq t,htd,Lib.size_eq s,hl0];simp
        have KS:=Lib.hid (fun W (h:Below w.heap.size w W)=>(by
          obtain ⟨m,hm⟩:=hM.below h
          have:=Tryd.strings_Split t ⟨#[47]⟩ m W (by omega) hm (by decide)
          rw [hcB,hD] at this
          exact this:Calls Tryd.prog 37 #[.string t,.string ⟨#[47]⟩] W fun e w'=>e=.returned (.slice (some ⟨W.heap.size,0,none⟩) (l0.count 47+1) (l0.count 47+1))∧w'=W.alloc (.cells (D.map Value.string).toArray 9)))
        have hDs:∀ x∈D,x.size≤1000000000:=by
          intro x hx
          have h1:x.data.toList∈spl 47 l0:=by rw [← hDd];exact List.mem_map.2 ⟨x,hx,rfl⟩
          have h2:=spl_size 47 l0 _ h1
          rw [Lib.size_eq x]
          have h3:=Lib.size_eq s
          rw [hl0] at h3;simp at h3;omega
        have KP:=Lib.hid (fun (x:ByteArray) W (hx:x∈D) (h:Below w.heap.size w W)=>ptPlain_any x W (hM.below h) (by have:=hDs x hx;omega))
        have HPF:=Lib.hid (show parsePt s.data.toList=.inl (D.map (fun x=>plainL x.data.toList)) by
          rw [HPE2.out,if_neg hc,← hDd,List.map_map];rfl)
        have hDn:D.length≤63:=by omega
        have HDL:=Lib.hid hDl
        have hx1:(0:Int)≤1∧(1:Int)≤(s.size:Int):=by omega
        clear hln hl0 hg0 HPE2 HER hT hM ht hc htd hct hcB hD hDd hts hDs
        generalize s.data.toList.count 47=cn at *
        generalize l0.count 47+1=dn at *
        go_enter Tryd.func11,Tryd.ntmps11
        go_wp2_with fail
        refine KV.out.mono ?_
        rintro r w1 ⟨rfl,hb1⟩
        have HB:=Lib.hid hb1
        clear hb1
        go_wp2_with fail
        refine (KT.out _).mono ?_
        rintro r w2 ⟨rfl,hb2⟩
        have HB2:=Lib.hid (HB.out.trans (hb2.mono HB.out.size))
        clear hb2
        go_wp2_with fail
        refine (KC.out _).mono ?_
        rintro r w3 ⟨rfl,rfl⟩
        have KS2:=Lib.hid (KS.out w3 HB2.out)
        clear KS
        go_wp2_with fail
        refine KS2.out.mono ?_
        rintro r w4 ⟨rfl,hw4⟩
        have hblk:BlkV w4 w3.heap.size 9 (sv D):=by rw [hw4];exact heap_alloc_new w3 _
        have hbt:But w3.heap.size w3 w4:=by rw [hw4];exact But.of_below ((Below.refl _ _).alloc (Nat.le_refl _) _)
        have HST:=Lib.hid (show PaI D w3.heap.size w3 dn dn (.int .i64 0) w4 from ⟨0,by omega,by omega,rfl,by simpa using hblk,hbt⟩)
        have hsz:=HB2.out.size
        have HBW:=Lib.hid (fun W (h:But w3.heap.size w3 W)=>HB2.out.trans (h.below hsz hsz))
        clear hw4 hblk hbt KS2 KV KT KC HB HB2 hsz
        obtain ⟨g,hg⟩:∃ g,w3.heap.size=g:=⟨_,rfl⟩
        rw [hg] at HST HBW ⊢
        clear hg
        go_wp2
        go_loopg [33] dn (fun k i wr=>PaI D g w3 dn k i wr)
        case atStart=>exact HST.out
        case round =>
          obtain ⟨j,hj,hk,rfl,hblk,hbut⟩:=hrel
          by_cases hlt:j<dn
          · obtain ⟨k,rfl⟩:∃ k,gk=k+1:=⟨gk - 1,by omega⟩
            have hjz:(j:Int)<(dn:Int):=by omega
            have hjD:j<D.length:=by rw [HDL.out];exact hlt
            have hc:=hblk.cell j
            rw [pa_get D j hjD] at hc
            have hf:=hblk.free j
            have HBK:=Lib.hid hblk
            have HBT:=Lib.hid hbut
            have KP1:=Lib.hid (KP.out (D.getD j ByteArray.empty) wr (by simp [List.getD,hjD]) (HBW.out _ hbut))
            have HSE:=Lib.hid (pa_set D j hjD)
            have hgl:=hblk.lt
            clear hblk hbut
            generalize D.getD j ByteArray.empty=x at *
            go_wp2_with fail
            refine KP1.out.mono ?_
            rintro r w5 ⟨rfl,hb5⟩
            have hb6:=HBK.out.below hb5 hgl
            have hc5:w5.cell? ⟨g,j,none⟩=some (.string x):=(hb5.cell (p:=⟨g,j,none⟩) hgl).trans hc
            have hf5:=hb6.free j
            have HN:=Lib.hid (show PaI D g w3 dn k (.int .i64 ((j:Int)+1)) (w5.setCell ⟨g,j,none⟩ (.string (mkB (plainL x.data.toList)))) from
              ⟨j+1,by omega,by omega,rfl,by rw [← HSE.out];exact hb6.set j _,(HBT.out.trans (But.of_below hb5)).setCell j _⟩)
            clear hb6 hb5 HBK HBT KP1 HSE hc hf
            go_wp2
            go_roundg k
            case rel=>exact HN.out
            case measure=>omega
          · obtain rfl:j=dn:=by omega
            have hjz:¬ (j:Int)<(j:Int):=by omega
            rw [← HDL.out,List.take_length,List.drop_length,List.append_nil] at hblk
            have HFN:=Lib.hid (show ParseA s.data.toList w (.returned (.tuple #[.slice (some ⟨g,0,none⟩) j j,.int .i64 0])) wr from
              .inr ⟨D.map (fun x=>plainL x.data.toList),some ⟨g,0,none⟩,j,HPF.out,by rw [List.length_map,HDL.out],by rw [List.length_map,HDL.out];exact Nat.le_refl _,by rw [List.map_map];exact hblk.all,by rw [List.length_map];omega,HBW.out _ hbut⟩)
            clear hblk hbut
            go_wp2
            go_ret2
            exact HFN.out
theorem bldP_below {T e:TypeId} {B b:Nat} {bs:List Value} {w w':World} (h:Lib.IsBuilderF T e B b bs w) (hb:Below w.heap.size w w'):Lib.IsBuilderF T e B b bs w':=by
  have key:∀ p,Lib.BuilderAtF T e B b p bs w→Lib.BuilderAtF T e B b p bs w':=by
    intro p h
    have hlt:=h.lt
    obtain ⟨hB,v,hv,hown,hne⟩:=h
    refine ⟨hB,v,by rw [hb.block b hlt];exact hv,⟨hown.1,?_⟩,hne⟩
    rcases hown.2 with h2 | ⟨g,cap,cur,fz,rfl,hB2,hg,rest⟩
    · exact .inl h2
    · refine .inr ⟨g,cap,cur,fz,rfl,hB2,?_,rest⟩
      rw [hb.block g (Array.getElem?_eq_some_iff.1 hg).1];exact hg
  exact h.elim (fun x=>.inl (key _ x)) (fun x=>.inr (key _ x))
def ldat (l:List ByteArray):List (List UInt8):=l.map fun x=>x.data.toList
theorem escPt_len (l:List UInt8):(escPt l).length≤2*l.length:=by
  induction l with
  | nil=>simp [escPt]
  | cons b l ih =>
    rw [esc_cons,List.length_append]
    have:(if b=126 then [126,48] else if b=47 then [126,49] else [b]:List UInt8).length≤2:=by split;simp;split <;> simp
    simp;omega
theorem textP_len (p:List (List UInt8)) (m:Nat) (h:∀ t∈p,t.length≤m):(txtPt p).length≤p.length*(1+2*m):=by
  induction p with
  | nil=>simp [txtPt]
  | cons t p ih =>
    rw [textP_cons,List.length_cons,List.length_append,List.length_cons,Nat.succ_mul]
    have h1:=escPt_len t
    have h2:=h t (by simp)
    have h3:=ih (fun x hx=>h x (by simp [hx]))
    omega
theorem textP_step (l:List ByteArray) (j:Nat) (h:j<l.length):txtPt (ldat (l.take (j+1)))=txtPt (ldat (l.take j))++47::escPt (l.getD j ByteArray.empty).data.toList:=by
  have:l.take (j+1)=l.take j++[l.getD j ByteArray.empty]:=by rw [List.take_add_one];simp [List.getD,h]
  rw [this];unfold ldat;rw [List.map_append,textP_append,List.map_singleton,textP_cons,textP_nil,List.append_nil]
theorem one_len (q:List UInt8):(q.flatMap fun b=>if b=126 then [126,48] else [b]).length≤2*q.length:=by
  induction q with
  | nil=>simp
  | cons b q ih =>
    rw [List.flatMap_cons,List.length_append,List.length_cons]
    have:(if b=126 then [126,48] else [b]:List UInt8).length≤2:=by split <;> simp
    omega
def TxI (l:List ByteArray) (B b n:Nat) (w:World) (k:Nat) (i:Value) (wr:World):Prop :=
  ∃ j:Nat,j≤n∧n - j≤k∧i=.int .i64 (j:Int)∧Lib.IsBuilderF 68 5 B b (Lib.byteCells (txtPt (ldat (l.take j)))) wr∧Below B w wr∧b<wr.heap.size
theorem ptText_any (ad:Option Addr) (n cap:Nat) (l:List ByteArray) (w:World) (hM:ML w) (hl:l.length=n) (hcap:n≤cap) (hn:n≤1000) (hs:∀ x∈l,x.size≤1000000) (hr:RdV w ad (sv l)) :
    Calls Tryd.prog 16 #[.slice ad n cap] w fun e w'=>e=.returned (.string (mkB (txtPt (ldat l))))∧Below w.heap.size w w':=by
  have KR1:=Lib.hid (fun (s:ByteArray) W (h:Below w.heap.size w W) (hs:s.size≤4000000000)=>repAll_any s ⟨#[126]⟩ ⟨#[126,48]⟩ W (hM.below h) hs (by decide) (by decide))
  have KR2:=Lib.hid (fun (s:ByteArray) W (h:Below w.heap.size w W) (hs:s.size≤4000000000)=>repAll_any s ⟨#[47]⟩ ⟨#[126,49]⟩ W (hM.below h) hs (by decide) (by decide))
  have HLEN:=Lib.hid (fun (j:Nat)=>(by
    have h1:=textP_len (ldat (l.take j)) 1000000 (fun t ht=>by
      unfold ldat at ht
      obtain ⟨x,hx,rfl⟩:=List.mem_map.1 ht
      have:=hs x (List.mem_of_mem_take hx)
      rw [← Lib.size_eq];exact this)
    have h2:(ldat (l.take j)).length≤1000:=by simp [ldat];omega
    have h3:=Nat.mul_le_mul_right (1+2*1000000) h2
    omega:(txtPt (ldat (l.take j))).length≤3000000000))
  have HS:=Lib.hid hs
  have HR:=Lib.hid hr
  have HL:=Lib.hid hl
  obtain ⟨w0,hw0⟩:∃ W,w.alloc (.cells #[.pointer none,.slice none 0 0] 68)=W:=⟨_,rfl⟩
  have hb0:Below w.heap.size w w0:=by rw [← hw0];exact (Below.refl _ _).alloc (Nat.le_refl _) _
  have hbf:Lib.IsBuilderF 68 5 w.heap.size w.heap.size (Lib.byteCells []) w0:=by
    refine Lib.IsBuilderF.of (.inl ⟨Nat.le_refl _,.slice none 0 0,?_,World.ownsRow_nil _ _ _ _,by simp [Value.ownBlock]⟩)
    rw [← hw0];exact heap_alloc_new w _
  have HST:=Lib.hid (show TxI l w.heap.size w.heap.size n w n (.int .i64 0) w0 from ⟨0,by omega,by omega,rfl,by simpa [ldat,txtPt] using hbf,hb0,by rw [← hw0];simp⟩)
  have HW:=Lib.hid (show TxI l w.heap.size w.heap.size n w n (.int .i64 0) (w.alloc (.cells #[.pointer none,.slice none 0 0] 68)) by rw [hw0];exact HST.out)
  clear hs hr hl hM hw0 hb0 hbf HST w0
  have HUN:=Lib.hid (fun W (h:Below w.heap.size w W)=>h.size)
  go_enter Tryd.func16,Tryd.ntmps16
  go_wp2
  obtain ⟨B,hB⟩:∃ B,w.heap.size=B:=⟨_,rfl⟩
  have HRW:=Lib.hid (fun W (h:Below B w W)=>HR.out.on (by rw [hB];exact h))
  rw [hB] at HW HUN KR1 KR2 ⊢
  have HB0:=Lib.hid hB
  clear hB
  go_loopg [8] n (fun k i wr=>TxI l B B n w k i wr)
  case atStart=>exact HW.out
  case round =>
    obtain ⟨j,hj,hk,rfl,hI,hbl,hlt⟩:=hrel
    by_cases hjn:j<n
    · obtain ⟨k,rfl⟩:∃ k,gk=k+1:=⟨gk - 1,by omega⟩
      have hjz:(j:Int)<(n:Int):=by omega
      have hjl:j<l.length:=by rw [HL.out];exact hjn
      obtain ⟨bk,o,rfl,_,hc⟩:=HRW.out wr hbl j (by rw [sv_len];exact hjl)
      rw [sv_get _ _ hjl] at hc
      have hxs:(l.getD j ByteArray.empty).size≤1000000:=HS.out _ (by simp [List.getD,hjl])
      have htk:=textP_step l j hjl
      have hesc:=esc_eq (l.getD j ByteArray.empty).data.toList
      have h1:=HLEN.out j
      have h2:=HLEN.out (j+1)
      have h3:(Lib.replaceAll (l.getD j ByteArray.empty).data.toList [126] [126,48]).length≤2*(l.getD j ByteArray.empty).size:=by
        rw [repl_one _ _ (by decide),Lib.size_eq];exact one_len _
      generalize l.getD j ByteArray.empty=x at *
      generalize txtPt (ldat (l.take j))=acc at *
      have HTK:=Lib.hid htk
      have HESC:=Lib.hid hesc
      have KB:=Lib.hid (writeByte_k B B (Lib.byteCells acc) 47 wr hI (by rw [Lib.byteCells_length];omega) (HUN.out _ hbl))
      have HBL:=Lib.hid hbl
      clear htk hesc hI hbl
      go_wp2_with fail
      refine KB.out.mono ?_
      rintro r w2 ⟨rfl,h2b,hb2,_⟩
      have hbl2:=HBL.out.trans hb2
      have hlt2:B<w2.heap.size:=by have:=hb2.size;omega
      have hI2:Lib.IsBuilderF 68 5 B B (Lib.byteCells (acc++[47])) w2:=by
        rw [Lib.byteCells_append];exact .inr h2b
      have K1:=Lib.hid (KR1.out x w2 hbl2 (by omega))
      have HI2:=Lib.hid hI2
      have HBL2:=Lib.hid hbl2
      clear h2b hb2 hbl2 hI2 KB HBL
      go_wp2_with fail
      refine K1.out.mono ?_
      rintro r w3 ⟨rfl,hb3⟩
      have hI3:=bldP_below HI2.out hb3
      have hbl3:=HBL2.out.trans (hb3.mono (HUN.out _ HBL2.out))
      have K2:=Lib.hid (KR2.out (mkB (Lib.replaceAll x.data.toList [126] [126,48])) w3 hbl3 (by rw [mkB_size];omega))
      rw [mkB_list] at K2
      have HI3:=Lib.hid hI3
      have HBL3:=Lib.hid hbl3
      have hs3:=hb3.size
      clear hb3 hI3 hbl3 HI2 HBL2 K1
      generalize mkB (Lib.replaceAll x.data.toList [126] [126,48])=y at *
      go_wp2_with fail
      refine K2.out.mono ?_
      rintro r w4 ⟨rfl,hb4⟩
      rw [HESC.out]
      have hI4:=bldP_below HI3.out hb4
      have hbl4:=HBL3.out.trans (hb4.mono (HUN.out _ HBL3.out))
      have hs4:=hb4.size
      have hle:=congrArg List.length HTK.out
      rw [List.length_append,List.length_cons] at hle
      have KW:=Lib.hid (writeString_k B B (Lib.byteCells (acc++[47])) (mkB (escPt x.data.toList)) w4 hI4 (by rw [Lib.byteCells_length,List.length_append,mkB_size];simp;omega) (HUN.out _ hbl4))
      have HBL4:=Lib.hid hbl4
      clear hb4 hI4 hbl4 HI3 HBL3 K2 hle
      have HMS:=Lib.hid (show Lib.byteCells (acc++[47])++Lib.strCells (mkB (escPt x.data.toList))=Lib.byteCells (txtPt (ldat (l.take (j+1)))) by
        have hxc:Lib.strCells (mkB (escPt x.data.toList))=Lib.byteCells (escPt x.data.toList):=by unfold Lib.strCells;rw [mkB_list];rfl
        rw [HTK.out,hxc,← Lib.byteCells_append,List.append_assoc];rfl)
      generalize mkB (escPt x.data.toList)=z at *
      go_wp2_with fail
      refine KW.out.mono ?_
      rintro r w5 ⟨rfl,h5,hb5,_⟩
      rw [HMS.out] at h5
      have HN:=Lib.hid (show TxI l B B n w k (.int .i64 ((j:Int)+1)) w5 from ⟨j+1,by omega,by omega,rfl,.inr h5,HBL4.out.trans hb5,by have:=hb5.size;omega⟩)
      clear h5 hb5 KW
      go_wp2
      go_roundg k
      case rel=>exact HN.out
      case measure=>omega
    · obtain rfl:j=n:=by omega
      have hjz:¬ (j:Int)<(j:Int):=by omega
      rw [← HL.out,List.take_length] at hI
      have KS:=Lib.hid (Tryd.Builder_String_any_k B B (txtPt (ldat l)) wr hI (HUN.out _ hbl))
      have HBL:=Lib.hid hbl
      clear hI hbl
      go_wp2_with fail
      refine KS.out.mono ?_
      rintro r w2 ⟨rfl,_,hb2,_⟩
      have HF:=Lib.hid (HBL.out.trans hb2)
      clear hb2 KS
      go_wp2
      go_ret
      exact ⟨rfl,by rw [HB0.out];exact HF.out⟩
theorem sameStrP_any (ad:Option Addr) (n cap:Nat) (l:List ByteArray) (ad':Option Addr) (cap':Nat) (w:World) (hl:l.length=n) (hc:n≤cap) (hc':n≤cap') (hm:n≤1000000000) (hr:RdV w ad (sv l)) (hr':RdV w ad' (sv l)) :
    Calls Tryd.prog 15 #[.slice ad n cap,.slice ad' n cap'] w fun e w'=>e=.returned (.bool true)∧∃ q,w'=w.drewN q:=by
  have HN:=Lib.hid hl;have HR:=Lib.hid hr;have HR':=Lib.hid hr'
  clear hl hr hr'
  have h0:((n:Int) != (n:Int))=false:=by simp
  go_enter Tryd.func15,Tryd.ntmps15
  go_wp2
  clear h0
  go_loopw [5] (fun i wr=>∃ k q:Nat,k≤n∧i=.int .i64 (k:Int)∧wr=w.drewN q) (fun i _=>n - (intOf i).toNat)
  case atStart=>exact ⟨0,0,Nat.zero_le _,rfl,rfl⟩
  case round =>
    obtain ⟨k,q,hk,rfl,hq⟩:=hrel
    by_cases hlt:k<n
    · have h1:(k:Int)<(n:Int):=by omega
      have h2:(0:Int)≤(k:Int):=by omega
      obtain ⟨b,o,rfl,_,hc1⟩:=HR.out k (by rw [sv_len,HN.out];exact hlt)
      obtain ⟨b',o',rfl,_,hc2⟩:=HR'.out k (by rw [sv_len,HN.out];exact hlt)
      rw [sv_get _ _ (by rw [HN.out];exact hlt)] at hc1 hc2
      generalize l.getD k ByteArray.empty=x at hc1 hc2
      have h3:(x.toList == x.toList)=true:=by simp
      subst hq
      go_wp2
      go_quiet (fail)
      go_wp2
      go_roundw
      case rel=>exact ⟨k+1,_,by omega,by go_num,rfl⟩
      case measure=>simp [intOf];omega
    · obtain rfl:k=n:=by omega
      have h1:¬ (k:Int)<(k:Int):=by omega
      subst hq
      go_wp2
      go_ret
      exact ⟨rfl,_,rfl⟩
theorem awp_parse:parsePt [47,97,126,49,98,47,48]=.inl [[97,47,98],[48]]:=by decide +kernel
theorem awp_text:txtPt [[97,47,98],[48]]=[47,97,126,49,98,47,48]:=by decide +kernel
/-- The document's example. -/
theorem awake14_any (w:World) (hT:UT w) (hM:ML w):Calls Tryd.prog 10 #[] w fun e w'=>e=.returned (.bool true)∧Below w.heap.size w w':=by
  have KP:=Lib.hid (parseP_any ⟨#[47,97,126,49,98,47,48]⟩ w hT hM (by decide))
  have HM:=Lib.hid (fun W (h:Below w.heap.size w W)=>hM.below h)
  clear hT hM
  go_enter Tryd.func10,Tryd.ntmps10
  go_wp2_with fail
  refine KP.out.mono ?_
  intro r w1 hp
  rcases hp with ⟨x,h1,_⟩ | ⟨p,ad,cap,h1,rfl,h3,h4,h5,h6⟩
  · rw [awp_parse] at h1;cases h1
  · rw [awp_parse] at h1
    obtain rfl:p=[[97,47,98],[48]]:=(Sum.inl.inj h1).symm
    have h2:([[97,47,98],[48]]:List (List UInt8)).length=2:=rfl
    rw [h2] at h3 h5
    have h7:([[97,47,98],[48]]:List (List UInt8)).map mkB=[⟨#[97,47,98]⟩,⟨#[48]⟩]:=rfl
    rw [h7] at h4
    rw [h2]
    clear h1 h2 h5 h7 KP
    obtain ⟨w2,hw2⟩:∃ W,w1.alloc (.cells #[.string ⟨#[97,47,98]⟩,.string ⟨#[48]⟩] 9)=W:=⟨_,rfl⟩
    have hb2:Below w1.heap.size w1 w2:=by rw [← hw2];exact (Below.refl _ _).alloc (Nat.le_refl _) _
    have hr2:RdV w2 (some ⟨w1.heap.size,0,none⟩) (sv [⟨#[97,47,98]⟩,⟨#[48]⟩]):=by
      have:BlkV w2 w1.heap.size 9 (sv [⟨#[97,47,98]⟩,⟨#[48]⟩]):=by rw [← hw2];exact heap_alloc_new w1 _
      exact this.all
    have KS:=Lib.hid (sameStrP_any ad 2 cap [⟨#[97,47,98]⟩,⟨#[48]⟩] (some ⟨w1.heap.size,0,none⟩) 2 w2 rfl h3 (Nat.le_refl _) (by decide) (h4.on hb2) hr2)
    have hb22:=h6.trans (hb2.mono h6.size)
    have KX:=Lib.hid (fun q=>ptText_any ad 2 cap [⟨#[97,47,98]⟩,⟨#[48]⟩] (w2.drewN q) (HM.out _ (below_drewN hb22 q)) rfl h3 (by decide) (by intro x hx;simp at hx;rcases hx with rfl | rfl <;> decide) (h4.on (below_drewN hb2 q)))
    have HB:=Lib.hid hb22
    have HW:=Lib.hid hw2
    clear h4 h6 hb2 hr2 hb22 hw2
    go_wp2_with fail
    rw [HW.out]
    refine KS.out.mono ?_
    rintro r w3 ⟨rfl,q,rfl⟩
    have KX1:=Lib.hid (KX.out q)
    have hbq:=below_drewN HB.out q
    have HBQ:=Lib.hid hbq
    clear KX KS hbq HW
    generalize w2.drewN q=w3 at *
    go_wp2_with fail
    refine KX1.out.mono ?_
    rintro r w4 ⟨rfl,hb4⟩
    have HF:=Lib.hid (HBQ.out.trans (hb4.mono HBQ.out.size))
    have e:mkB (txtPt (ldat [⟨#[97,47,98]⟩,⟨#[48]⟩]))=⟨#[47,97,126,49,98,47,48]⟩:=by
      have:ldat [⟨#[97,47,98]⟩,⟨#[48]⟩]=[[97,47,98],[48]]:=rfl
      rw [this,awp_text];rfl
    rw [e]
    clear hb4 KX1 e
    go_wp2
    go_ret
    exact ⟨rfl,HF.out⟩
end Go.Proofs.YtapicpdfdjofaaaDoor
namespace Go.Proofs.YtapicpdfdjofaaaDoor
open Go.RowKit
inductive MT where
  | mk (c:Cel) (m:List Nat) (k:List ByteArray) (v:List MT)
def MT.c:MT→Cel | .mk c _ _ _=>c
def MT.m:MT→List Nat | .mk _ m _ _=>m
def MT.k:MT→List ByteArray | .mk _ _ k _=>k
def MT.v:MT→List MT | .mk _ _ _ v=>v
mutual
def MT.nodes:MT→Nat | .mk _ _ _ v=>1+MT.nodesL v
def MT.nodesL:List MT→Nat | []=>0 | t::l=>MT.nodes t+MT.nodesL l
end
mutual
/-- All nodes of a tree,each with how deep it is,each ahead of those in it. -/
def MT.pre:MT→Nat→List (Nat × MT) | .mk c m k v,d=>(d,.mk c m k v)::MT.preL v (d+1)
def MT.preL:List MT→Nat→List (Nat × MT) | [],_=>[] | t::l,d=>MT.pre t d++MT.preL l d
end
theorem MT.pre_eq (t:MT) (d:Nat):t.pre d=(d,t)::MT.preL t.v (d+1):=by cases t;rw [MT.pre];rfl
theorem MT.preL_nil (d:Nat):MT.preL [] d=[]:=by rw [MT.preL]
theorem MT.preL_cons (t:MT) (l:List MT) (d:Nat):MT.preL (t::l) d=t.pre d++MT.preL l d:=by rw [MT.preL]
theorem MT.nodes_eq (t:MT):t.nodes=1+MT.nodesL t.v:=by cases t;rw [MT.nodes];rfl
theorem MT.nodesL_nil:MT.nodesL []=0:=by rw [MT.nodesL]
theorem MT.nodesL_cons (t:MT) (l:List MT):MT.nodesL (t::l)=t.nodes+MT.nodesL l:=by rw [MT.nodesL]
theorem MT.nodes_pos (t:MT):1≤t.nodes:=by rw [MT.nodes_eq];omega
theorem MT.nodes_mem {t:MT} {l:List MT} (h:t∈l):t.nodes≤MT.nodesL l:=by
  induction l with
  | nil=>cases h
  | cons x l ih =>
    rw [MT.nodesL_cons]
    rcases List.mem_cons.1 h with rfl | h
    · omega
    · have:=ih h;omega
theorem MT.ind {P:MT→Prop} (h:∀ t,(∀ s∈t.v,P s)→P t):∀ t,P t:=by
  have key:∀ n t,MT.nodes t≤n→P t:=by
    intro n
    induction n with
    | zero=>intro t ht;have:=t.nodes_pos;omega
    | succ n ih =>
      intro t ht
      refine h t fun s hs=>ih s ?_
      have:=MT.nodes_mem hs
      rw [MT.nodes_eq] at ht
      omega
  exact fun t=>key _ t (Nat.le_refl _)
theorem MT.mem_preL {l:List MT} {d:Nat} {x:Nat × MT}:x∈MT.preL l d ↔ ∃ s∈l,x∈s.pre d:=by
  induction l with
  | nil=>rw [MT.preL_nil];simp
  | cons t l ih=>rw [MT.preL_cons,List.mem_append,ih];simp
theorem MT.mem_pre_shift (t:MT):∀ d e s,(∃ n,(n,s)∈t.pre d)→∃ n,(n,s)∈t.pre e :=
  MT.ind (P:=fun t=>∀ d e s,(∃ n,(n,s)∈t.pre d)→∃ n,(n,s)∈t.pre e) (fun t ih d e s h=>by
    obtain ⟨n,h⟩:=h
    rw [MT.pre_eq,List.mem_cons] at h
    rcases h with h | h
    · exact ⟨e,by rw [MT.pre_eq];simp at h ⊢;exact .inl h.2⟩
    · obtain ⟨u,hu,hx⟩:=MT.mem_preL.1 h
      obtain ⟨n',h'⟩:=ih u hu (d+1) (e+1) s ⟨n,hx⟩
      exact ⟨n',by rw [MT.pre_eq];exact List.mem_cons_of_mem _ (MT.mem_preL.2 ⟨u,hu,h'⟩)⟩) t
def MT.sub (t s:MT):Prop:=∃ n,(n,s)∈t.pre 0
theorem MT.sub_refl (t:MT):t.sub t:=⟨0,by rw [MT.pre_eq];simp⟩
theorem MT.sub_v {t u s:MT} (hu:u∈t.v) (h:u.sub s):t.sub s:=by
  obtain ⟨n,h⟩:=MT.mem_pre_shift u 0 1 s h
  exact ⟨n,by rw [MT.pre_eq];exact List.mem_cons_of_mem _ (MT.mem_preL.2 ⟨u,hu,h⟩)⟩
theorem MT.sub_cases {t s:MT} (h:t.sub s):s=t∨∃ u∈t.v,u.sub s:=by
  obtain ⟨n,h⟩:=h
  rw [MT.pre_eq,List.mem_cons] at h
  rcases h with h | h
  · left;simp at h;exact h.2
  · right
    obtain ⟨u,hu,hx⟩:=MT.mem_preL.1 h
    exact ⟨u,hu,MT.mem_pre_shift u 1 0 s ⟨n,hx⟩⟩
structure Rd1 (w:World) (t:MT):Prop where
  mn:t.m.length=t.c.mn
  mc:t.c.mn≤t.c.mc
  mo:Okl t.m
  mr:Rd w t.c.ma t.m
  kn:t.k.length=t.c.kn
  kc:t.c.kn≤t.c.kc
  kr:RdV w t.c.ka (sv t.k)
  vn:t.v.length=t.c.vn
  vc:t.c.vn≤t.c.vc
  vr:RdV w t.c.va (flat (t.v.map MT.c))
  lm:t.c.mn≤1000000000000000∧t.c.kn≤1000000000000000∧t.c.vn≤1000000000000000
  ls:t.c.s.size≤maxLen
  lk:∀ s∈t.k,s.size≤maxLen
  le:-9223372036854775808≤t.c.e∧t.c.e≤9223372036854775807
  lq:-9223372036854775808≤t.c.k∧t.c.k≤9223372036854775807
def Rep (w:World) (t:MT):Prop:=∀ s,t.sub s→Rd1 w s
theorem Rep.own {w:World} {t:MT} (h:Rep w t):Rd1 w t:=h t t.sub_refl
theorem Rep.part {w:World} {t s:MT} (h:Rep w t) (hs:s∈t.v):Rep w s:=fun u hu=>h u (MT.sub_v hs hu)
theorem Rep.mk {w:World} {t:MT} (h1:Rd1 w t) (h2:∀ s∈t.v,Rep w s):Rep w t:=by
  intro u hu
  rcases MT.sub_cases hu with rfl | ⟨s,hs,hu⟩
  · exact h1
  · exact h2 s hs u hu
theorem Rd1.on {w w':World} {t:MT} (h:Rd1 w t) (hb:Below w.heap.size w w'):Rd1 w' t :=
  ⟨h.mn,h.mc,h.mo,h.mr.below hb,h.kn,h.kc,h.kr.on hb,h.vn,h.vc,h.vr.on hb,h.lm,h.ls,h.lk,h.le,h.lq⟩
theorem Rep.on {w w':World} {t:MT} (h:Rep w t) (hb:Below w.heap.size w w'):Rep w' t:=fun s hs=>(h s hs).on hb
structure SE where
  ad:Option Addr
  n:Nat
  cap:Nat
  l:List MT
def SE.val (s:SE):Value:=.slice s.ad s.n s.cap
structure SEOk (w:World) (s:SE):Prop where
  ln:s.l.length=s.n
  lc:s.n≤s.cap
  lm:s.n≤1000000000000000
  rd:RdV w s.ad (flat (s.l.map MT.c))
  rp:∀ t∈s.l,Rep w t
theorem SEOk.on {w w':World} {s:SE} (h:SEOk w s) (hb:Below w.heap.size w w'):SEOk w' s :=
  ⟨h.ln,h.lc,h.lm,h.rd.on hb,fun t ht=>(h.rp t ht).on hb⟩
end Go.Proofs.YtapicpdfdjofaaaDoor
namespace Go.Proofs.YtapicpdfdjofaaaDoor
open Go.RowKit Go.Shelf
structure KeepB (V:Nat→Prop) (w w':World):Prop where
  os:w'.os=w.os
  tape:w'.tape=w.tape
  output:w'.output=w.output
  size:w.heap.size≤w'.heap.size
  block:∀ k,k<w.heap.size→¬ V k→w'.heap[k]? = w.heap[k]?
theorem KeepB.refl (V:Nat→Prop) (w:World):KeepB V w w:=⟨rfl,rfl,rfl,Nat.le_refl _,fun _ _ _=>rfl⟩
theorem KeepB.trans {V:Nat→Prop} {a b c:World} (h:KeepB V a b) (k:KeepB V b c):KeepB V a c :=
  ⟨k.os.trans h.os,k.tape.trans h.tape,k.output.trans h.output,Nat.le_trans h.size k.size,fun i hi hn=>(k.block i (Nat.lt_of_lt_of_le hi h.size) hn).trans (h.block i hi hn)⟩
theorem KeepB.of_below {V:Nat→Prop} {a b:World} (h:Below a.heap.size a b):KeepB V a b:=⟨h.os,h.tape,h.output,h.size,fun k hk _=>h.block k hk⟩
theorem KeepB.alloc {V:Nat→Prop} {a w:World} (h:KeepB V a w) (o:Obj):KeepB V a (w.alloc o):=h.trans (KeepB.of_below ((Below.refl _ w).alloc (Nat.le_refl _) o))
theorem KeepB.drewN {V:Nat→Prop} {a w:World} (h:KeepB V a w) (n:Nat):KeepB V a (w.drewN n):=h.trans ⟨rfl,rfl,rfl,Nat.le_refl _,fun _ _ _=>rfl⟩
theorem KeepB.drew {V:Nat→Prop} {a w:World} (h:KeepB V a w):KeepB V a w.drew:=h.trans ⟨rfl,rfl,rfl,Nat.le_refl _,fun _ _ _=>rfl⟩
theorem KeepB.setCell {V:Nat→Prop} {a w:World} (h:KeepB V a w) {p:Addr} (hp:V p.block∨a.heap.size≤p.block) (u:Value):KeepB V a (w.setCell p u):=by
  refine ⟨h.os,h.tape,h.output,by simp [World.setCell];exact h.size,fun k hk hn=>?_⟩
  rw [Below.heap_setCell _ _ _ _ (by rintro rfl;rcases hp with hp | hp;exact hn hp;omega)]
  exact h.block k hk hn
theorem KeepB.below {V:Nat→Prop} {w w':World} (h:KeepB V w w') {B:Nat} (hB:B≤w.heap.size) (hv:∀ k,V k→B≤k):Below B w w' :=
  ⟨h.os,h.tape,h.output,h.size,fun k hk=>h.block k (by omega) (fun e=>by have:=hv k e;omega)⟩
theorem KeepB.cell {V:Nat→Prop} {w w':World} (h:KeepB V w w') {p:Addr} (hp:p.block<w.heap.size) (hn:¬ V p.block):w'.cell? p=w.cell? p:=World.cell?_of_block (w:=w) (h.block p.block hp hn)
attribute [local go_sem] Oper.semAt_some
theorem KeepB.grown {V:Nat→Prop} {a w w':World} {row:Option Nat} (h:KeepB V a w) (hg:w.grownBy w' row) (hr:∀ k,row=some k→a.heap.size≤k):KeepB V a w' :=
  ⟨hg.os.trans h.os,hg.tape.trans h.tape,hg.output.trans h.output,Nat.le_trans h.size hg.size,fun k h1 h2=>by
    rw [hg.block k (Nat.lt_of_lt_of_le h1 h.size) (fun e=>by have:=hr k e.symm;omega)];exact h.block k h1 h2⟩
def BoxT (w:World) (b:Nat) (c:Cel):Prop:=w.heap[b]? = some (.cells c.cells.toArray 28)
theorem BoxT.cells {w:World} {b:Nat} {c:Cel} (h:BoxT w b c) :
    w.cell? ⟨b,0,none⟩=some (.int .i64 c.k)∧w.cell? ⟨b,1,none⟩=some (.bool c.b)∧w.cell? ⟨b,2,none⟩=some (.bool c.neg)∧w.cell? ⟨b,3,none⟩=some (.slice c.ma c.mn c.mc) ∧
    w.cell? ⟨b,4,none⟩=some (.int .i64 c.e)∧w.cell? ⟨b,5,none⟩=some (.string c.s)∧w.cell? ⟨b,6,none⟩=some (.slice c.ka c.kn c.kc)∧w.cell? ⟨b,7,none⟩=some (.slice c.va c.vn c.vc):=by
  unfold BoxT at h
  simp [World.cell?,h,Cel.cells]
theorem BoxT.lt {w:World} {b:Nat} {c:Cel} (h:BoxT w b c):b<w.heap.size:=(Array.getElem?_eq_some_iff.1 h).1
theorem BoxT.on {w w':World} {b:Nat} {c:Cel} (h:BoxT w b c) (hb:w'.heap[b]? = w.heap[b]?):BoxT w' b c:=by unfold BoxT;rw [hb];exact h
theorem BoxT.free {w:World} {b:Nat} {c:Cel} (h:BoxT w b c) (i:Nat):w.frozen? ⟨b,i,none⟩=false:=by
  unfold BoxT at h;simp [World.frozen?,h]
end Go.Proofs.YtapicpdfdjofaaaDoor
