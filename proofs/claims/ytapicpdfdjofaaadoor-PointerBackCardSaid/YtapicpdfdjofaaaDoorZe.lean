/- Texts of the claim. -/
import Derived.Test.YtapicpdfdjofaaaDoorZd
import Derived.Laws.AppendOwnNone
import Derived.Test.YtapicpdfdjofaaaDoorTie
import Derived.ProofKit
import Derived.OpenShut
import Derived.LaidMore
import Derived.Lay
import Derived.Lib.LaidU8T
import Derived.HandedShaped
set_option linter.unusedVariables false
set_option linter.unusedSimpArgs false
set_option maxHeartbeats 8000000
set_option maxRecDepth 100000
namespace Go.Proofs.YtapicpdfdjofaaaDoor
open Go.RowKit
theorem below_drewN {B:Nat} {a w:World} (h:Below B a w) (n:Nat):Below B a (w.drewN n):=h.trans ⟨rfl,rfl,rfl,Nat.le_refl _,fun _ _=>rfl⟩
def RdV (w:World) (ad:Option Addr) (vs:List Value):Prop :=
  ∀ i,i<vs.length→∃ b o,ad=some ⟨b,o,none⟩∧b<w.heap.size∧w.cell? ⟨b,o+i,none⟩=vs[i]?
theorem RdV.nil (w:World) (ad:Option Addr):RdV w ad []:=by intro i h;simp at h
theorem RdV.shape {w:World} {ad:Option Addr} {vs:List Value} (h:RdV w ad vs) (hp:0<vs.length):∃ b o,ad=some ⟨b,o,none⟩∧b<w.heap.size:=by
  obtain ⟨b,o,e,hb,_⟩:=h 0 hp
  exact ⟨b,o,e,hb⟩
theorem RdV.take {w:World} {ad:Option Addr} {vs:List Value} (h:RdV w ad vs) (n:Nat):RdV w ad (vs.take n):=by
  intro i hi
  rw [List.length_take] at hi
  obtain ⟨b,o,e,hb,hc⟩:=h i (by omega)
  exact ⟨b,o,e,hb,by rw [hc,List.getElem?_take];simp [show i<n by omega]⟩
theorem RdV.drop {w:World} {b o:Nat} {vs:List Value} (h:RdV w (some ⟨b,o,none⟩) vs) (k:Nat):RdV w (some ⟨b,o+k,none⟩) (vs.drop k):=by
  intro i hi
  rw [List.length_drop] at hi
  obtain ⟨b',o',e,hb,hc⟩:=h (k+i) (by omega)
  cases e
  exact ⟨b,o+k,rfl,hb,by rw [Nat.add_assoc,hc,List.getElem?_drop]⟩
theorem RdV.below {w w':World} {ad:Option Addr} {vs:List Value} (h:RdV w ad vs) {B:Nat} (hb:Below B w w') (hB:∀ a,ad=some a→0<vs.length→a.block<B):RdV w' ad vs:=by
  intro i hi
  obtain ⟨b,o,e,hlt,hc⟩:=h i hi
  have hbb:b<B:=hB _ e (by omega)
  exact ⟨b,o,e,Nat.lt_of_lt_of_le hlt hb.size,by rw [hb.cell (p:=⟨b,o+i,none⟩) hbb];exact hc⟩
theorem RdV.on {w w':World} {ad:Option Addr} {vs:List Value} (h:RdV w ad vs) (hb:Below w.heap.size w w'):RdV w' ad vs :=
  h.below hb fun a e hp=>by obtain ⟨b,o,e',hlt,_⟩:=h 0 hp;rw [e] at e';cases e';exact hlt
theorem RdV.lt {w:World} {ad:Option Addr} {vs:List Value} (h:RdV w ad vs) (a:Addr) (e:ad=some a) (hp:0<vs.length):a.block<w.heap.size:=by
  obtain ⟨b,o,e',hb⟩:=h.shape hp
  rw [e] at e';cases e';exact hb
def BlkV (w:World) (g:Nat) (e:TypeId) (vs:List Value):Prop:=w.heap[g]? = some (.cells vs.toArray e (0,0))
theorem BlkV.lt {w:World} {g:Nat} {e:TypeId} {vs:List Value} (h:BlkV w g e vs):g<w.heap.size:=by
  rcases Nat.lt_or_ge g w.heap.size with h1 | h1
  · exact h1
  · rw [BlkV,Array.getElem?_eq_none h1] at h;cases h
theorem BlkV.cell {w:World} {g:Nat} {e:TypeId} {vs:List Value} (h:BlkV w g e vs) (i:Nat):w.cell? ⟨g,i,none⟩=vs[i]?:=by
  unfold BlkV at h
  simp [World.cell?,h]
theorem BlkV.free {w:World} {g:Nat} {e:TypeId} {vs:List Value} (h:BlkV w g e vs) (i:Nat):w.frozen? ⟨g,i,none⟩=false:=by
  unfold BlkV at h
  simp [World.frozen?,h]
theorem BlkV.rd {w:World} {g:Nat} {e:TypeId} {vs:List Value} (h:BlkV w g e vs) (o n:Nat):RdV w (some ⟨g,o,none⟩) ((vs.drop o).take n):=by
  intro i hi
  rw [List.length_take,List.length_drop] at hi
  refine ⟨g,o,rfl,h.lt,?_⟩
  rw [h.cell (o+i),List.getElem?_take,List.getElem?_drop]
  simp [show i<n by omega]
theorem BlkV.all {w:World} {g:Nat} {e:TypeId} {vs:List Value} (h:BlkV w g e vs):RdV w (some ⟨g,0,none⟩) vs:=by
  have:=h.rd 0 vs.length
  simpa using this
theorem BlkV.set {w:World} {g:Nat} {e:TypeId} {vs:List Value} (h:BlkV w g e vs) (i:Nat) (v:Value):BlkV (w.setCell ⟨g,i,none⟩ v) g e (vs.set i v):=by
  have hlt:=h.lt
  unfold BlkV at h ⊢
  simp only [World.setCell,Array.getElem?_modify,h]
  simp
theorem BlkV.drewN {w:World} {g:Nat} {e:TypeId} {vs:List Value} (h:BlkV w g e vs) (q:Nat):BlkV (w.drewN q) g e vs:=h
theorem BlkV.below {w w':World} {g:Nat} {e:TypeId} {vs:List Value} (h:BlkV w g e vs) {B:Nat} (hb:Below B w w') (hg:g<B):BlkV w' g e vs:=by
  unfold BlkV;rw [hb.block g hg];exact h
structure But (g:Nat) (w w':World):Prop where
  os:w'.os=w.os
  tape:w'.tape=w.tape
  output:w'.output=w.output
  size:w.heap.size≤w'.heap.size
  block:∀ k,k<w.heap.size→k ≠ g→w'.heap[k]? = w.heap[k]?
theorem But.refl (g:Nat) (w:World):But g w w:=⟨rfl,rfl,rfl,Nat.le_refl _,fun _ _ _=>rfl⟩
theorem But.trans {g:Nat} {a b c:World} (h:But g a b) (k:But g b c):But g a c :=
  ⟨k.os.trans h.os,k.tape.trans h.tape,k.output.trans h.output,Nat.le_trans h.size k.size,fun i hi hn=>(k.block i (Nat.lt_of_lt_of_le hi h.size) hn).trans (h.block i hi hn)⟩
theorem But.of_below {g:Nat} {w w':World} (h:Below w.heap.size w w'):But g w w':=⟨h.os,h.tape,h.output,h.size,fun k hk _=>h.block k hk⟩
theorem But.drewN {g:Nat} {a w:World} (h:But g a w) (n:Nat):But g a (w.drewN n):=h.trans ⟨rfl,rfl,rfl,Nat.le_refl _,fun _ _ _=>rfl⟩
theorem But.setCell {g:Nat} {a w:World} (h:But g a w) (i:Nat) (v:Value):But g a (w.setCell ⟨g,i,none⟩ v) :=
  h.trans ⟨rfl,rfl,rfl,by simp [World.setCell],fun k _ hn=>Below.heap_setCell _ _ _ _ hn⟩
theorem But.below {g:Nat} {w w':World} (h:But g w w') {B:Nat} (hg:B≤g) (hB:B≤w.heap.size):Below B w w' :=
  ⟨h.os,h.tape,h.output,h.size,fun k hk=>h.block k (by omega) (by omega)⟩
theorem But.rd {g:Nat} {w w':World} (h:But g w w') {ad:Option Addr} {vs:List Value} (hr:RdV w ad vs) (hn:∀ a,ad=some a→0<vs.length→a.block ≠ g):RdV w' ad vs:=by
  intro i hi
  obtain ⟨b,o,e,hlt,hc⟩:=hr i hi
  exact ⟨b,o,e,Nat.lt_of_lt_of_le hlt h.size,by rw [World.cell?_of_block (w:=w) (h.block b hlt (hn _ e (by omega)))];exact hc⟩
def sv (l:List ByteArray):List Value:=l.map Value.string
theorem sv_get (l:List ByteArray) (i:Nat) (hi:i<l.length):(sv l)[i]? = some (.string (l.getD i ByteArray.empty)):=by
  simp [List.getD,hi,sv]
theorem sv_len (l:List ByteArray):(sv l).length=l.length:=by simp [sv]
section
variable {t e : TypeId} {z : Value} {bytes : Nat}
end
structure Cel where
  k:Int
  b:Bool
  neg:Bool
  ma:Option Addr
  mn:Nat
  mc:Nat
  e:Int
  s:ByteArray
  ka:Option Addr
  kn:Nat
  kc:Nat
  va:Option Addr
  vn:Nat
  vc:Nat
def Cel.cells (c:Cel):List Value:=[.int .i64 c.k,.bool c.b,.bool c.neg,(.slice c.ma c.mn c.mc),.int .i64 c.e,.string c.s,(.slice c.ka c.kn c.kc),(.slice c.va c.vn c.vc)]
def Cel.val (c:Cel):Value:=.agg #[.int .i64 c.k,.bool c.b,.bool c.neg,(.slice c.ma c.mn c.mc),.int .i64 c.e,.string c.s,(.slice c.ka c.kn c.kc),(.slice c.va c.vn c.vc)]
end Go.Proofs.YtapicpdfdjofaaaDoor
namespace Go.Proofs.YtapicpdfdjofaaaDoor
open Go.RowKit Go.Shelf
def ML (w:World):Prop:=∃ m,w.cell? ⟨0,0,none⟩=some (.int .i64 m)
theorem ML.below {w w':World} (h:ML w) (hb:Below w.heap.size w w'):ML w':=by
  obtain ⟨m,hm⟩:=h
  exact ⟨m,by rw [hb.cell (Lib.lt_of_cell hm)];exact hm⟩
def mkB (l:List UInt8):ByteArray:=⟨l.toArray⟩
theorem mkB_list (l:List UInt8):(mkB l).data.toList=l:=by simp [mkB]
theorem mkB_size (l:List UInt8):(mkB l).size=l.length:=by simp [mkB,ByteArray.size]
theorem mkB_eta (s:ByteArray):mkB s.data.toList=s:=by simp [mkB]
theorem rep2_len (a b c:UInt8):∀ (n:Nat) (l:List UInt8),l.length≤n→(rep2 a b c l).length≤l.length:=by
  intro n
  induction n with
  | zero=>intro l h;cases l with
    | nil=>simp [rep2]
    | cons x l=>simp at h
  | succ n ih =>
    intro l h
    match l with
    | []=>simp [rep2]
    | [x]=>simp [rep2]
    | x::y::l =>
      simp at h
      rw [rep2]
      split
      · have:=ih l (by omega);simp;omega
      · have:=ih (y::l) (by simp;omega);simp at this ⊢;omega
theorem plain_len (l:List UInt8):(plainL l).length≤l.length:=Nat.le_trans (rep2_len _ _ _ _ _ (Nat.le_refl _)) (rep2_len _ _ _ _ _ (Nat.le_refl _))
theorem repAll_any (s old new:ByteArray) (w:World) (hM:ML w) (hs:s.size≤4000000000) (h1:1≤old.size) (h2:new.size≤2) :
    Calls Tryd.prog 43 #[.string s,.string old,.string new] w fun e w'=>e=.returned (.string (mkB (Lib.replaceAll s.data.toList old.data.toList new.data.toList)))∧Below w.heap.size w w':=by
  obtain ⟨m,hm⟩:=hM
  have hle:=Lib.countB_le old h1 s.size s (Nat.le_refl _)
  have h3:=Nat.mul_le_mul hle h2
  exact Tryd.strings_ReplaceAll s old new m w (by omega) hm h1 (by omega)
theorem plain_any (s:ByteArray) (w:World) (hM:ML w) (hs:s.size≤4000000000) :
    Calls Tryd.prog 38 #[.string s] w fun e w'=>e=.returned (.string (mkB (plainL s.data.toList)))∧Below w.heap.size w w':=by
  have K1:=Lib.hid (repAll_any s ⟨#[126,49]⟩ ⟨#[47]⟩ w hM hs (by decide) (by decide))
  have K2:=Lib.hid (fun (t:ByteArray) W (h:Below w.heap.size w W) (ht:t.size≤4000000000)=>repAll_any t ⟨#[126,48]⟩ ⟨#[126]⟩ W (hM.below h) ht (by decide) (by decide))
  have hp:=plain_eq s.data.toList
  have hl:(Lib.replaceAll s.data.toList [126,49] [47]).length≤s.size:=by
    rw [repl_two _ _ _ _ _ (Nat.le_refl _)]
    have:=rep2_len 126 49 47 _ s.data.toList (Nat.le_refl _)
    have:=Lib.size_eq s
    omega
  have HP:=Lib.hid hp
  have HL:=Lib.hid hl
  clear hp hl hM
  go_enter Tryd.func38,Tryd.ntmps38
  go_wp2_with fail
  refine K1.out.mono ?_
  rintro r w1 ⟨rfl,hb1⟩
  have K3:=Lib.hid (K2.out (mkB (Lib.replaceAll s.data.toList [126,49] [47])) w1 hb1 (by rw [mkB_size];have:=HL.out;omega))
  rw [mkB_list] at K3
  have HB:=Lib.hid hb1
  clear hb1 K1 K2 HL
  generalize mkB (Lib.replaceAll s.data.toList [126,49] [47])=t at *
  go_wp2_with fail
  refine K3.out.mono ?_
  rintro r w2 ⟨rfl,hb2⟩
  have HF:=Lib.hid (HB.out.trans (hb2.mono HB.out.size))
  rw [HP.out]
  clear hb2 HB K3 HP
  go_wp2
  go_ret
  exact ⟨rfl,HF.out⟩
theorem spl_size (c:UInt8) (l:List UInt8):∀ t∈spl c l,t.length≤l.length:=by
  induction l with
  | nil=>intro t h;simp [spl] at h;subst h;simp
  | cons b l ih =>
    intro t h
    rw [spl] at h
    by_cases hb:b=c
    · rw [if_pos hb] at h
      rcases List.mem_cons.1 h with rfl | h
      · simp
      · have:=ih t h;simp;omega
    · rw [if_neg hb] at h
      revert h
      split
      · rename_i e;exact absurd e (spl_ne c l)
      · rename_i x m e
        rw [e] at ih
        intro h
        rcases List.mem_cons.1 h with rfl | h
        · have:=ih x (by simp);simp;omega
        · have:=ih t (by simp [h]);simp;omega
def ParseA (s:List UInt8) (w:World) (e:Ending) (w':World):Prop :=
  (∃ x,parsePt s=.inr x∧e=.returned (.tuple #[.slice none 0 0,.int .i64 x])∧Below w.heap.size w w') ∨
  (∃ p ad cap,parsePt s=.inl p∧e=.returned (.tuple #[.slice ad p.length cap,.int .i64 0])∧p.length≤cap∧RdV w' ad (sv (p.map mkB))∧p.length≤64∧Below w.heap.size w w')
def PaI (D:List ByteArray) (g:Nat) (W0:World) (n:Nat) (k:Nat) (i:Value) (wr:World):Prop :=
  ∃ j:Nat,j≤n∧n - j≤k∧i=.int .i64 (j:Int)∧BlkV wr g 9 (sv ((D.take j).map (fun x=>mkB (plainL x.data.toList))++D.drop j))∧But g W0 wr
theorem pa_get (D:List ByteArray) (j:Nat) (hj:j<D.length):(sv ((D.take j).map (fun x=>mkB (plainL x.data.toList))++D.drop j))[j]? = some (.string (D.getD j ByteArray.empty)):=by
  have hl:((D.take j).map (fun x=>mkB (plainL x.data.toList))).length=j:=by simp;omega
  rw [sv_get _ _ (by rw [List.length_append,hl,List.length_drop];omega)]
  congr 2
  rw [List.getD_eq_getElem?_getD,List.getElem?_append_right (by omega),hl,Nat.sub_self,List.getElem?_drop,List.getD_eq_getElem?_getD]
  rfl
theorem pa_set (D:List ByteArray) (j:Nat) (hj:j<D.length):(sv ((D.take j).map (fun x=>mkB (plainL x.data.toList))++D.drop j)).set j (.string (mkB (plainL (D.getD j ByteArray.empty).data.toList)))=sv ((D.take (j+1)).map (fun x=>mkB (plainL x.data.toList))++D.drop (j+1)):=by
  have hl:((D.take j).map (fun x=>mkB (plainL x.data.toList))).length=j:=by simp;omega
  have hd:D.drop j=D.getD j ByteArray.empty::D.drop (j+1):=by rw [List.drop_eq_getElem_cons hj];simp [List.getD,hj]
  have ht:D.take (j+1)=D.take j++[D.getD j ByteArray.empty]:=by rw [List.take_add_one];simp [List.getD,hj]
  unfold sv
  rw [hd,ht,List.map_append,List.set_append_right _ _ (by rw [List.length_map,hl];exact Nat.le_refl _),List.length_map,hl,Nat.sub_self]
  simp
theorem parseP_any (s:ByteArray) (w:World) (hT:UT w) (hM:ML w) (hs:s.size≤1000000000) :
    Calls Tryd.prog 11 #[.string s] w (ParseA s.data.toList w):=by
  have hln:s.data.toList.length=s.size:=by rw [Array.length_toList];rfl
  by_cases h0:s.size=0
  · have e0:=str_nil s h0
    subst e0
    have HF:=Lib.hid (show ParseA [] w (.returned (.tuple #[.slice none 0 0,.int .i64 0])) w from .inr ⟨[],none,0,rfl,rfl,Nat.le_refl _,RdV.nil _ _,by decide,Below.refl _ _⟩)
    clear hln h0 hT hM
    go_enter Tryd.func11,Tryd.ntmps11
    go_wp2
    go_ret2
    exact HF.out
  have e0:=str_ne s h0
  have h0z:0<s.size:=by omega
  obtain ⟨b0,l0,hl0⟩:∃ b l,s.data.toList=b::l:=by
    cases e:s.data.toList with
    | nil=>rw [e] at hln;simp at hln;omega
    | cons b l=>exact ⟨b,l,rfl⟩
  have hg0:s[0]'h0z=b0:=by
    have hs:0<s.data.size:=h0z
    have h1:s.data[0]? = some (s.data[0]'hs):=Array.getElem?_eq_getElem hs
    have h2:s.data.toList[0]? = some b0:=by rw [hl0];rfl
    rw [Array.getElem?_toList,h1] at h2
    exact Option.some.inj h2
  have HPE:Hid (parsePt s.data.toList=if b0 ≠ 47∨validL s.data.toList=false∨tilW false s.data.toList=false then .inr 2 else if 63<s.data.toList.count 47 then .inr 4 else .inl ((spl 47 l0).map plainL)):=Lib.hid (by rw [hl0];rfl)
  have HER:=Lib.hid (fun (x:Int) W (h:parsePt s.data.toList=.inr x) (hb:Below w.heap.size w W)=>(show ParseA s.data.toList w (.returned (.tuple #[.slice none 0 0,.int .i64 x])) W from .inl ⟨x,h,rfl,hb⟩))
  by_cases h47:b0=47
  case neg =>
    have hz:¬ (((s[0]'h0z).toNat:Nat):Int)=47:=by
      rw [hg0];intro e;apply h47;apply UInt8.toNat_inj.1;rw [show (47:UInt8).toNat=47 from rfl];omega
    have HF:=Lib.hid (HER.out 2 w (by rw [HPE.out,if_pos (.inl h47)]) (Below.refl _ _))
    clear hln hl0 hg0 HPE HER h47 hT hM
    go_enter Tryd.func11,Tryd.ntmps11
    go_wp2
    go_ret2
    exact HF.out
  subst h47
  have hz:(((s[0]'h0z).toNat:Nat):Int)=47:=by rw [hg0];rfl
  have KV:=Lib.hid (valid_any s w (by unfold maxLen;omega) hT)
  have KT:=Lib.hid (fun W=>tildes_any s W (by omega))
  cases hv:validL s.data.toList with
  | false =>
    rw [hv] at KV
    have HF:=Lib.hid (fun W h=>HER.out 2 W (by rw [HPE.out,if_pos (.inr (.inl hv))]) h)
    clear hln hl0 hg0 HPE HER hT hM hv KT
    go_enter Tryd.func11,Tryd.ntmps11
    go_wp2_with fail
    refine KV.out.mono ?_
    rintro r w1 ⟨rfl,hb1⟩
    have HF1:=Lib.hid (HF.out _ hb1)
    clear hb1
    go_wp2
    go_ret2
    exact HF1.out
  | true =>
    rw [hv] at KV
    have HV:=Lib.hid hv
    clear hv
    cases ht:tilW false s.data.toList with
    | false =>
      rw [ht] at KT
      have HF:=Lib.hid (fun W h=>HER.out 2 W (by rw [HPE.out,if_pos (.inr (.inr ht))]) h)
      clear hln hl0 hg0 HPE HER hT hM ht
      go_enter Tryd.func11,Tryd.ntmps11
      go_wp2_with fail
      refine KV.out.mono ?_
      rintro r w1 ⟨rfl,hb1⟩
      have HB:=Lib.hid hb1
      clear hb1
      go_wp2_with fail
      refine (KT.out _).mono ?_
      rintro r w2 ⟨rfl,hb2⟩
      have HF1:=Lib.hid (HF.out _ (HB.out.trans (hb2.mono HB.out.size)))
      clear hb2
      go_wp2
      go_ret2
      exact HF1.out
    | true =>
      rw [ht] at KT
      have KC:=Lib.hid (fun W=>Tryd.strings_Count_one s 47 W)
      have hcb:Lib.countByte s.data.toList 47=s.data.toList.count 47:=rfl
      rw [hcb] at KC
      rw [HV.out,ht] at HPE
      have HPE2:=Lib.hid (show parsePt s.data.toList=if 63<s.data.toList.count 47 then .inr 4 else .inl ((spl 47 l0).map plainL) by rw [HPE.out,if_neg (by simp)])
      clear HPE
      by_cases hc:63<s.data.toList.count 47
      · have HF:=Lib.hid (fun W h=>HER.out 4 W (by rw [HPE2.out,if_pos hc]) h)
        have hcz:(63:Int)<((s.data.toList.count 47:Nat):Int):=by omega
        clear hln hl0 hg0 HPE2 HER hT hM ht hc
        generalize s.data.toList.count 47=cn at *
        go_enter Tryd.func11,Tryd.ntmps11
        go_wp2_with fail
        refine KV.out.mono ?_
        rintro r w1 ⟨rfl,hb1⟩
        have HB:=Lib.hid hb1
        clear hb1
        go_wp2_with fail
        refine (KT.out _).mono ?_
        rintro r w2 ⟨rfl,hb2⟩
        have HF1:=Lib.hid (HF.out _ (HB.out.trans (hb2.mono HB.out.size)))
        clear hb2
        go_wp2_with fail
        refine (KC.out _).mono ?_
        rintro r w3 ⟨rfl,rfl⟩
        go_wp2
        go_ret2
        exact HF1.out
      · have hcz:¬ (63:Int)<((s.data.toList.count 47:Nat):Int):=by omega
        obtain ⟨t,htl⟩:∃ t:ByteArray,s.extract 1 s.size=t:=⟨_,rfl⟩
        have htd:t.data.toList=l0:=by
          rw [← htl,Lib.extract_to_end,hl0];rfl
        have hct:l0.count 47+1=s.data.toList.count 47:=by rw [hl0,List.count_cons_self]
        have hcB:Lib.countB t ⟨#[47]⟩=l0.count 47:=by
          show Lib.count t.data.toList [47]=_
          rw [htd,Lib.count_one]
        obtain ⟨D,hD⟩:∃ D,Lib.splitB ⟨#[47]⟩ 0 (l0.count 47) t=D:=⟨_,rfl⟩
        have hDd:D.map (fun x=>x.data.toList)=spl 47 l0:=by
          rw [← hD,Lib.splitB_data,htd,← splitK_one,Lib.count_one]
        have hDl:D.length=l0.count 47+1:=by
          have:=congrArg List.length hDd
          rw [List.length_map,spl_length] at this;exact this
        have hts:t.size≤s.size:=by
          rw [Lib.size_eq t,htd,Lib.size_eq s,hl0];simp
        have KS:=Lib.hid (fun W (h:Below w.heap.size w W)=>(by
          obtain ⟨m,hm⟩:=hM.below h
          have:=Tryd.strings_Split t ⟨#[47]⟩ m W (by omega) hm (by decide)
          rw [hcB,hD] at this
          exact this:Calls Tryd.prog 37 #[.string t,.string ⟨#[47]⟩] W fun e w'=>e=.returned (.slice (some ⟨W.heap.size,0,none⟩) (l0.count 47+1) (l0.count 47+1))∧w'=W.alloc (.cells (D.map Value.string).toArray 9)))
        have hDs:∀ x∈D,x.size≤1000000000:=by
          intro x hx
          have h1:x.data.toList∈spl 47 l0:=by rw [← hDd];exact List.mem_map.2 ⟨x,hx,rfl⟩
          have h2:=spl_size 47 l0 _ h1
          rw [Lib.size_eq x]
          have h3:=Lib.size_eq s
          rw [hl0] at h3;simp at h3;omega
        have KP:=Lib.hid (fun (x:ByteArray) W (hx:x∈D) (h:Below w.heap.size w W)=>plain_any x W (hM.below h) (by have:=hDs x hx;omega))
        have HPF:=Lib.hid (show parsePt s.data.toList=.inl (D.map (fun x=>plainL x.data.toList)) by
          rw [HPE2.out,if_neg hc,← hDd,List.map_map];rfl)
        have hDn:D.length≤63:=by omega
        have HDL:=Lib.hid hDl
        have hx1:(0:Int)≤1∧(1:Int)≤(s.size:Int):=by omega
        clear hln hl0 hg0 HPE2 HER hT hM ht hc htd hct hcB hD hDd hts hDs
        generalize s.data.toList.count 47=cn at *
        generalize l0.count 47+1=dn at *
        go_enter Tryd.func11,Tryd.ntmps11
        go_wp2_with fail
        refine KV.out.mono ?_
        rintro r w1 ⟨rfl,hb1⟩
        have HB:=Lib.hid hb1
        clear hb1
        go_wp2_with fail
        refine (KT.out _).mono ?_
        rintro r w2 ⟨rfl,hb2⟩
        have HB2:=Lib.hid (HB.out.trans (hb2.mono HB.out.size))
        clear hb2
        go_wp2_with fail
        refine (KC.out _).mono ?_
        rintro r w3 ⟨rfl,rfl⟩
        have KS2:=Lib.hid (KS.out w3 HB2.out)
        clear KS
        go_wp2_with fail
        refine KS2.out.mono ?_
        rintro r w4 ⟨rfl,hw4⟩
        have hblk:BlkV w4 w3.heap.size 9 (sv D):=by rw [hw4];exact heap_alloc_new w3 _
        have hbt:But w3.heap.size w3 w4:=by rw [hw4];exact But.of_below ((Below.refl _ _).alloc (Nat.le_refl _) _)
        have HST:=Lib.hid (show PaI D w3.heap.size w3 dn dn (.int .i64 0) w4 from ⟨0,by omega,by omega,rfl,by simpa using hblk,hbt⟩)
        have hsz:=HB2.out.size
        have HBW:=Lib.hid (fun W (h:But w3.heap.size w3 W)=>HB2.out.trans (h.below hsz hsz))
        clear hw4 hblk hbt KS2 KV KT KC HB HB2 hsz
        obtain ⟨g,hg⟩:∃ g,w3.heap.size=g:=⟨_,rfl⟩
        rw [hg] at HST HBW ⊢
        clear hg
        go_wp2
        go_loopg [33] dn (fun k i wr=>PaI D g w3 dn k i wr)
        case atStart=>exact HST.out
        case round =>
          obtain ⟨j,hj,hk,rfl,hblk,hbut⟩:=hrel
          by_cases hlt:j<dn
          · obtain ⟨k,rfl⟩:∃ k,gk=k+1:=⟨gk - 1,by omega⟩
            have hjz:(j:Int)<(dn:Int):=by omega
            have hjD:j<D.length:=by rw [HDL.out];exact hlt
            have hc:=hblk.cell j
            rw [pa_get D j hjD] at hc
            have hf:=hblk.free j
            have HBK:=Lib.hid hblk
            have HBT:=Lib.hid hbut
            have KP1:=Lib.hid (KP.out (D.getD j ByteArray.empty) wr (by simp [List.getD,hjD]) (HBW.out _ hbut))
            have HSE:=Lib.hid (pa_set D j hjD)
            have hgl:=hblk.lt
            clear hblk hbut
            generalize D.getD j ByteArray.empty=x at *
            go_wp2_with fail
            refine KP1.out.mono ?_
            rintro r w5 ⟨rfl,hb5⟩
            have hb6:=HBK.out.below hb5 hgl
            have hc5:w5.cell? ⟨g,j,none⟩=some (.string x):=(hb5.cell (p:=⟨g,j,none⟩) hgl).trans hc
            have hf5:=hb6.free j
            have HN:=Lib.hid (show PaI D g w3 dn k (.int .i64 ((j:Int)+1)) (w5.setCell ⟨g,j,none⟩ (.string (mkB (plainL x.data.toList)))) from
              ⟨j+1,by omega,by omega,rfl,by rw [← HSE.out];exact hb6.set j _,(HBT.out.trans (But.of_below hb5)).setCell j _⟩)
            clear hb6 hb5 HBK HBT KP1 HSE hc hf
            go_wp2
            go_roundg k
            case rel=>exact HN.out
            case measure=>omega
          · obtain rfl:j=dn:=by omega
            have hjz:¬ (j:Int)<(j:Int):=by omega
            rw [← HDL.out,List.take_length,List.drop_length,List.append_nil] at hblk
            have HFN:=Lib.hid (show ParseA s.data.toList w (.returned (.tuple #[.slice (some ⟨g,0,none⟩) j j,.int .i64 0])) wr from
              .inr ⟨D.map (fun x=>plainL x.data.toList),some ⟨g,0,none⟩,j,HPF.out,by rw [List.length_map,HDL.out],by rw [List.length_map,HDL.out];exact Nat.le_refl _,by rw [List.map_map];exact hblk.all,by rw [List.length_map];omega,HBW.out _ hbut⟩)
            clear hblk hbut
            go_wp2
            go_ret2
            exact HFN.out
theorem bldP_below {T e:TypeId} {B b:Nat} {bs:List Value} {w w':World} (h:Lib.IsBuilderF T e B b bs w) (hb:Below w.heap.size w w'):Lib.IsBuilderF T e B b bs w':=by
  have key:∀ p,Lib.BuilderAtF T e B b p bs w→Lib.BuilderAtF T e B b p bs w':=by
    intro p h
    have hlt:=h.lt
    obtain ⟨hB,v,hv,hown,hne⟩:=h
    refine ⟨hB,v,by rw [hb.block b hlt];exact hv,⟨hown.1,?_⟩,hne⟩
    rcases hown.2 with h2 | ⟨g,cap,cur,fz,rfl,hB2,hg,rest⟩
    · exact .inl h2
    · refine .inr ⟨g,cap,cur,fz,rfl,hB2,?_,rest⟩
      rw [hb.block g (Array.getElem?_eq_some_iff.1 hg).1];exact hg
  exact h.elim (fun x=>.inl (key _ x)) (fun x=>.inr (key _ x))
def ldat (l:List ByteArray):List (List UInt8):=l.map fun x=>x.data.toList
theorem escL_len (l:List UInt8):(escL l).length≤2*l.length:=by
  induction l with
  | nil=>simp [escL]
  | cons b l ih =>
    rw [esc_cons,List.length_append]
    have:(if b=126 then [126,48] else if b=47 then [126,49] else [b]:List UInt8).length≤2:=by split;simp;split <;> simp
    simp;omega
theorem textP_len (p:List (List UInt8)) (m:Nat) (h:∀ t∈p,t.length≤m):(textP p).length≤p.length*(1+2*m):=by
  induction p with
  | nil=>simp [textP]
  | cons t p ih =>
    rw [textP_cons,List.length_cons,List.length_append,List.length_cons,Nat.succ_mul]
    have h1:=escL_len t
    have h2:=h t (by simp)
    have h3:=ih (fun x hx=>h x (by simp [hx]))
    omega
theorem textP_step (l:List ByteArray) (j:Nat) (h:j<l.length):textP (ldat (l.take (j+1)))=textP (ldat (l.take j))++47::escL (l.getD j ByteArray.empty).data.toList:=by
  have:l.take (j+1)=l.take j++[l.getD j ByteArray.empty]:=by rw [List.take_add_one];simp [List.getD,h]
  rw [this];unfold ldat;rw [List.map_append,textP_append,List.map_singleton,textP_cons,textP_nil,List.append_nil]
theorem one_len (q:List UInt8):(q.flatMap fun b=>if b=126 then [126,48] else [b]).length≤2*q.length:=by
  induction q with
  | nil=>simp
  | cons b q ih =>
    rw [List.flatMap_cons,List.length_append,List.length_cons]
    have:(if b=126 then [126,48] else [b]:List UInt8).length≤2:=by split <;> simp
    omega
def TxI (l:List ByteArray) (B b n:Nat) (w:World) (k:Nat) (i:Value) (wr:World):Prop :=
  ∃ j:Nat,j≤n∧n - j≤k∧i=.int .i64 (j:Int)∧Lib.IsBuilderF 68 5 B b (Lib.byteCells (textP (ldat (l.take j)))) wr∧Below B w wr∧b<wr.heap.size
theorem text_any (ad:Option Addr) (n cap:Nat) (l:List ByteArray) (w:World) (hM:ML w) (hl:l.length=n) (hcap:n≤cap) (hn:n≤1000) (hs:∀ x∈l,x.size≤1000000) (hr:RdV w ad (sv l)) :
    Calls Tryd.prog 16 #[.slice ad n cap] w fun e w'=>e=.returned (.string (mkB (textP (ldat l))))∧Below w.heap.size w w':=by
  have KR1:=Lib.hid (fun (s:ByteArray) W (h:Below w.heap.size w W) (hs:s.size≤4000000000)=>repAll_any s ⟨#[126]⟩ ⟨#[126,48]⟩ W (hM.below h) hs (by decide) (by decide))
  have KR2:=Lib.hid (fun (s:ByteArray) W (h:Below w.heap.size w W) (hs:s.size≤4000000000)=>repAll_any s ⟨#[47]⟩ ⟨#[126,49]⟩ W (hM.below h) hs (by decide) (by decide))
  have HLEN:=Lib.hid (fun (j:Nat)=>(by
    have h1:=textP_len (ldat (l.take j)) 1000000 (fun t ht=>by
      unfold ldat at ht
      obtain ⟨x,hx,rfl⟩:=List.mem_map.1 ht
      have:=hs x (List.mem_of_mem_take hx)
      rw [← Lib.size_eq];exact this)
    have h2:(ldat (l.take j)).length≤1000:=by simp [ldat];omega
    have h3:=Nat.mul_le_mul_right (1+2*1000000) h2
    omega:(textP (ldat (l.take j))).length≤3000000000))
  have HS:=Lib.hid hs
  have HR:=Lib.hid hr
  have HL:=Lib.hid hl
  obtain ⟨w0,hw0⟩:∃ W,w.alloc (.cells #[.pointer none,.slice none 0 0] 68)=W:=⟨_,rfl⟩
  have hb0:Below w.heap.size w w0:=by rw [← hw0];exact (Below.refl _ _).alloc (Nat.le_refl _) _
  have hbf:Lib.IsBuilderF 68 5 w.heap.size w.heap.size (Lib.byteCells []) w0:=by
    refine Lib.IsBuilderF.of (.inl ⟨Nat.le_refl _,.slice none 0 0,?_,World.ownsRow_nil _ _ _ _,by simp [Value.ownBlock]⟩)
    rw [← hw0];exact heap_alloc_new w _
  have HST:=Lib.hid (show TxI l w.heap.size w.heap.size n w n (.int .i64 0) w0 from ⟨0,by omega,by omega,rfl,by simpa [ldat,textP] using hbf,hb0,by rw [← hw0];simp⟩)
  have HW:=Lib.hid (show TxI l w.heap.size w.heap.size n w n (.int .i64 0) (w.alloc (.cells #[.pointer none,.slice none 0 0] 68)) by rw [hw0];exact HST.out)
  clear hs hr hl hM hw0 hb0 hbf HST w0
  have HUN:=Lib.hid (fun W (h:Below w.heap.size w W)=>h.size)
  go_enter Tryd.func16,Tryd.ntmps16
  go_wp2
  obtain ⟨B,hB⟩:∃ B,w.heap.size=B:=⟨_,rfl⟩
  have HRW:=Lib.hid (fun W (h:Below B w W)=>HR.out.on (by rw [hB];exact h))
  rw [hB] at HW HUN KR1 KR2 ⊢
  have HB0:=Lib.hid hB
  clear hB
  go_loopg [8] n (fun k i wr=>TxI l B B n w k i wr)
  case atStart=>exact HW.out
  case round =>
    obtain ⟨j,hj,hk,rfl,hI,hbl,hlt⟩:=hrel
    by_cases hjn:j<n
    · obtain ⟨k,rfl⟩:∃ k,gk=k+1:=⟨gk - 1,by omega⟩
      have hjz:(j:Int)<(n:Int):=by omega
      have hjl:j<l.length:=by rw [HL.out];exact hjn
      obtain ⟨bk,o,rfl,_,hc⟩:=HRW.out wr hbl j (by rw [sv_len];exact hjl)
      rw [sv_get _ _ hjl] at hc
      have hxs:(l.getD j ByteArray.empty).size≤1000000:=HS.out _ (by simp [List.getD,hjl])
      have htk:=textP_step l j hjl
      have hesc:=esc_eq (l.getD j ByteArray.empty).data.toList
      have h1:=HLEN.out j
      have h2:=HLEN.out (j+1)
      have h3:(Lib.replaceAll (l.getD j ByteArray.empty).data.toList [126] [126,48]).length≤2*(l.getD j ByteArray.empty).size:=by
        rw [repl_one _ _ (by decide),Lib.size_eq];exact one_len _
      generalize l.getD j ByteArray.empty=x at *
      generalize textP (ldat (l.take j))=acc at *
      have HTK:=Lib.hid htk
      have HESC:=Lib.hid hesc
      have KB:=Lib.hid (writeByte_k B B (Lib.byteCells acc) 47 wr hI (by rw [Lib.byteCells_length];omega) (HUN.out _ hbl))
      have HBL:=Lib.hid hbl
      clear htk hesc hI hbl
      go_wp2_with fail
      refine KB.out.mono ?_
      rintro r w2 ⟨rfl,h2b,hb2,_⟩
      have hbl2:=HBL.out.trans hb2
      have hlt2:B<w2.heap.size:=by have:=hb2.size;omega
      have hI2:Lib.IsBuilderF 68 5 B B (Lib.byteCells (acc++[47])) w2:=by
        rw [Lib.byteCells_append];exact .inr h2b
      have K1:=Lib.hid (KR1.out x w2 hbl2 (by omega))
      have HI2:=Lib.hid hI2
      have HBL2:=Lib.hid hbl2
      clear h2b hb2 hbl2 hI2 KB HBL
      go_wp2_with fail
      refine K1.out.mono ?_
      rintro r w3 ⟨rfl,hb3⟩
      have hI3:=bldP_below HI2.out hb3
      have hbl3:=HBL2.out.trans (hb3.mono (HUN.out _ HBL2.out))
      have K2:=Lib.hid (KR2.out (mkB (Lib.replaceAll x.data.toList [126] [126,48])) w3 hbl3 (by rw [mkB_size];omega))
      rw [mkB_list] at K2
      have HI3:=Lib.hid hI3
      have HBL3:=Lib.hid hbl3
      have hs3:=hb3.size
      clear hb3 hI3 hbl3 HI2 HBL2 K1
      generalize mkB (Lib.replaceAll x.data.toList [126] [126,48])=y at *
      go_wp2_with fail
      refine K2.out.mono ?_
      rintro r w4 ⟨rfl,hb4⟩
      rw [HESC.out]
      have hI4:=bldP_below HI3.out hb4
      have hbl4:=HBL3.out.trans (hb4.mono (HUN.out _ HBL3.out))
      have hs4:=hb4.size
      have hle:=congrArg List.length HTK.out
      rw [List.length_append,List.length_cons] at hle
      have KW:=Lib.hid (writeString_k B B (Lib.byteCells (acc++[47])) (mkB (escL x.data.toList)) w4 hI4 (by rw [Lib.byteCells_length,List.length_append,mkB_size];simp;omega) (HUN.out _ hbl4))
      have HBL4:=Lib.hid hbl4
      clear hb4 hI4 hbl4 HI3 HBL3 K2 hle
      have HMS:=Lib.hid (show Lib.byteCells (acc++[47])++Lib.strCells (mkB (escL x.data.toList))=Lib.byteCells (textP (ldat (l.take (j+1)))) by
        have hxc:Lib.strCells (mkB (escL x.data.toList))=Lib.byteCells (escL x.data.toList):=by unfold Lib.strCells;rw [mkB_list];rfl
        rw [HTK.out,hxc,← Lib.byteCells_append,List.append_assoc];rfl)
      generalize mkB (escL x.data.toList)=z at *
      go_wp2_with fail
      refine KW.out.mono ?_
      rintro r w5 ⟨rfl,h5,hb5,_⟩
      rw [HMS.out] at h5
      have HN:=Lib.hid (show TxI l B B n w k (.int .i64 ((j:Int)+1)) w5 from ⟨j+1,by omega,by omega,rfl,.inr h5,HBL4.out.trans hb5,by have:=hb5.size;omega⟩)
      clear h5 hb5 KW
      go_wp2
      go_roundg k
      case rel=>exact HN.out
      case measure=>omega
    · obtain rfl:j=n:=by omega
      have hjz:¬ (j:Int)<(j:Int):=by omega
      rw [← HL.out,List.take_length] at hI
      have KS:=Lib.hid (Tryd.Builder_String_any_k B B (textP (ldat l)) wr hI (HUN.out _ hbl))
      have HBL:=Lib.hid hbl
      clear hI hbl
      go_wp2_with fail
      refine KS.out.mono ?_
      rintro r w2 ⟨rfl,_,hb2,_⟩
      have HF:=Lib.hid (HBL.out.trans hb2)
      clear hb2 KS
      go_wp2
      go_ret
      exact ⟨rfl,by rw [HB0.out];exact HF.out⟩
theorem sameStrP_any (ad:Option Addr) (n cap:Nat) (l:List ByteArray) (ad':Option Addr) (cap':Nat) (w:World) (hl:l.length=n) (hc:n≤cap) (hc':n≤cap') (hm:n≤1000000000) (hr:RdV w ad (sv l)) (hr':RdV w ad' (sv l)) :
    Calls Tryd.prog 15 #[.slice ad n cap,.slice ad' n cap'] w fun e w'=>e=.returned (.bool true)∧∃ q,w'=w.drewN q:=by
  have HN:=Lib.hid hl;have HR:=Lib.hid hr;have HR':=Lib.hid hr'
  clear hl hr hr'
  have h0:((n:Int) != (n:Int))=false:=by simp
  go_enter Tryd.func15,Tryd.ntmps15
  go_wp2
  clear h0
  go_loopw [5] (fun i wr=>∃ k q:Nat,k≤n∧i=.int .i64 (k:Int)∧wr=w.drewN q) (fun i _=>n - (intOf i).toNat)
  case atStart=>exact ⟨0,0,Nat.zero_le _,rfl,rfl⟩
  case round =>
    obtain ⟨k,q,hk,rfl,hq⟩:=hrel
    by_cases hlt:k<n
    · have h1:(k:Int)<(n:Int):=by omega
      have h2:(0:Int)≤(k:Int):=by omega
      obtain ⟨b,o,rfl,_,hc1⟩:=HR.out k (by rw [sv_len,HN.out];exact hlt)
      obtain ⟨b',o',rfl,_,hc2⟩:=HR'.out k (by rw [sv_len,HN.out];exact hlt)
      rw [sv_get _ _ (by rw [HN.out];exact hlt)] at hc1 hc2
      generalize l.getD k ByteArray.empty=x at hc1 hc2
      have h3:(x.toList == x.toList)=true:=by simp
      subst hq
      go_wp2
      go_quiet (fail)
      go_wp2
      go_roundw
      case rel=>exact ⟨k+1,_,by omega,by go_num,rfl⟩
      case measure=>simp [intOf];omega
    · obtain rfl:k=n:=by omega
      have h1:¬ (k:Int)<(k:Int):=by omega
      subst hq
      go_wp2
      go_ret
      exact ⟨rfl,_,rfl⟩
theorem awp_parse:parsePt [47,97,126,49,98,47,48]=.inl [[97,47,98],[48]]:=by decide +kernel
theorem awp_text:textP [[97,47,98],[48]]=[47,97,126,49,98,47,48]:=by decide +kernel
/-- The document's example. -/
theorem awake14_any (w:World) (hT:UT w) (hM:ML w):Calls Tryd.prog 10 #[] w fun e w'=>e=.returned (.bool true)∧Below w.heap.size w w':=by
  have KP:=Lib.hid (parseP_any ⟨#[47,97,126,49,98,47,48]⟩ w hT hM (by decide))
  have HM:=Lib.hid (fun W (h:Below w.heap.size w W)=>hM.below h)
  clear hT hM
  go_enter Tryd.func10,Tryd.ntmps10
  go_wp2_with fail
  refine KP.out.mono ?_
  intro r w1 hp
  rcases hp with ⟨x,h1,_⟩ | ⟨p,ad,cap,h1,rfl,h3,h4,h5,h6⟩
  · rw [awp_parse] at h1;cases h1
  · rw [awp_parse] at h1
    obtain rfl:p=[[97,47,98],[48]]:=(Sum.inl.inj h1).symm
    have h2:([[97,47,98],[48]]:List (List UInt8)).length=2:=rfl
    rw [h2] at h3 h5
    have h7:([[97,47,98],[48]]:List (List UInt8)).map mkB=[⟨#[97,47,98]⟩,⟨#[48]⟩]:=rfl
    rw [h7] at h4
    rw [h2]
    clear h1 h2 h5 h7 KP
    obtain ⟨w2,hw2⟩:∃ W,w1.alloc (.cells #[.string ⟨#[97,47,98]⟩,.string ⟨#[48]⟩] 9)=W:=⟨_,rfl⟩
    have hb2:Below w1.heap.size w1 w2:=by rw [← hw2];exact (Below.refl _ _).alloc (Nat.le_refl _) _
    have hr2:RdV w2 (some ⟨w1.heap.size,0,none⟩) (sv [⟨#[97,47,98]⟩,⟨#[48]⟩]):=by
      have:BlkV w2 w1.heap.size 9 (sv [⟨#[97,47,98]⟩,⟨#[48]⟩]):=by rw [← hw2];exact heap_alloc_new w1 _
      exact this.all
    have KS:=Lib.hid (sameStrP_any ad 2 cap [⟨#[97,47,98]⟩,⟨#[48]⟩] (some ⟨w1.heap.size,0,none⟩) 2 w2 rfl h3 (Nat.le_refl _) (by decide) (h4.on hb2) hr2)
    have hb22:=h6.trans (hb2.mono h6.size)
    have KX:=Lib.hid (fun q=>text_any ad 2 cap [⟨#[97,47,98]⟩,⟨#[48]⟩] (w2.drewN q) (HM.out _ (below_drewN hb22 q)) rfl h3 (by decide) (by intro x hx;simp at hx;rcases hx with rfl | rfl <;> decide) (h4.on (below_drewN hb2 q)))
    have HB:=Lib.hid hb22
    have HW:=Lib.hid hw2
    clear h4 h6 hb2 hr2 hb22 hw2
    go_wp2_with fail
    rw [HW.out]
    refine KS.out.mono ?_
    rintro r w3 ⟨rfl,q,rfl⟩
    have KX1:=Lib.hid (KX.out q)
    have hbq:=below_drewN HB.out q
    have HBQ:=Lib.hid hbq
    clear KX KS hbq HW
    generalize w2.drewN q=w3 at *
    go_wp2_with fail
    refine KX1.out.mono ?_
    rintro r w4 ⟨rfl,hb4⟩
    have HF:=Lib.hid (HBQ.out.trans (hb4.mono HBQ.out.size))
    have e:mkB (textP (ldat [⟨#[97,47,98]⟩,⟨#[48]⟩]))=⟨#[47,97,126,49,98,47,48]⟩:=by
      have:ldat [⟨#[97,47,98]⟩,⟨#[48]⟩]=[[97,47,98],[48]]:=rfl
      rw [this,awp_text];rfl
    rw [e]
    clear hb4 KX1 e
    go_wp2
    go_ret
    exact ⟨rfl,HF.out⟩
structure PathV where
  ad:Option Addr
  n:Nat
  cap:Nat
  l:List ByteArray
def PathV.val (p:PathV):Value:=.slice p.ad p.n p.cap
structure PathV.Ok (w:World) (p:PathV):Prop where
  ln:p.l.length=p.n
  lc:p.n≤p.cap
  lm:p.n≤9223372036854775807
  rd:RdV w p.ad (sv p.l)
theorem PathV.Ok.on {w w':World} {p:PathV} (h:p.Ok w) (hb:Below w.heap.size w w'):p.Ok w':=⟨h.ln,h.lc,h.lm,h.rd.on hb⟩
def ShortF (P:List PathV):Prop:=∀ p∈P,p.n≤80∧∀ x∈p.l,x.size≤2100
def ShP (P:List PathV) (w:World) (e:Ending) (w':World):Prop:=∃ b:Bool,e=.returned (.bool b)∧(b=true→ShortF P)∧w'=w
def SL1 (P:List PathV) (w:World) (n k:Nat) (i:Value) (wr:World):Prop :=
  ∃ j:Nat,j≤n∧n - j≤k∧i=.int .i64 (j:Int)∧ShortF (P.take j)∧wr=w
def SL2 (l:List ByteArray) (w:World) (n k:Nat) (i:Value) (wr:World):Prop :=
  ∃ j:Nat,j≤n∧n - j≤k∧i=.int .i64 (j:Int)∧(∀ x∈l.take j,x.size≤2100)∧wr=w
theorem short_any (P:List PathV) (b n:Nat) (w:World) (hn:P.length=n) (hn7:n≤70) (hc:∀ j p,P[j]? = some p→w.cell? ⟨b,j,none⟩=some p.val) (hP:∀ p∈P,p.Ok w) :
    Calls Tryd.prog 8 #[.slice (some ⟨b,0,none⟩) n n] w (ShP P w):=by
  have HC:=Lib.hid hc
  have HP:=Lib.hid hP
  have HN:=Lib.hid hn
  have HNO:=Lib.hid (show ShP P w (.returned (.bool false)) w from ⟨false,rfl,(fun h=>by cases h),rfl⟩)
  clear hc hP hn
  have hn7z:(n:Int)≤70:=by omega
  go_enter Tryd.func8,Tryd.ntmps8
  go_wp2
  go_loopg [3] n (fun k i wr=>SL1 P w n k i wr)
  case atStart=>exact ⟨0,by omega,by omega,rfl,fun p h=>by simp at h,rfl⟩
  case round =>
    obtain ⟨j,hj,hk,rfl,hs,rfl⟩:=hrel
    by_cases hjn:j<n
    case neg =>
      obtain rfl:j=n:=by omega
      have hjz:¬ (j:Int)<(j:Int):=by omega
      rw [← HN.out,List.take_length] at hs
      have HF:=Lib.hid (show ShP P wr (.returned (.bool true)) wr from ⟨true,rfl,fun _=>hs,rfl⟩)
      clear hs
      go_wp2
      go_ret
      exact HF.out
    obtain ⟨k,rfl⟩:∃ k,gk=k+1:=⟨gk - 1,by omega⟩
    have hjz:(j:Int)<(n:Int):=by omega
    have hj7:(j:Int)<70:=by omega
    have hjl:j<P.length:=by rw [HN.out];exact hjn
    have hpj:P[j]? = some P[j]:=List.getElem?_eq_getElem hjl
    have hc1:=HC.out j _ hpj
    have hpo:=HP.out P[j] (List.getElem_mem hjl)
    have htk:P.take (j+1)=P.take j++[P[j]]:=by rw [List.take_add_one,hpj];rfl
    have HS1:=Lib.hid (fun (h:P[j].n≤80∧∀ x∈P[j].l,x.size≤2100)=>(show ShortF (P.take (j+1)) from by
      rw [htk];intro p hp
      rcases List.mem_append.1 hp with hp | hp
      · exact hs p hp
      · rw [List.mem_singleton] at hp;subst hp;exact h))
    clear hs hpj htk
    generalize P[j]=p at *
    obtain ⟨ad,m,cap,l⟩:=p
    obtain ⟨h1,h2,h3,h4⟩:=hpo
    simp only [PathV.val] at hc1 h1 h2 h3 h4 HS1
    by_cases h80:m≤80
    case neg =>
      have h80z:(80:Int)<(m:Int):=by omega
      clear h4
      go_wp2
      go_ret
      exact HNO.out
    have h80z:¬ (80:Int)<(m:Int):=by omega
    have HR:=Lib.hid h4
    have HL:=Lib.hid h1
    clear h4 h1
    go_wp2
    go_loopg [4] m (fun k2 i2 wr2=>SL2 l wr m k2 i2 wr2)
    case atStart=>exact ⟨0,by omega,by omega,rfl,fun p h=>by simp at h,rfl⟩
    case round =>
      obtain ⟨t,ht,hk2,rfl,hs2,rfl⟩:=hrel
      by_cases htm:t<m
      · obtain ⟨k2,rfl⟩:∃ k,gk=k+1:=⟨gk - 1,by omega⟩
        have htz:(t:Int)<(m:Int):=by omega
        have htl:t<l.length:=by rw [HL.out];exact htm
        obtain ⟨bk,o,rfl,_,hcx⟩:=HR.out t (by rw [sv_len];exact htl)
        rw [sv_get _ _ htl] at hcx
        have htk:l.take (t+1)=l.take t++[l.getD t ByteArray.empty]:=by rw [List.take_add_one];simp [List.getD,htl]
        generalize l.getD t ByteArray.empty=x at *
        by_cases hx:x.size≤2100
        · have hxz:¬ (2100:Int)<(x.size:Int):=by omega
          have HN2:=Lib.hid (show SL2 l wr m k2 (.int .i64 ((t:Int)+1)) wr from ⟨t+1,by omega,by omega,rfl,by
            rw [htk];intro y hy
            rcases List.mem_append.1 hy with hy | hy
            · exact hs2 y hy
            · rw [List.mem_singleton] at hy;subst hy;exact hx,rfl⟩)
          clear hs2 htk
          go_wp2
          go_roundg k2
          case rel=>exact HN2.out
          case measure=>omega
        · have hxz:(2100:Int)<(x.size:Int):=by omega
          clear hs2 htk
          go_wp2
          go_ret
          exact HNO.out
      · obtain rfl:t=m:=by omega
        have htz:¬ (t:Int)<(t:Int):=by omega
        rw [← HL.out,List.take_length] at hs2
        have HN2:=Lib.hid (show SL1 P wr n k (.int .i64 ((j:Int)+1)) wr from ⟨j+1,by omega,by omega,rfl,HS1.out ⟨h80,hs2⟩,rfl⟩)
        clear hs2
        go_wp2
        go_roundg k
        case rel=>exact HN2.out
        case measure=>omega
def rv (l:List Int):List Value:=l.map (Value.int .i32)
def RR (s:ByteArray) (B IT:Nat) (w:World) (k:Nat) (v:Value) (wr:World):Prop :=
  ∃ pos acc,s.size - pos≤k∧acc++runesL (tailL s pos)=runesL s.data.toList∧acc.length≤pos∧pos≤s.size∧wr.ownsRow B 21 1 v acc.length (rv acc)∧wr.heap[IT]? = some (.stringIter s pos)∧Below B w wr
theorem iter_grown {w w':World} {B:Nat} {e:TypeId} {v:Value} {n:Nat} {xs:List Value} {IT:Nat} {s:ByteArray} {p:Nat} (hi:w.heap[IT]? = some (.stringIter s p)) (h:w.ownsRow B e 1 v n xs) (hg:w.grownBy w' v.ownBlock):w'.heap[IT]? = some (.stringIter s p):=by
  rw [hg.block IT (Array.getElem?_eq_some_iff.1 hi).1];exact hi
  intro e
  rcases h.2 with ⟨rfl,_⟩ | ⟨g,cap,cur,rfl,hB,hg,rest⟩
  · simp [Value.ownBlock] at e
  · simp [Value.ownBlock] at e;subst e;rw [hg] at hi;cases hi
theorem iter_alloc {w:World} {IT:Nat} {s:ByteArray} {p:Nat} (hi:w.heap[IT]? = some (.stringIter s p)) (o:Obj):(w.alloc o).heap[IT]? = some (.stringIter s p):=by
  rw [Lib.alloc_old w o IT (Array.getElem?_eq_some_iff.1 hi).1];exact hi
theorem RR.step {s:ByteArray} {B IT:Nat} {w wr w':World} {k pos:Nat} {acc:List Int} {v v':Value} {o:Obj} (hp:pos<s.size) (hk:s.size - pos≤k+1) (ha:acc++runesL (tailL s pos)=runesL s.data.toList) (hl:acc.length≤pos)
    (ho:wr.ownsRow B 21 1 v acc.length (rv acc)) (hi:wr.heap[IT]? = some (.stringIter s (pos+(runeL (tailL s pos)).2))) (hb:Below B w wr) (hB:B≤wr.heap.size)
    (h1:w'.ownsRow B 21 1 v' (acc.length+1) (rv acc++[.int .i32 (runeL (tailL s pos)).1])) (h2:(wr.alloc o).grownBy w' v.ownBlock):RR s B IT w k v' w':=by
  have hw:=runeL_width (tailL s pos) (tailL_ne hp)
  rw [tailL_length] at hw
  refine ⟨pos+(runeL (tailL s pos)).2,acc++[(runeL (tailL s pos)).1],by omega,?_,by simp;omega,by omega,?_,?_,?_⟩
  · rw [← ha,runesL_cons (tailL_ne hp),tailL_drop];simp
  · simpa [rv] using h1
  · exact iter_grown (iter_alloc hi o) (ho.alloc o) h2
  · exact (hb.alloc hB o).grown h2 (by simp;omega) (fun g hg=>(ho.lt g hg).1)
def Rk (k:IntKind) (w:World) (ad:Option Addr) (xs:List Int):Prop :=
  ∀ i,i<xs.length→∃ b o,ad=some ⟨b,o,none⟩∧b<w.heap.size∧w.cell? ⟨b,o+i,none⟩=some (.int k (xs.getD i 0))
theorem Rk.nil (k:IntKind) (w:World) (ad:Option Addr):Rk k w ad []:=by intro i h;simp at h
theorem Rk.below {k:IntKind} {w w':World} {ad:Option Addr} {xs:List Int} (h:Rk k w ad xs) (hb:Below w.heap.size w w'):Rk k w' ad xs:=by
  intro i hi
  obtain ⟨b,o,e,hlt,hc⟩:=h i hi
  exact ⟨b,o,e,Nat.lt_of_lt_of_le hlt hb.size,by rw [hb.cell (p:=⟨b,o+i,none⟩) hlt];exact hc⟩
def JR (rs:List Int) (B:Nat) (w:World) (k:Nat) (v:Value) (wr:World):Prop :=
  ∃ i,rs.length - i≤k∧i≤rs.length∧v=.int .i64 i∧okAll (rs.take i)=true∧Lib.IsBuilderF 68 5 B B (Lib.byteCells (joinL (rs.take i))) wr∧Below B w wr∧B<wr.heap.size
theorem take_snocI (rs:List Int) (i:Nat) (hi:i<rs.length):rs.take (i+1)=rs.take i++[rs.getD i 0]:=by
  rw [List.take_succ_eq_append_getElem hi];simp [List.getD,hi]
theorem okAll_snoc {rs:List Int} {r:Int} (h:okAll rs=true) (hr:okR r=true):okAll (rs++[r])=true:=by
  simp [okAll] at h ⊢;exact ⟨h,hr⟩
theorem JR.step {rs:List Int} {B i k:Nat} {w wr w':World} {p:Value} (hi:i<rs.length) (hk:rs.length - i≤k+1) (ha:okAll (rs.take i)=true) (hr:okR (rs.getD i 0)=true) (hb:Below B w wr) (hB:B<wr.heap.size)
    (h1:Lib.BuilderAtF 68 5 B B (.pointer (some ⟨B,0,none⟩)) (Lib.byteCells (joinL (rs.take i))++Lib.runeCells (rs.getD i 0)) w') (h2:Below B wr w'):JR rs B w k (.int .i64 ((i+1:Nat):Int)) w':=by
  refine ⟨i+1,by omega,by omega,rfl,?_,?_,hb.trans h2,Nat.lt_of_lt_of_le hB h2.size⟩
  · rw [take_snocI rs i hi];exact okAll_snoc ha hr
  · rw [take_snocI rs i hi,joinL_append]
    have e:joinL [rs.getD i 0]=Lib.encodeRune (rs.getD i 0):=by rw [encodeRune_enc hr];simp [joinL]
    rw [e,Lib.byteCells_append,Lib.byteCells_encodeRune]
    exact Or.inr h1
end Go.Proofs.YtapicpdfdjofaaaDoor
namespace Go.Proofs.YtapicpdfdjofaaaDoor
open Go.ChangeShapes Go.WideShapes Go.ChangeAt Go.RowKit Go.Shelf
theorem own:ownKnob Tryd.prog.godebug=none:=by kernel_rfl
theorem laidOut:laidOutB Tryd.prog=true:=by kernel_rfl
theorem i64_bd {n:Int} (h:(Lit.int .i64 n).wf=true):-9223372036854775808≤n∧n≤9223372036854775807:=by
  simpa [Lit.wf,IntKind.min,IntKind.max,IntKind.signed,IntKind.bits] using h
theorem hargs_keep {H:Type} {enc:TypeId × Value→H} {t:TypeId} {W W':World} {v:Value} {d:DataW H} {ps:List MemPlace} (hr:Tryd.prog.readableRec t=true) (hrow:t<Tryd.prog.types.size)
    (h:DataW.Trod enc Tryd.prog W 0 (fun _=>true) true t v d ps) (hb:Below W.heap.size W W') (hlt:∀ x∈ps,x.block<W.heap.size) :
    DataW.Trod enc Tryd.prog W' 0 (fun b=>decide (b<W.heap.size)) true t v d ps:=Below.trod laidOut hr hrow h hb hlt
def ren8:Go.Shelf.Ren:=⟨fun n=>n,fun | 5=>5 | 119=>125 | 138=>127 | 139=>128 | n=>n,fun | 3=>1 | 4=>2 | n=>n⟩
theorem types8:U8Types Tryd.prog ren8:={ t5:=Tryd.underlying5,t119:=Tryd.underlying125,t138:=Tryd.underlying127,t139:=Tryd.underlying128 }
theorem extra8:U8Extra Tryd.prog ren8:={ n3:=by kernel_rfl,n4:=by kernel_rfl,y3:=by kernel_rfl,y4:=by kernel_rfl,c5:=by kernel_rfl,c119:=by kernel_rfl,c138:=by kernel_rfl }
theorem first_data:Rows.laid_unicode_utf8_first=Lib.firstData:=by kernel_rfl
theorem accept_data:(Rows.laid_unicode_utf8_acceptRanges:DataW Unit)=Lib.acceptData:=by kernel_rfl
theorem ut_of_laid {l:List (String × DataW Unit)} {W:World} (h:laidMet Tryd.prog l W) (h1:("unicode/utf8.first",Rows.laid_unicode_utf8_first)∈l) (h2:("unicode/utf8.acceptRanges",Rows.laid_unicode_utf8_acceptRanges)∈l):UT W:=by
  have r1:=Lib.laidMet.reads h h1
  have r2:=Lib.laidMet.reads h h2
  rw [first_data] at r1
  rw [accept_data] at r2
  exact utf8Tabs_of_readsT types8 extra8 r1 r2
end Go.Proofs.YtapicpdfdjofaaaDoor
namespace Go
theorem returnsInHanded_and_shape {H:Type} {enc:TypeId × Value→H} {a:Assume} {C:Checked} {os:Os} {f:FuncId} {fn:Func} {s:ChangeSpec} {conds:List PathCond} {apart fresh handsOn again:Bool} {X:World→Array Value→Prop}
    (hX:∀ (w w':World) (args:Array Value),w.heap=w'.heap→X w args→X w' args)
    (own:ownKnob C.prog.godebug=none) (started:os.Started) (noInit:C.prog.inits.idxOf? f=none) (hfn:C.prog.funcs[f]? = some fn)
    (witness:∃ (w:World) (tape:Tape) (i:Input),w.os=os∧(w.forCall tape i).Shaped C.prog∧i.vars=[]∧Input.okWide C.prog (w.forCall tape i) .any w.heap.size f i ∧
      ((s.pre enc C.prog fn conds apart (w.forCall tape i).memory i.args∧X (w.forCall tape i).memory i.args)∧sizedMet enc C.prog fn (OpenSpec.ofChange s) apart (w.forCall tape i).memory i.args)∧a.holds C.prog (lone (Frame.enter C.prog f i.args .normal) [] (w.forCall tape i)))
    (contract:∀ (W:World) (base:Nat) (args:Array Value) (ds gs:List (DataW H)) (before:List MemPlace),
      (∀ (j:Nat) t v,fn.params[j]? = some t→args[j]? = some v→Value.okWide C.prog W .any base t v) →
      DataW.Whole enc C.prog fn.params.toList s.vars apart W args.toList ds gs before →
      conds.all (PathCond.test C.prog ⟨fn.params.toList,ds,s.plain.varTypes C.prog,gs⟩)=true →
      (DataW.weightsEach C.prog (fn.params.toList++s.plain.varTypes C.prog) (ds++gs)).all (·≤reachBytes)=true→X W args→W.ShapedOpen C.prog →
      a.holds C.prog (lone (Frame.enter C.prog f args .normal) [] W) →
      Calls C.prog f args W fun e W'=>∃ v,e=.returned v∧s.post enc C.prog fn apart fresh handsOn again W args v W') :
    ReturnsInHanded a C os f .any (fun w args=>(s.pre enc C.prog fn conds apart w args∧X w args)∧sizedMet enc C.prog fn (OpenSpec.ofChange s) apart w args) (s.post enc C.prog fn apart fresh handsOn again):=by
  refine returnsInHanded_of_calls own started noInit witness ?_
  intro w tape i _ hsh _ hok hpre hholds
  obtain ⟨_,_,_,fn',hfn',_,_,_,_,hval⟩:=hok
  have e:fn'=fn:=Option.some.inj (hfn'.symm.trans hfn)
  subst e
  obtain ⟨⟨⟨ds,gs,before,hw,hc⟩,hx⟩,hz⟩:=hpre
  have hw':=DataW.Whole.of_heap (w':=w.forCall tape i) (by rfl) hw
  refine (contract (w.forCall tape i) w.heap.size i.args ds gs before hval hw' hc (hz.weights hw) (hX _ _ _ (by rfl) hx) hsh hholds).mono fun e W' ⟨v,he,hp⟩=>?_
  subst he
  exact ChangeSpec.post_blind hp
end Go
namespace Go.Proofs.YtapicpdfdjofaaaDoor
open Go.ChangeShapes Go.WideShapes Go.ChangeAt Go.RowKit Go.Shelf
set_option linter.unusedVariables false
set_option linter.unusedSimpArgs false
theorem ml_of_shape {W:World} (h:W.ShapedOpen Tryd.prog):ML W:=by
  exact cell_of_shapedOpen_int (t:=3) (zero:=#[.int .i64 0]) h (of_decide_eq_true (by kernel_rfl)) (by kernel_rfl) (by kernel_rfl) (by kernel_rfl) (by kernel_rfl) (by kernel_rfl)
theorem cells_stringP:Tryd.prog.cellsOf 9=1:=by kernel_rfl
set_option maxRecDepth 100000 in
/-- An argument that is a slice of texts. -/
theorem texts_argP {H:Type} {enc:TypeId × Value→H} {W:World} {base:Nat} {v:Value} {d:DataW H} {p:List MemPlace}
    (hok:Value.okWide Tryd.prog W .any base 22 v) (h:DataW.Trod enc Tryd.prog W 0 (fun _=>true) true 22 v d p) :
    ∃ ad len cap l,v=.slice ad len cap∧l.length=len∧len≤cap∧len≤maxLen∧RdV W ad (sv l):=by
  obtain ⟨a0,len,cap,rfl⟩:=okWide_slice Tryd.underlying22 hok
  obtain ⟨fuel,hf⟩:=h
  rcases open_strings Tryd.underlying22 Tryd.underlying9 cells_stringP hf with ⟨hcs,hx⟩ | ⟨a,len',cap',ss,hcs,_,hl,hm,hz,hx,hcell,hsz⟩
  · simp [Value.cells] at hcs
    obtain ⟨rfl,rfl,rfl⟩:=hcs
    exact ⟨none,0,0,[],rfl,rfl,Nat.le_refl _,Nat.zero_le _,RdV.nil _ _⟩
  · simp [Value.cells] at hcs
    obtain ⟨rfl,rfl,rfl⟩:=hcs
    simp only [if_true] at hz
    refine ⟨some a,len,cap,ss.take len,rfl,by simp;omega,hl,by omega,?_⟩
    intro i hi
    have hi':i<len:=by simp [sv] at hi;omega
    have hil:i<ss.length:=by omega
    have hc:=hcell i hil
    have h0:=hcell 0 (by omega)
    obtain ⟨b,off,spot⟩:=a
    have hspot:spot=none:=by simpa [Addr.add] using World.cell?_spot h0
    subst hspot
    have e:(Addr.add ⟨b,off,none⟩ i)=⟨b,off+i,none⟩:=by unfold Addr.add;split <;> simp_all
    rw [e] at hc
    refine ⟨b,off,rfl,?_,?_⟩
    · rcases Nat.lt_or_ge b W.heap.size with h1 | h1
      · exact h1
      · simp [World.cell?,Array.getElem?_eq_none h1] at hc
    · rw [hc,sv_get _ _ (by simp;omega)]
      simp [List.getD,hi',hil]
end Go.Proofs.YtapicpdfdjofaaaDoor
