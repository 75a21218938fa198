/- Texts of the claim. -/
import Derived.Test.YtapicpdfdjofaaaDoorRows
import Derived.WalkSpells
import Derived.WalkLawsBesides
import Derived.BigQuiet
import Derived.Lib.Hide
import Derived.Lib.Strings
import Derived.Lib.Slices
import Derived.Lib.Small
import Derived.Lib.Walk
import Derived.Lib.BitFns
import Derived.Laws.CopyOwn
import Derived.Deep.LoopGhost
set_option linter.unusedVariables false
set_option linter.unusedSimpArgs false
set_option maxHeartbeats 200000
set_option maxRecDepth 100000
namespace Go.Proofs.YtapicpdfdjofaaaDoor
open Go.RowKit
open Go.RowKit
def B32:Nat:=4294967296
theorem B32_pos:0<B32:=by decide
def val:List Nat→Nat
  | []=>0
  | x::xs=>x+B32*val xs
def Okl (xs:List Nat):Prop:=∀ x∈xs,x<B32
theorem Okl.nil:Okl []:=by intro x h;cases h
theorem Okl.cons {x:Nat} {xs:List Nat} (h:x<B32) (hs:Okl xs):Okl (x::xs):=by
  intro y hy;rcases List.mem_cons.1 hy with rfl | hy
  · exact h
  · exact hs y hy
theorem Okl.tail {x:Nat} {xs:List Nat} (h:Okl (x::xs)):Okl xs:=fun y hy=>h y (by simp [hy])
theorem Okl.take {xs:List Nat} (h:Okl xs) (n:Nat):Okl (xs.take n):=fun y hy=>h y (List.mem_of_mem_take hy)
theorem Okl.drop {xs:List Nat} (h:Okl xs) (n:Nat):Okl (xs.drop n):=fun y hy=>h y (List.mem_of_mem_drop hy)
theorem Okl.append {xs ys:List Nat} (h:Okl xs) (k:Okl ys):Okl (xs++ys):=by
  intro y hy;rcases List.mem_append.1 hy with hy | hy
  · exact h y hy
  · exact k y hy
theorem Okl.set {xs:List Nat} (h:Okl xs) (i v:Nat) (hv:v<B32):Okl (xs.set i v):=by
  intro y hy;rcases List.mem_or_eq_of_mem_set hy with hy | hy
  · exact h y hy
  · exact hy ▸ hv
theorem Okl.getD {xs:List Nat} (h:Okl xs) (i:Nat):xs.getD i 0<B32:=by
  by_cases hi:i<xs.length
  · simp only [List.getD,List.getElem?_eq_getElem hi,Option.getD_some];exact h _ (List.getElem_mem hi)
  · simp only [List.getD,List.getElem?_eq_none (Nat.le_of_not_lt hi),Option.getD_none];exact B32_pos
theorem Okl.replicate (n:Nat):Okl (List.replicate n 0):=by
  intro y hy;rw [(List.mem_replicate.1 hy).2];exact B32_pos
def lv (n:Nat):Value:=.int .u32 (n:Int)
def Rd (w:World) (ad:Option Addr) (xs:List Nat):Prop :=
  ∀ i,i<xs.length→∃ b o,ad=some ⟨b,o,none⟩∧b<w.heap.size∧w.cell? ⟨b,o+i,none⟩=some (.int .u32 ((xs.getD i 0:Nat):Int))
theorem Rd.at {w:World} {b o:Nat} {xs:List Nat} (h:Rd w (some ⟨b,o,none⟩) xs) (i:Nat) (hi:i<xs.length) :
    w.cell? ⟨b,o+i,none⟩=some (.int .u32 ((xs.getD i 0:Nat):Int)):=by
  obtain ⟨b',o',e,_,hc⟩:=h i hi
  cases e;exact hc
theorem Rd.lt {w:World} {ad:Option Addr} {xs:List Nat} (h:Rd w ad xs) (a:Addr) (e:ad=some a) (hx:0<xs.length):a.block<w.heap.size:=by
  obtain ⟨b,o,e',hb,_⟩:=h 0 hx
  rw [e] at e';cases e';exact hb
theorem Rd.apart {w:World} {ad:Option Addr} {xs:List Nat} (h:Rd w ad xs) {g:Nat} (hg:w.heap.size≤g) (a:Addr) (e:ad=some a) (hx:0<xs.length):a.block ≠ g:=by
  have:=h.lt a e hx;omega
theorem Rd.nil (w:World) (ad:Option Addr):Rd w ad []:=by intro i h;simp at h
theorem Rd.take {w:World} {ad:Option Addr} {xs:List Nat} (h:Rd w ad xs) (n:Nat):Rd w ad (xs.take n):=by
  intro i hi
  rw [List.length_take] at hi
  obtain ⟨b,o,e,hb,hc⟩:=h i (by omega)
  exact ⟨b,o,e,hb,by rw [hc];simp [List.getD,show i<n by omega]⟩
theorem Rd.below {w w':World} {ad:Option Addr} {xs:List Nat} (h:Rd w ad xs) (hb:Below w.heap.size w w'):Rd w' ad xs:=by
  intro i hi
  obtain ⟨b,o,e,hlt,hc⟩:=h i hi
  exact ⟨b,o,e,Nat.lt_of_lt_of_le hlt hb.size,by rw [hb.cell (p:=⟨b,o+i,none⟩) hlt];exact hc⟩
def Blk (w:World) (g:Nat) (ys:List Nat) (r:List Value):Prop:=w.heap[g]? = some (.cells (ys.map lv++r).toArray 111 (0,0))
def put (g:Nat) (ys:List Nat) (r:List Value) (w:World):World:={ w with heap:=w.heap.setIfInBounds g (.cells (ys.map lv++r).toArray 111 (0,0)) }
theorem Blk.lt {w:World} {g:Nat} {ys:List Nat} {r:List Value} (h:Blk w g ys r):g<w.heap.size:=by
  rcases Nat.lt_or_ge g w.heap.size with h1 | h1
  · exact h1
  · rw [Blk,Array.getElem?_eq_none h1] at h;cases h
theorem Blk.cell {w:World} {g:Nat} {ys:List Nat} {r:List Value} (h:Blk w g ys r) (i:Nat) (hi:i<ys.length) :
    w.cell? ⟨g,i,none⟩=some (.int .u32 ((ys.getD i 0:Nat):Int)):=by
  unfold Blk at h
  have e:(List.map lv ys++r)[i]? = some (lv (ys.getD i 0)):=by
    rw [List.getElem?_append_left (by simpa using hi)]
    simp [List.getD,hi]
  simp only [World.cell?,h]
  simpa [lv] using e
theorem Blk.free {w:World} {g:Nat} {ys:List Nat} {r:List Value} (h:Blk w g ys r) (i:Nat):w.frozen? ⟨g,i,none⟩=false:=by
  unfold Blk at h
  simp [World.frozen?,h]
theorem Blk.rd {w:World} {g:Nat} {ys:List Nat} {r:List Value} (h:Blk w g ys r) (o n:Nat) (hn:o+n≤ys.length):Rd w (some ⟨g,o,none⟩) ((ys.drop o).take n):=by
  intro i hi
  rw [List.length_take,List.length_drop] at hi
  refine ⟨g,o,rfl,h.lt,?_⟩
  rw [h.cell (o+i) (by omega)]
  simp [List.getD,show i<n by omega]
theorem Blk.rd_all {w:World} {g:Nat} {ys:List Nat} {r:List Value} (h:Blk w g ys r):Rd w (some ⟨g,0,none⟩) ys:=by
  have:=h.rd 0 ys.length (by omega)
  simpa using this
theorem put_heap (g:Nat) (ys:List Nat) (r:List Value) (w:World):(put g ys r w).heap.size=w.heap.size:=by simp [put]
theorem put_other (g:Nat) (ys:List Nat) (r:List Value) (w:World) (k:Nat) (h:k ≠ g):(put g ys r w).heap[k]? = w.heap[k]?:=by
  simp only [put];rw [Array.getElem?_setIfInBounds_ne (by omega)]
theorem put_cell (g:Nat) (ys:List Nat) (r:List Value) (w:World) (a:Addr) (h:a.block ≠ g):(put g ys r w).cell? a=w.cell? a :=
  World.cell?_of_block (put_other g ys r w _ h)
theorem Rd.put {w:World} {ad:Option Addr} {xs:List Nat} (h:Rd w ad xs) {g:Nat} (hne:∀ a,ad=some a→0<xs.length→a.block ≠ g) (ys:List Nat) (r:List Value):Rd (put g ys r w) ad xs:=by
  intro i hi
  obtain ⟨b,o,e,hb,hc⟩:=h i hi
  exact ⟨b,o,e,by rw [put_heap];exact hb,by rw [put_cell g ys r w ⟨b,o+i,none⟩ (hne ⟨b,o,none⟩ e (by omega))];exact hc⟩
theorem Rd.drewN {w:World} {ad:Option Addr} {xs:List Nat} (h:Rd w ad xs) (q:Nat):Rd (w.drewN q) ad xs:=h
theorem Blk.drewN {w:World} {g:Nat} {ys:List Nat} {r:List Value} (h:Blk w g ys r) (q:Nat):Blk (w.drewN q) g ys r:=h
theorem Blk.below {w w':World} {g:Nat} {ys:List Nat} {r:List Value} (h:Blk w g ys r) {B:Nat} (hb:Below B w w') (hg:g<B):Blk w' g ys r:=by
  unfold Blk;rw [hb.block g hg];exact h
def Own (B:Nat) (w:World) (v:Value) (xs:List Nat):Prop :=
  Okl xs∧((v=.slice none 0 0∧xs=[])∨∃ g cap r,v=.slice (some ⟨g,0,none⟩) xs.length cap∧B≤g∧Blk w g xs r∧cap=xs.length+r.length∧cap≤maxLen)
theorem Own.nil (B:Nat) (w:World):Own B w (.slice none 0 0) []:=⟨Okl.nil,.inl ⟨rfl,rfl⟩⟩
theorem Own.mono {B B':Nat} {w:World} {v:Value} {xs:List Nat} (h:Own B w v xs) (hB:B'≤B):Own B' w v xs:=by
  obtain ⟨ho,h | ⟨g,cap,r,e,hg,hb,hc⟩⟩:=h
  · exact ⟨ho,.inl h⟩
  · exact ⟨ho,.inr ⟨g,cap,r,e,by omega,hb,hc⟩⟩
theorem Own.below {B:Nat} {w w':World} {v:Value} {xs:List Nat} (h:Own B w v xs) (hb:Below w.heap.size w w'):Own B w' v xs:=by
  obtain ⟨ho,h | ⟨g,cap,r,e,hg,hk,hc⟩⟩:=h
  · exact ⟨ho,.inl h⟩
  · exact ⟨ho,.inr ⟨g,cap,r,e,hg,hk.below hb hk.lt,hc⟩⟩
theorem Own.drewN {B:Nat} {w:World} {v:Value} {xs:List Nat} (h:Own B w v xs) (q:Nat):Own B (w.drewN q) v xs:=h
theorem Blk.own {w:World} {g B:Nat} {ys:List Nat} {r:List Value} (h:Blk w g ys r) (hg:B≤g) (ho:Okl ys) (n cap:Nat) (hn:n≤ys.length) (hc:cap=ys.length+r.length) (hm:cap≤maxLen) :
    Own B w (.slice (some ⟨g,0,none⟩) n cap) (ys.take n):=by
  refine ⟨ho.take n,.inr ⟨g,cap,(ys.drop n).map lv++r,?_,hg,?_,?_,hm⟩⟩
  · rw [List.length_take,Nat.min_eq_left hn]
  · unfold Blk at h ⊢;rw [h,← List.append_assoc,← List.map_append,List.take_append_drop]
  · simp;omega
end Go.Proofs.YtapicpdfdjofaaaDoor
namespace Go.Proofs.YtapicpdfdjofaaaDoor
open Go.RowKit
open Go.RowKit
open Go.RowKit
structure Win (ys zs:List Nat) (o m:Nat):Prop where
  len:zs.length=ys.length
  lo:zs.take o=ys.take o
  hi:zs.drop (o+m)=ys.drop (o+m)
theorem Win.refl (ys:List Nat) (o m:Nat):Win ys ys o m:=⟨rfl,rfl,rfl⟩
theorem Win.set {ys zs:List Nat} {o m:Nat} (h:Win ys zs o m) (k v:Nat) (hk:k<m):Win ys (zs.set (o+k) v) o m:=by
  refine ⟨by rw [List.length_set];exact h.len,?_,?_⟩
  · rw [List.take_set_of_le (by omega)];exact h.lo
  · rw [List.drop_set_of_lt (by omega)];exact h.hi
def wv (ys:List Nat) (o k:Nat):Nat:=val ((ys.drop o).take k)

end Go.Proofs.YtapicpdfdjofaaaDoor
namespace Go.Proofs.YtapicpdfdjofaaaDoor
open Go.RowKit
open Go.RowKit
theorem below_drewN' {B:Nat} {a w:World} (h:Below B a w) (n:Nat):Below B a (w.drewN n):=h.trans ⟨rfl,rfl,rfl,Nat.le_refl _,fun _ _=>rfl⟩
end Go.Proofs.YtapicpdfdjofaaaDoor
namespace Go.Proofs.YtapicpdfdjofaaaDoor
open Go.RowKit
open Go.RowKit
open Go.RowKit
def wd (h l:Nat):Nat:=h*B32+l
end Go.Proofs.YtapicpdfdjofaaaDoor
namespace Go.Proofs.YtapicpdfdjofaaaDoor
open Go.RowKit
open Go.RowKit
open Go.RowKit
open Go.RowKit
def gs (h l d:Nat):Nat:=min (wd h l / d) 4294967295
end Go.Proofs.YtapicpdfdjofaaaDoor
namespace Go.Proofs.YtapicpdfdjofaaaDoor
open Go.RowKit

end Go.Proofs.YtapicpdfdjofaaaDoor
