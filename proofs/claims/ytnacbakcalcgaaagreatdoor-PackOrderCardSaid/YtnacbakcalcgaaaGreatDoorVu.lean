/- Texts of the claim. -/
import Derived.Test.YtnacbakcalcgaaaGreatDoorVt
import Derived.Lib.AtoiErrMem
import Derived.Lib.SlBytesConst
set_option linter.unusedVariables false
set_option linter.unusedSimpArgs false
set_option maxHeartbeats 200000
set_option maxRecDepth 100000
namespace Go.Proofs.YtnacbakcalcgaaaGreatDoor
open Go.RowKit Go.Lib Go.Sort
def WrC (B b:Nat) (l:List Nat) (w:World):Prop :=
  ∃ v,w.heap[b]? = some (.cells #[v] 64)∧w.ownsRow B 5 1 v l.length (bc l)
theorem WrC.lt {B b:Nat} {l:List Nat} {w:World} (h:WrC B b l w):b<w.heap.size:=by
  obtain ⟨v,h1,_⟩:=h
  exact (Array.getElem?_eq_some_iff.1 h1).1
theorem WrC.on {B b:Nat} {l:List Nat} {w w':World} (h:WrC B b l w) (hb:Below w.heap.size w w'):WrC B b l w':=by
  have hlt:=h.lt
  obtain ⟨v,h1,h2⟩:=h
  exact ⟨v,(hb.block b hlt).trans h1,own_onN h2 hb⟩
def KepC (b:Nat) (w w':World):Prop:=∀ k (cs:Array Value) (e:TypeId) fz,w.heap[k]? = some (.cells cs e fz)→k ≠ b→e ≠ 5→w'.heap[k]? = some (.cells cs e fz)
structure FrC (B b:Nat) (w w':World):Prop where
  bel:Below B w w'
  kep:KepC b w w'
theorem FrC.refl (B b:Nat) (w:World):FrC B b w w:=⟨Below.refl _ _,fun _ _ _ _ h _ _=>h⟩
theorem FrC.trans {B b:Nat} {w1 w2 w3:World} (h:FrC B b w1 w2) (k:FrC B b w2 w3):FrC B b w1 w3:=⟨h.bel.trans k.bel,fun i cs e fz h1 h2 h3=>k.kep i cs e fz (h.kep i cs e fz h1 h2 h3) h2 h3⟩
theorem FrC.of_below {B b:Nat} {w w':World} (hB:B≤w.heap.size) (h:Below w.heap.size w w'):FrC B b w w' :=
  ⟨h.mono hB,fun k cs e fz hk _ _=>by rw [h.block k (Array.getElem?_eq_some_iff.1 hk).1];exact hk⟩
theorem FrC.size {B b:Nat} {w w':World} (h:FrC B b w w'):w.heap.size≤w'.heap.size:=h.bel.size
theorem FrC.box {B b:Nat} {w w':World} (h:FrC B b w w') {k:Nat} {cs:Array Value} (hk:w.heap[k]? = some (.cells cs 29)) (hne:k ≠ b):w'.heap[k]? = some (.cells cs 29) :=
  h.kep k cs _ _ hk hne (by decide)
def EncB (B b:Nat) (l p:List Nat) (w:World) (e:Ending) (w':World):Prop :=
  (l.length+p.length≤32768∧e=.returned (.tuple #[])∧WrC B b (l++p) w'∧FrC B b w w') ∨
  (32768<l.length+p.length∧e=.panicked [{ v:=.iface 32 (.int .i64 4),recovered:=false }]∧Below B w w')
theorem EncB.pre {B b:Nat} {l p:List Nat} {w w1 w':World} {e:Ending} (hf:FrC B b w w1) (h:EncB B b l p w1 e w'):EncB B b l p w e w' :=
  h.imp (fun ⟨h1,h2,h3,h4⟩=>⟨h1,h2,h3,hf.trans h4⟩) (fun ⟨h1,h2,h3⟩=>⟨h1,h2,hf.bel.trans h3⟩)
def truthC (x:Bool):List Nat:=hd 7 (if x then 21 else 20)
def strN (s:ByteArray):List Nat:=s.data.toList.map UInt8.toNat
theorem strN_len (s:ByteArray):(strN s).length=s.size:=by unfold strN;rw [List.length_map,Array.length_toList];rfl
theorem bytes_rd (w:World) (s:ByteArray):RdV (Lib.bytesWorld w 5 s) (some ⟨w.heap.size,0,none⟩) (bc (strN s)):=by
  intro i hi
  rw [bc_len,strN_len] at hi
  refine ⟨w.heap.size,0,rfl,by rw [Lib.bytesWorld_size];omega,?_⟩
  rw [Nat.zero_add,Lib.bytesWorld_cell _ _ _ _ hi,bc_get _ _ (by rw [strN_len];exact hi)]
  have hs:i<s.data.toList.length:=by rw [Array.length_toList];exact hi
  unfold strN
  simp [List.getD,hs,hi]
def strC (m:Nat) (s:ByteArray):List Nat:=hd m s.size++strN s
def arrE (n:Nat) (ps:List (List Nat)):List Nat:=hd 4 n++ps.flatten
def ordC (ks:List ByteArray):List Nat:=srt shortL (keyB ks) 0 ks.length
def mbrE (ks:List ByteArray) (ps:List (List Nat)) (i:Nat):List Nat:=strC 3 (ks.getD i ByteArray.empty)++ps.getD i []
def objE (ks:List ByteArray) (ps:List (List Nat)):List Nat:=hd 5 ks.length++((ordC ks).map (mbrE ks ps)).flatten
mutual
/-- A value as CBOR. -/
def encX:MT→List Nat
  | .mk c m k v=>if c.k=1 then hd 7 22 else if c.k=2 then truthC c.b else if c.k=3 then numB c.neg (val m) c.e else if c.k=4 then strC 3 c.s else if c.k=5 then strC 2 c.s
      else if c.k=6 then arrE v.length (encXL v) else if c.k=7 then objE k (encXL v) else []
def encXL:List MT→List (List Nat) | []=>[] | t::l=>encX t::encXL l
end
theorem encXL_map (l:List MT):encXL l=l.map encX:=by
  induction l with
  | nil=>rw [encXL];rfl
  | cons t l ih=>rw [encXL,ih];rfl
theorem encX_eq (t:MT):encX t=if t.c.k=1 then hd 7 22 else if t.c.k=2 then truthC t.c.b else if t.c.k=3 then numB t.c.neg (val t.m) t.c.e else if t.c.k=4 then strC 3 t.c.s else if t.c.k=5 then strC 2 t.c.s
      else if t.c.k=6 then arrE t.v.length (t.v.map encX) else if t.c.k=7 then objE t.k (t.v.map encX) else []:=by
  obtain ⟨c,m,k,v⟩:=t
  rw [encX,encXL_map];rfl
theorem boxC {W:World} {b:Nat} {c:Array Value} {t:TypeId} (h:W.heap[b]? = some (.cells c t)) (i:Nat) (v:Value) (hv:c[i]? = some v):W.cell? ⟨b,i,none⟩=some v∧W.frozen? ⟨b,i,none⟩=false:=by
  simp [World.cell?,World.frozen?,h,hv]

theorem riseC_ok {l:List ByteArray} (h:risesB l=true):∀ s∈l,okN s=true:=by
  intro s hs
  obtain ⟨i,hi,rfl⟩:=List.getElem_of_mem hs
  have:=risesB_iff.1 h i hi
  unfold nameAt at this
  rw [Bool.and_eq_true] at this
  have e:l.getD i ByteArray.empty=l[i]:=by simp [List.getD,hi]
  rw [e] at this
  exact this.1
theorem riseC_size {l:List ByteArray} (h:risesB l=true):∀ s∈l,s.size≤2000:=by
  intro s hs
  have:=riseC_ok h s hs
  unfold okN at this
  rw [Bool.and_eq_true,decide_eq_true_eq] at this
  exact this.1
theorem check_subC {t:MT} (h:checkB t=true):∀ s,t.sub s→soundB s=true:=by
  intro s hs
  unfold checkB at h
  rw [Bool.and_eq_true,List.all_eq_true] at h
  obtain ⟨n,hn⟩:=hs
  obtain ⟨m,hm⟩:=MT.mem_pre_shift t 0 1 s ⟨n,hn⟩
  have:=h.2 _ hm
  rw [Bool.and_eq_true] at this
  exact this.2
def EnP (r:List Nat ⊕ Int) (w:World) (e:Ending) (w':World):Prop :=
  match r with
  | .inl l=>∃ v,e=.returned (.tuple #[v,.int .i64 0])∧w'.ownsRow w.heap.size 5 1 v l.length (bc l)∧Below w.heap.size w w'
  | .inr x=>e=.returned (.tuple #[.slice none 0 0,.int .i64 x])∧Below w.heap.size w w'
theorem EnP.no {r:List Nat ⊕ Int} {w w':World} {e:Ending} {x:Int} (h:r=.inr x) (he:e=.returned (.tuple #[.slice none 0 0,.int .i64 x])) (hb:Below w.heap.size w w'):EnP r w e w':=by
  subst h;exact ⟨he,hb⟩
theorem EnP.yes {r:List Nat ⊕ Int} {w w':World} {e:Ending} {l:List Nat} {v:Value} (h:r=.inl l) (he:e=.returned (.tuple #[v,.int .i64 0])) (ho:w'.ownsRow w.heap.size 5 1 v l.length (bc l)) (hb:Below w.heap.size w w'):EnP r w e w':=by
  subst h;exact ⟨v,he,ho,hb⟩
theorem own_set {w:World} {B:Nat} {e:TypeId} {size:Nat} {v:Value} {n:Nat} {xs:List Value} (h:w.ownsRow B e size v n xs) {a:Addr} (ha:a.block<B) (u:Value):(w.setCell a u).ownsRow B e size v n xs :=
  own_keep h (fun k hk=>by have:=(own_bd h hk).1;simp [World.setCell,Array.getElem?_modify,show a.block ≠ k by omega])
def awN:MT:=numT false none 1 0 (-1) [15]
def awT10:MT:=bobjC [⟨#[97]⟩] [awN]
theorem awC_sort:sortC [⟨#[97]⟩]=[0]:=by
  unfold sortC srt
  show (List.range' 0 1).mergeSort _=[0]
  simp
theorem awC_check:checkB awT10=true:=by kernel_rfl
theorem soundB_bareC (t:MT):soundB t.bare=soundB t:=by
  rw [MT.bare_eq]
  obtain ⟨⟨k,b,neg,ma,mn,mc,e,s,ka,kn,kc,va,vn,vc⟩,m,ks,vs⟩:=t
  rfl
theorem pre_bareC (t:MT):∀ d,t.bare.pre d=(t.pre d).map fun x=>(x.1,x.2.bare):=by
  refine MT.ind (P:=fun t=>∀ d,t.bare.pre d=(t.pre d).map fun x=>(x.1,x.2.bare)) ?_ t
  intro t ih d
  rw [MT.bare_eq,MT.pre_eq,MT.pre_eq,List.map_cons,MT.bare_eq]
  congr 1
  have key:∀ l:List MT,(∀ u∈l,∀ d,u.bare.pre d=(u.pre d).map fun x=>(x.1,x.2.bare))→MT.preL (l.map MT.bare) (d+1)=(MT.preL l (d+1)).map fun x=>(x.1,x.2.bare):=by
    intro l
    induction l with
    | nil=>intro _;rw [List.map_nil,MT.preL_nil];rfl
    | cons u l ih2 =>
      intro h
      rw [List.map_cons,MT.preL_cons,MT.preL_cons,List.map_append,h u (by simp),ih2 (fun x hx=>h x (by simp [hx]))]
  exact key t.v ih
theorem nodes_bareC (t:MT):t.bare.nodes=t.nodes:=by
  rw [← t.bare.pre_len 0,← t.pre_len 0,pre_bareC,List.length_map]
theorem checkB_bareC (t:MT):checkB t.bare=checkB t:=by
  unfold checkB
  rw [nodes_bareC,pre_bareC,List.all_map]
  congr 1
  apply List.all_congr rfl
  intro x
  simp only [Function.comp,soundB_bareC]
theorem awC_cells {t:MT} {w:World} (h:t.bare=awT10) (hR:Rep w t):t.c.vn=1∧∃ b o,t.c.va=some ⟨b,o,none⟩∧w.cell? ⟨b,o+4,none⟩=some (.int .i64 (-1)):=by
  have own:=hR.own
  rw [MT.bare_eq] at h
  unfold awT10 bobjC objT at h
  injection h with h1 h2 h3 h4
  have hvn:t.c.vn=1:=by have:=congrArg Cel.vn h1;exact this
  obtain ⟨u,hu⟩:∃ u,t.v=[u]:=by
    match hv:t.v with
    | []=>rw [hv] at h4;cases h4
    | [u]=>exact ⟨u,rfl⟩
    | _::_::_=>rw [hv] at h4;simp at h4
  rw [hu,List.map_cons,List.map_nil] at h4
  have hub:u.bare=awN:=by injection h4
  have hr:=own.vr
  rw [hu,List.map_cons,List.map_nil] at hr
  obtain ⟨b,o,hva,hl⟩:=hr.shape (by rw [flat_len];simp)
  refine ⟨hvn,b,o,hva,?_⟩
  rw [hva] at hr
  have hxx:=flat_at hr 0 (by simp) (c:=u.c) rfl
  obtain ⟨_,_,_,_,x4,_⟩:=hxx
  rw [MT.bare_eq] at hub
  have he:u.c.e = -1:=by unfold awN numT at hub;injection hub with g1;have:=congrArg Cel.e g1;exact this
  rw [he] at x4
  simpa using x4
theorem rd_mark (w:World) (e:TypeId) (vs:List Value) (fz:Nat × Nat):RdV (w.alloc (.cells vs.toArray e fz)) (some ⟨w.heap.size,0,none⟩) vs:=by
  intro i hi
  refine ⟨w.heap.size,0,rfl,by simp,?_⟩
  rw [Nat.zero_add]
  show World.cell? _ _=_
  have:(w.alloc (.cells vs.toArray e fz)).heap[w.heap.size]? = some (.cells vs.toArray e fz):=heap_alloc_new w _
  simp only [World.cell?,this]
  simp

end Go.Proofs.YtnacbakcalcgaaaGreatDoor
