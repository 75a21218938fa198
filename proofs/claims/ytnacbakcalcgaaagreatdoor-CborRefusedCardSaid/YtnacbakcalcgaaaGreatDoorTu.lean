/- Texts of the claim. -/
import Derived.Test.YtnacbakcalcgaaaGreatDoorTt
import Derived.Lib.AtoiErrMem
import Derived.Lib.SlBytesConst
set_option linter.unusedVariables false
set_option linter.unusedSimpArgs false
set_option maxHeartbeats 8000000
set_option maxRecDepth 100000
namespace Go.Proofs.YtnacbakcalcgaaaGreatDoor
open Go.RowKit Go.Lib Go.Sort
def WrC (B b:Nat) (l:List Nat) (w:World):Prop :=
  ∃ v,w.heap[b]? = some (.cells #[v] 64)∧w.ownsRow B 5 1 v l.length (bc l)
theorem WrC.lt {B b:Nat} {l:List Nat} {w:World} (h:WrC B b l w):b<w.heap.size:=by
  obtain ⟨v,h1,_⟩:=h
  exact (Array.getElem?_eq_some_iff.1 h1).1
theorem WrC.on {B b:Nat} {l:List Nat} {w w':World} (h:WrC B b l w) (hb:Below w.heap.size w w'):WrC B b l w':=by
  have hlt:=h.lt
  obtain ⟨v,h1,h2⟩:=h
  exact ⟨v,(hb.block b hlt).trans h1,own_onN h2 hb⟩
def KepC (b:Nat) (w w':World):Prop:=∀ k (cs:Array Value) (e:TypeId) fz,w.heap[k]? = some (.cells cs e fz)→k ≠ b→e ≠ 5→w'.heap[k]? = some (.cells cs e fz)
structure FrC (B b:Nat) (w w':World):Prop where
  bel:Below B w w'
  kep:KepC b w w'
theorem FrC.refl (B b:Nat) (w:World):FrC B b w w:=⟨Below.refl _ _,fun _ _ _ _ h _ _=>h⟩
theorem FrC.trans {B b:Nat} {w1 w2 w3:World} (h:FrC B b w1 w2) (k:FrC B b w2 w3):FrC B b w1 w3:=⟨h.bel.trans k.bel,fun i cs e fz h1 h2 h3=>k.kep i cs e fz (h.kep i cs e fz h1 h2 h3) h2 h3⟩
theorem FrC.of_below {B b:Nat} {w w':World} (hB:B≤w.heap.size) (h:Below w.heap.size w w'):FrC B b w w' :=
  ⟨h.mono hB,fun k cs e fz hk _ _=>by rw [h.block k (Array.getElem?_eq_some_iff.1 hk).1];exact hk⟩
theorem FrC.size {B b:Nat} {w w':World} (h:FrC B b w w'):w.heap.size≤w'.heap.size:=h.bel.size
theorem FrC.box {B b:Nat} {w w':World} (h:FrC B b w w') {k:Nat} {cs:Array Value} (hk:w.heap[k]? = some (.cells cs 29)) (hne:k ≠ b):w'.heap[k]? = some (.cells cs 29) :=
  h.kep k cs _ _ hk hne (by decide)
def EncB (B b:Nat) (l p:List Nat) (w:World) (e:Ending) (w':World):Prop :=
  (l.length+p.length≤32768∧e=.returned (.tuple #[])∧WrC B b (l++p) w'∧FrC B b w w') ∨
  (32768<l.length+p.length∧e=.panicked [{ v:=.iface 32 (.int .i64 4),recovered:=false }]∧Below B w w')
theorem EncB.pre {B b:Nat} {l p:List Nat} {w w1 w':World} {e:Ending} (hf:FrC B b w w1) (h:EncB B b l p w1 e w'):EncB B b l p w e w' :=
  h.imp (fun ⟨h1,h2,h3,h4⟩=>⟨h1,h2,h3,hf.trans h4⟩) (fun ⟨h1,h2,h3⟩=>⟨h1,h2,hf.bel.trans h3⟩)
theorem EncB.bad {B b:Nat} {l p l2 p2:List Nat} {w w2:World} (h:32768<l2.length+p2.length) (hle:l2.length+p2.length≤l.length+p.length) (hb:Below B w w2):EncB B b l p w (.panicked [{ v:=.iface 32 (.int .i64 4),recovered:=false }]) w2 :=
  .inr ⟨by omega,rfl,hb⟩
theorem wrc_put {B b:Nat} {l:List Nat} {w w2:World} {v v2:Value} {k m:Nat} {zs:List Nat} (hb:w.heap[b]? = some (.cells #[v] 64)) (ho:w.ownsRow B 5 1 v k (bc l)) (hB:B≤b) (hBw:B≤w.heap.size)
    (ho2:w2.ownsRow B 5 1 v2 m (bc zs)) (hm:zs.length=m) (hg:w.grownBy w2 v.ownBlock) :
    (w2.cell? ⟨b,0,none⟩=some v∧w2.frozen? ⟨b,0,none⟩=false)∧WrC B b zs (w2.setCell ⟨b,0,none⟩ v2)∧FrC B b w (w2.setCell ⟨b,0,none⟩ v2):=by
  have hown:∀ k,v.ownBlock=some k→∃ cur,w.heap[k]? = some (.cells cur 5):=by
    intro k hk
    rcases ho.2 with ⟨rfl,_⟩ | ⟨g,cap,cur,rfl,_,hgg,_⟩
    · cases hk
    · cases hk
      exact ⟨cur,hgg⟩
  have hblt:b<w.heap.size:=(Array.getElem?_eq_some_iff.1 hb).1
  have hkeep:∀ k,k<w.heap.size→(∀ cur fz,w.heap[k]? ≠ some (.cells cur 5 fz))→w2.heap[k]? = w.heap[k]?:=by
    intro k hk hne
    refine hg.block k hk (fun e=>?_)
    obtain ⟨cur,hc⟩:=hown k e.symm
    exact hne cur _ hc
  have hb2:w2.heap[b]? = some (.cells #[v] 64):=by
    rw [hkeep b hblt (fun cur fz h=>by rw [hb] at h;injection h with h;injection h with _ h2;exact absurd h2 (by decide)),hb]
  have hne2:∀ k,v2.ownBlock=some k→k ≠ b:=by
    intro k hk e
    subst e
    rcases ho2.2 with ⟨rfl,_⟩ | ⟨g,cap,cur,rfl,_,hgg,_⟩
    · cases hk
    · cases hk
      rw [hb2] at hgg;injection hgg with h;injection h with _ h2;exact absurd h2 (by decide)
  have hbel:Below B w w2:=(Below.refl B w).grown hg hBw (fun k hk=>(own_bd ho hk).1)
  refine ⟨⟨by simp [World.cell?,hb2],by simp [World.frozen?,hb2]⟩,⟨v2,?_,?_⟩,hbel.setCell hB _,?_⟩
  · simp [World.setCell,Array.getElem?_modify,hb2]
  · subst hm
    exact own_keep ho2 (fun k hk=>by have:=hne2 k hk;simp [World.setCell,Array.getElem?_modify,Ne.symm this])
  · intro k cs e fz hk hne he
    have h1:w2.heap[k]? = some (.cells cs e fz):=by
      rw [hkeep k (Array.getElem?_eq_some_iff.1 hk).1 (fun cur fz' h=>by rw [hk] at h;injection h with h;injection h with _ h2;exact he h2),hk]
    simp [World.setCell,Array.getElem?_modify,Ne.symm hne,h1]
theorem putc_any (B b:Nat) (l:List Nat) (ad:Option Addr) (n c:Nat) (p:List Nat) (w:World) (h:WrC B b l w) (hl:l.length≤32768) (hp:p.length=n) (hn:n≤1000000) (hr:RdV w ad (bc p)) (h0:ad=none→c=0) (hB:B≤b) :
    Calls Tryz.prog 69 #[.pointer (some ⟨b,0,none⟩),.slice ad n c] w (EncB B b l p w):=by
  have hlt:=h.lt
  obtain ⟨v,hb,ho⟩:=h
  obtain ⟨k,hk⟩:∃ k,l.length=k:=⟨_,rfl⟩
  have HK:=Lib.hid hk
  rw [hk] at ho hl
  obtain ⟨vad,vcap,rfl,hvc,hvr,hv1,hv2,hv3⟩:=own_viewN ho
  have c0:w.cell? ⟨b,0,none⟩=some (.slice vad k vcap):=by simp [World.cell?,hb]
  have f0:w.frozen? ⟨b,0,none⟩=false:=by simp [World.frozen?,hb]
  have HB:=Lib.hid hb;have HO:=Lib.hid ho;have HR:=Lib.hid hr;have H0:=Lib.hid h0;have HP:=Lib.hid hp
  have HLT:=Lib.hid (show B≤w.heap.size by omega)
  have e1:IntKind.i64.wrap ((k:Int)+(n:Int))=(k:Int)+(n:Int):=IntWalk.i64_in _ (by omega)
  clear hb ho hr h0 hp hvr hk hv1 hv2 hv3 hvc
  by_cases hc:k+n≤32768
  · have hgt:decide ((32768:Int)<(k:Int)+(n:Int))=false:=decide_eq_false (by omega)
    go_enter Tryz.func69,Tryz.ntmps69
    go_wp2_with (at_builtin;refine wpl_putR _ rfl _ _ rfl B _ _ l rfl HO.out HLT.out ad n c rfl p HP.out HR.out H0.out (by omega) ?_)
    intro v2 w2 ho2 hg2
    obtain ⟨⟨d0,g0⟩,hz⟩:=wrc_put HB.out HO.out hB HLT.out ho2 (by rw [List.length_append,HK.out,HP.out]) hg2
    have HZ:=Lib.hid (show EncB B b l p w (.returned (.tuple #[])) (w2.setCell ⟨b,0,none⟩ v2) from .inl ⟨by rw [HK.out,HP.out];exact hc,rfl,hz⟩)
    obtain ⟨ad2,cap2,rfl,t1,t2,t3,t4,t5⟩:=own_viewN ho2
    clear hz ho2 hg2 HO HB t1 t2 t3 t4 t5
    go_wp2
    go_end0
    exact HZ.out
  · have hgt:decide ((32768:Int)<(k:Int)+(n:Int))=true:=decide_eq_true (by omega)
    have HZ:=Lib.hid (show EncB B b l p w (.panicked [{ v:=.iface 32 (.int .i64 4),recovered:=false }]) w from .inr ⟨by rw [HK.out,HP.out];omega,rfl,Below.refl _ _⟩)
    go_enter Tryz.func69,Tryz.ntmps69
    go_wp2
    exact ⟨rfl,HZ.out⟩
theorem headc_any (B b:Nat) (l:List Nat) (Mi:Int) (n:Nat) (w:World) (h:WrC B b l w) (hl:l.length≤32768) (hn:n<9223372036854775808) (hB:B≤b) :
    Calls Tryz.prog 67 #[.pointer (some ⟨b,0,none⟩),.int .i64 Mi,.int .i64 (n:Int)] w (EncB B b l (hd (Mi % 8).toNat n) w):=by
  have KP:=Lib.hid (hput_any none [] 0 0 n Mi w rfl (by omega) (by omega) (RdV.nil _ _) (by omega))
  have HW:=Lib.hid h
  have HLT:=Lib.hid (show B≤w.heap.size by have:=h.lt;omega)
  have e1:(n:Int) % 18446744073709551616=(n:Int):=by omega
  have HLN:=Lib.hid (hd_len (Mi % 8).toNat n)
  rw [List.nil_append] at KP
  clear h
  generalize hd (Mi % 8).toNat n=H at *
  go_enter Tryz.func67,Tryz.ntmps67
  go_wp2_with fail
  refine KP.out.mono ?_
  rintro r w1 ⟨v1,rfl,ho1,hb1⟩
  obtain ⟨ad1,cap1,rfl,hc1,hr1,_,_,h01⟩:=own_viewN ho1
  have KQ:=Lib.hid (putc_any B b l ad1 _ cap1 H w1 (HW.out.on hb1) hl rfl (by have:=HLN.out;omega) hr1 (fun h=>(h01 h).1) hB)
  have HF:=Lib.hid (FrC.of_below (b:=b) HLT.out hb1)
  clear ho1 hb1 hr1 h01 hc1 e1
  go_wp2_with fail
  refine KQ.out.mono ?_
  intro r w2 hp
  rcases hp with ⟨e1,rfl,e2,e3⟩ | ⟨e1,rfl,e2⟩
  · have HZ:=Lib.hid (EncB.pre HF.out (.inl ⟨e1,rfl,e2,e3⟩))
    clear e1 e2 e3 KQ
    go_wp2
    go_end0
    exact HZ.out
  · have HZ:=Lib.hid (EncB.pre HF.out (.inr ⟨e1,rfl,e2⟩))
    clear e1 e2 KQ
    go_wp2
    exact ⟨rfl,HZ.out⟩
def truthC (x:Bool):List Nat:=hd 7 (if x then 21 else 20)
theorem truthc_any (B b:Nat) (l:List Nat) (x:Bool) (w:World) (h:WrC B b l w) (hl:l.length≤32768) (hB:B≤b) :
    Calls Tryz.prog 68 #[.pointer (some ⟨b,0,none⟩),.bool x] w (EncB B b l (truthC x) w):=by
  cases x with
  | true =>
    have KQ:=Lib.hid (headc_any B b l 7 21 w h hl (by omega) hB)
    rw [show hd ((7:Int) % 8).toNat 21=truthC true from rfl] at KQ
    clear h
    go_enter Tryz.func68,Tryz.ntmps68
    go_wp2_with fail
    refine KQ.out.mono ?_
    intro r w2 hp
    rcases hp with ⟨e1,rfl,e2,e3⟩ | ⟨e1,rfl,e2⟩
    · have HZ:=Lib.hid (show EncB B b l (truthC true) w (.returned (.tuple #[])) w2 from .inl ⟨e1,rfl,e2,e3⟩)
      clear e1 e2 e3 KQ
      go_wp2
      go_end0
      exact HZ.out
    · have HZ:=Lib.hid (show EncB B b l (truthC true) w _ w2 from .inr ⟨e1,rfl,e2⟩)
      clear e1 e2 KQ
      go_wp2
      exact ⟨rfl,HZ.out⟩
  | false =>
    have KQ:=Lib.hid (headc_any B b l 7 20 w h hl (by omega) hB)
    rw [show hd ((7:Int) % 8).toNat 20=truthC false from rfl] at KQ
    clear h
    go_enter Tryz.func68,Tryz.ntmps68
    go_wp2_with fail
    refine KQ.out.mono ?_
    intro r w2 hp
    rcases hp with ⟨e1,rfl,e2,e3⟩ | ⟨e1,rfl,e2⟩
    · have HZ:=Lib.hid (show EncB B b l (truthC false) w (.returned (.tuple #[])) w2 from .inl ⟨e1,rfl,e2,e3⟩)
      clear e1 e2 e3 KQ
      go_wp2
      go_end0
      exact HZ.out
    · have HZ:=Lib.hid (show EncB B b l (truthC false) w _ w2 from .inr ⟨e1,rfl,e2⟩)
      clear e1 e2 KQ
      go_wp2
      exact ⟨rfl,HZ.out⟩
def strN (s:ByteArray):List Nat:=s.data.toList.map UInt8.toNat
theorem strN_len (s:ByteArray):(strN s).length=s.size:=by unfold strN;rw [List.length_map,Array.length_toList];rfl
theorem bytes_rd (w:World) (s:ByteArray):RdV (Lib.bytesWorld w 5 s) (some ⟨w.heap.size,0,none⟩) (bc (strN s)):=by
  intro i hi
  rw [bc_len,strN_len] at hi
  refine ⟨w.heap.size,0,rfl,by rw [Lib.bytesWorld_size];omega,?_⟩
  rw [Nat.zero_add,Lib.bytesWorld_cell _ _ _ _ hi,bc_get _ _ (by rw [strN_len];exact hi)]
  have hs:i<s.data.toList.length:=by rw [Array.length_toList];exact hi
  unfold strN
  simp [List.getD,hs,hi]
def strC (m:Nat) (s:ByteArray):List Nat:=hd m s.size++strN s
theorem textc_any (B b:Nat) (l:List Nat) (m:Nat) (s:ByteArray) (w:World) (h:WrC B b l w) (hl:l.length≤32768) (hs:s.size≤1000000) (hm:m<8) (hB:B≤b) :
    Calls Tryz.prog 70 #[.pointer (some ⟨b,0,none⟩),.int .i64 (m:Int),.string s] w (EncB B b l (strC m s) w):=by
  have KH:=Lib.hid (headc_any B b l m s.size w h hl (by omega) hB)
  rw [show ((m:Int) % 8).toNat=m by omega] at KH
  have HLN:=Lib.hid (strN_len s)
  have HSC:Hid (strC m s=hd m s.size++strN s):=Lib.hid rfl
  clear h
  go_enter Tryz.func70,Tryz.ntmps70
  go_wp2_with fail
  refine KH.out.mono ?_
  intro r w2 hp
  rcases hp with ⟨e1,rfl,e2,e3⟩ | ⟨e1,rfl,e2⟩
  · have hb2:=Lib.bytesWorld_below w2 5 s
    have hB2:B≤w2.heap.size:=by have:=e2.lt;omega
    have hc2:=Lib.run_convert_string_bytes (P:=Tryz.prog) w2 9 22 5 s (u:=.string) Tryz.underlying9 Tryz.underlying22 Tryz.underlying5
    have KQ:=Lib.hid (putc_any B b (l++hd m s.size) _ s.size (grownCap w2 s.size 0 5) (strN s) (Lib.bytesWorld w2 5 s) (e2.on hb2) (by rw [List.length_append];exact e1) HLN.out hs (bytes_rd w2 s) (fun h=>by cases h) hB)
    have HF:=Lib.hid (e3.trans (FrC.of_below hB2 hb2))
    have HC:=Lib.hid hc2
    clear e1 e2 e3 hb2 hB2 hc2 KH
    generalize Lib.bytesWorld w2 5 s=W3 at *
    generalize grownCap w2 s.size 0 5=cp at *
    go_wp2_with fail
    rw [HC.out]
    simp only [Result.andThen]
    rw [Oper.upon_value]
    go_wp2_with fail
    refine KQ.out.mono ?_
    intro r w4 hp
    rcases hp with ⟨e1,rfl,e2,e3⟩ | ⟨e1,rfl,e2⟩
    · have HZ:=Lib.hid (EncB.pre (b:=b) (l:=l) (p:=strC m s) HF.out (.inl ⟨by rw [HSC.out];simp only [List.length_append] at e1 ⊢;omega,rfl,by rw [HSC.out,← List.append_assoc];exact e2,e3⟩))
      clear e1 e2 e3 KQ HC
      go_wp2
      go_end0
      exact HZ.out
    · have HZ:=Lib.hid (EncB.pre (b:=b) (l:=l) (p:=strC m s) HF.out (.inr ⟨by rw [HSC.out];simp only [List.length_append] at e1 ⊢;omega,rfl,e2⟩))
      clear e1 e2 KQ HC
      go_wp2
      exact ⟨rfl,HZ.out⟩
  · have HZ:=Lib.hid (show EncB B b l (strC m s) w _ w2 from .inr ⟨by rw [HSC.out,List.length_append];omega,rfl,e2⟩)
    clear e1 e2 KH
    go_wp2
    exact ⟨rfl,HZ.out⟩
theorem cat_take (ps:List (List Nat)) (j:Nat) (h:j<ps.length):(ps.take (j+1)).flatten=(ps.take j).flatten++ps.getD j []:=by
  rw [List.take_succ_eq_append_getElem h,List.flatten_append]
  simp [List.getD,h]
theorem cat_le (ps:List (List Nat)):∀ k j,j+k=ps.length→(ps.take j).flatten.length≤ps.flatten.length:=by
  intro k
  induction k with
  | zero=>intro j h;rw [List.take_of_length_le (by omega)];exact Nat.le_refl _
  | succ k ih =>
    intro j h
    have h1:=ih (j+1) (by omega)
    rw [cat_take ps j (by omega)] at h1
    simp only [List.length_append] at h1
    omega
def arrE (n:Nat) (ps:List (List Nat)):List Nat:=hd 4 n++ps.flatten
def ordC (ks:List ByteArray):List Nat:=srt shortL (keyB ks) 0 ks.length
def mbrE (ks:List ByteArray) (ps:List (List Nat)) (i:Nat):List Nat:=strC 3 (ks.getD i ByteArray.empty)++ps.getD i []
def objE (ks:List ByteArray) (ps:List (List Nat)):List Nat:=hd 5 ks.length++((ordC ks).map (mbrE ks ps)).flatten
mutual
/-- A value as CBOR. -/
def encX:MT→List Nat
  | .mk c m k v=>if c.k=1 then hd 7 22 else if c.k=2 then truthC c.b else if c.k=3 then numB c.neg (val m) c.e else if c.k=4 then strC 3 c.s else if c.k=5 then strC 2 c.s
      else if c.k=6 then arrE v.length (encXL v) else if c.k=7 then objE k (encXL v) else []
def encXL:List MT→List (List Nat) | []=>[] | t::l=>encX t::encXL l
end
theorem encXL_map (l:List MT):encXL l=l.map encX:=by
  induction l with
  | nil=>rw [encXL];rfl
  | cons t l ih=>rw [encXL,ih];rfl
theorem encX_eq (t:MT):encX t=if t.c.k=1 then hd 7 22 else if t.c.k=2 then truthC t.c.b else if t.c.k=3 then numB t.c.neg (val t.m) t.c.e else if t.c.k=4 then strC 3 t.c.s else if t.c.k=5 then strC 2 t.c.s
      else if t.c.k=6 then arrE t.v.length (t.v.map encX) else if t.c.k=7 then objE t.k (t.v.map encX) else []:=by
  obtain ⟨c,m,k,v⟩:=t
  rw [encX,encXL_map];rfl
def WrV (B b:Nat) (w0:World) (t:MT):Prop:=∀ l W,WrC B b l W→l.length≤32768→Below B w0 W→Calls Tryz.prog 39 #[.pointer (some ⟨b,0,none⟩),t.c.val] W (EncB B b l (encX t) W)
def ArC (B b:Nat) (l:List Nat) (ps:List (List Nat)) (n:Nat) (W:World) (g:Nat) (i:Value) (wr:World):Prop :=
  ∃ j,i=.int .i64 ((j:Nat):Int)∧j≤n∧n - j≤g∧WrC B b (l++(hd 4 n++(ps.take j).flatten)) wr∧(l++(hd 4 n++(ps.take j).flatten)).length≤32768∧FrC B b W wr
theorem boxC {W:World} {b:Nat} {c:Array Value} {t:TypeId} (h:W.heap[b]? = some (.cells c t)) (i:Nat) (v:Value) (hv:c[i]? = some v):W.cell? ⟨b,i,none⟩=some v∧W.frozen? ⟨b,i,none⟩=false:=by
  simp [World.cell?,World.frozen?,h,hv]
theorem arrc_any (B b:Nat) (w0:World) (hBb:B≤b) (h0:w0.heap.size=B) (us:List MT) (va:Option Addr) (n cap:Nat) (hn:us.length=n) (hm:n≤300) (hr:RdV w0 va (flat (us.map MT.c))) (hV:∀ u∈us,WrV B b w0 u)
    (l:List Nat) (W:World) (h:WrC B b l W) (hl:l.length≤32768) (hw:Below B w0 W) :
    Calls Tryz.prog 71 #[.pointer (some ⟨b,0,none⟩),.slice va n cap] W (EncB B b l (arrE n (us.map encX)) W):=by
  have hbw:=h.lt
  have KP:=Lib.hid (headc_any B b l 4 n W h hl (by omega) hBb)
  rw [show ((4:Int) % 8).toNat=4 from rfl] at KP
  have HLEN:=Lib.hid (cat_le (us.map encX))
  have HTAKE:=Lib.hid (cat_take (us.map encX))
  have HV:=Lib.hid (fun j (hj:j<us.length)=>hV (us.getD j (leafT 0 false ⟨#[]⟩)) (by simp [List.getD,hj]))
  have HPS:=Lib.hid (fun j (hj:j<us.length)=>(show (us.map encX).getD j []=encX (us.getD j (leafT 0 false ⟨#[]⟩)) by simp [List.getD,hj]))
  have HPL:=Lib.hid (show (us.map encX).length=n by rw [List.length_map,hn])
  have HRD:=Lib.hid (fun W' (hw':Below B w0 W')=>hr.on (by rw [h0];exact hw':Below w0.heap.size w0 W'))
  have HN:=Lib.hid hn
  have HW:=Lib.hid hw
  have HAE:Hid (arrE n (us.map encX)=hd 4 n++(us.map encX).flatten):=Lib.hid rfl
  generalize arrE n (us.map encX)=AE at *
  clear hr hV h hw hn
  generalize us.map encX=ps at *
  obtain ⟨H4,hH4⟩:∃ H4,hd 4 n=H4:=⟨_,rfl⟩
  have HH:=Lib.hid hH4
  rw [hH4] at KP HAE
  clear hH4
  go_enter Tryz.func71,Tryz.ntmps71
  go_wp2_with fail
  refine KP.out.mono ?_
  intro r w1 hp
  rcases hp with ⟨h1,rfl,h2,h3⟩ | ⟨h1,rfl,h2⟩
  · have HST:=Lib.hid (show ArC B b l ps n W n (.int .i64 ((0:Nat):Int)) w1 from ⟨0,rfl,Nat.zero_le _,by omega,by rw [HH.out];simpa using h2,by rw [HH.out];simpa using h1,h3⟩)
    clear h1 h2 h3 KP
    go_wp2
    go_loopg [12] n (fun g i wr=>ArC B b l ps n W g i wr)
    case atStart=>exact HST.out
    case round =>
      clear HST
      obtain ⟨j,rfl,hjn,hgj,hwr,hlen,hfr⟩:=hrel
      rw [HH.out] at hwr hlen
      have hBr:B≤wr.heap.size:=by have:=hwr.lt;omega
      have HWR:=Lib.hid hwr;have HFR:=Lib.hid hfr;have HLJ:=Lib.hid hlen
      have hbr:=hwr.lt
      clear hwr hfr hlen
      by_cases hlt:j<n
      · obtain ⟨g,rfl⟩:∃ g,gk=g+1:=⟨gk - 1,by omega⟩
        have hltz:(j:Int)<(n:Int):=by omega
        have hju:j<us.length:=by have:=HN.out;omega
        have hj6:(j:Int)≤300:=by omega
        have hrd:=HRD.out wr (HW.out.trans HFR.out.bel)
        obtain ⟨xbk,xo,rfl,hxl⟩:=hrd.shape (by rw [flat_len,List.length_map];omega)
        have hxx:=flat_at hrd j (by rw [List.length_map];omega) (c:=(us.getD j (leafT 0 false ⟨#[]⟩)).c) (getD_mapc hju _)
        have KV:=Lib.hid (HV.out j hju)
        have HPJ:=Lib.hid (HPS.out j hju)
        unfold WrV at KV
        generalize encX (us.getD j (leafT 0 false ⟨#[]⟩))=pj at *
        generalize (us.getD j (leafT 0 false ⟨#[]⟩)).c=cx at KV hxx
        obtain ⟨xk,xb,xneg,xma,xmn,xmc,xe,xs,xka,xkn,xkc,xva,xvn,xvc⟩:=cx
        unfold Cel.val at KV
        obtain ⟨x0,x1,x2,x3,x4,x5,x6,x7⟩:=hxx
        try simp only at x0 x1 x2 x3 x4 x5 x6 x7
        obtain ⟨W3,hW3⟩:∃ x,wr.alloc (.cells #[.int .i64 xk,.bool xb,.bool xneg,.slice xma xmn xmc,.int .i64 xe,.string xs,.slice xka xkn xkc,.slice xva xvn xvc] 29)=x:=⟨_,rfl⟩
        have hb3:Below wr.heap.size wr W3:=by rw [← hW3];exact (Below.refl _ _).alloc (Nat.le_refl _) _
        have q3:W3.heap[wr.heap.size]? = some (.cells #[.int .i64 xk,.bool xb,.bool xneg,.slice xma xmn xmc,.int .i64 xe,.string xs,.slice xka xkn xkc,.slice xva xvn xvc] 29):=by rw [← hW3];exact heap_alloc_new wr _
        have hf3:FrC B b W W3:=HFR.out.trans (FrC.of_below hBr hb3)
        have HF3:=Lib.hid hf3;have HW3:=Lib.hid hW3
        have KV2:=Lib.hid (KV.out _ W3 (HWR.out.on hb3) HLJ.out (HW.out.trans hf3.bel))
        have y0:=(boxC q3 0 _ rfl).1
        have y1:=(boxC q3 1 _ rfl).1
        have y2:=(boxC q3 2 _ rfl).1
        have y3:=(boxC q3 3 _ rfl).1
        have y4:=(boxC q3 4 _ rfl).1
        have y5:=(boxC q3 5 _ rfl).1
        have y6:=(boxC q3 6 _ rfl).1
        have y7:=(boxC q3 7 _ rfl).1
        have HT:=Lib.hid (HTAKE.out j (by have:=HPL.out;omega))
        have hT:=HT.out
        rw [HPJ.out] at hT
        have hle:=HLEN.out (n - (j+1)) (j+1) (by have:=HPL.out;omega)
        rw [hT] at hle
        have HTT:=Lib.hid hT;have HLE:=Lib.hid hle
        clear hrd hb3 q3 hf3 hW3 KV hT hle HT
        go_wp2_with fail
        rw [HW3.out]
        go_wp2_with fail
        refine KV2.out.mono ?_
        intro r w5 hp5
        rcases hp5 with ⟨e1,rfl,e2,e3⟩ | ⟨e1,rfl,e2⟩
        · have hT:=HTT.out
          have HF:=Lib.hid (show ArC B b l ps n W g (.int .i64 ((j:Int)+1)) w5 from ⟨j+1,by simp,by omega,by omega,by rw [HH.out,hT];simpa using e2,by rw [HH.out,hT];simp only [List.length_append,List.length_cons] at e1 ⊢;omega,HF3.out.trans e3⟩)
          clear e1 e2 e3 KV2 hT
          go_wp2
          go_roundg g
          case rel=>exact HF.out
          case measure=>omega
        · have HZ:=Lib.hid (EncB.bad (B:=B) (b:=b) (l:=l) (p:=AE) e1 (by have hle:=HLE.out;rw [HAE.out];simp only [List.length_append,List.length_cons] at hle ⊢;omega) (HF3.out.bel.trans e2))
          clear e1 e2 KV2
          go_wp2
          exact ⟨rfl,HZ.out⟩
      · obtain rfl:j=n:=by omega
        have hjz:¬ (j:Int)<(j:Int):=by omega
        have hall:ps.take j=ps:=List.take_of_length_le (by have:=HPL.out;omega)
        have hlen:=HLJ.out
        have hwr:=HWR.out
        rw [hall,← HAE.out] at hlen hwr
        have HZ:=Lib.hid (show EncB B b l AE W (.returned (.tuple #[])) wr from .inl ⟨by rw [List.length_append] at hlen;exact hlen,rfl,hwr,HFR.out⟩)
        clear hlen hwr hall
        go_wp2_with fail
        go_end0
        exact HZ.out
  · have HZ:=Lib.hid (EncB.bad (B:=B) (b:=b) (l:=l) (p:=AE) h1 (by rw [HAE.out];simp) h2)
    clear h1 h2 KP
    go_wp2
    exact ⟨rfl,HZ.out⟩
def ObC (B b:Nat) (l:List Nat) (qs:List (List Nat)) (n:Nat) (W:World) (g:Nat) (i:Value) (wr:World):Prop :=
  ∃ j,i=.int .i64 ((j:Nat):Int)∧j≤n∧n - j≤g∧WrC B b (l++(hd 5 n++(qs.take j).flatten)) wr∧(l++(hd 5 n++(qs.take j).flatten)).length≤32768∧FrC B b W wr
theorem ordC_len (ks:List ByteArray):(ordC ks).length=ks.length:=srt_len _ _ _ _
theorem ordC_lt (ks:List ByteArray) (j:Nat) (h:j<ks.length):(ordC ks).getD j 0<ks.length:=by
  have hj:j<(ordC ks).length:=by rw [ordC_len];exact h
  have:(ordC ks).getD j 0∈ordC ks:=by simp [List.getD,hj]
  have:=(srt_mem.1 this).2
  omega
theorem objc_any (B b:Nat) (w0:World) (hBb:B≤b) (h0:w0.heap.size=B) (ks:List ByteArray) (ka:Option Addr) (kc:Nat) (us:List MT) (va:Option Addr) (n cap:Nat) (hk:ks.length=n) (hkc:n≤kc) (hn:us.length=n) (hm:n≤300) (hz:∀ s∈ks,s.size≤2000) (hrk:RdV w0 ka (sv ks)) (hr:RdV w0 va (flat (us.map MT.c))) (hV:∀ u∈us,WrV B b w0 u)
    (l:List Nat) (W:World) (h:WrC B b l W) (hl:l.length≤32768) (hw:Below B w0 W) :
    Calls Tryz.prog 72 #[.pointer (some ⟨b,0,none⟩),.slice ka n kc,.slice va n cap] W (EncB B b l (objE ks (us.map encX)) W):=by
  have KP:=Lib.hid (headc_any B b l 5 n W h hl (by omega) hBb)
  rw [show ((5:Int) % 8).toNat=5 from rfl] at KP
  have HV:=Lib.hid (fun j (hj:j<us.length)=>hV (us.getD j (leafT 0 false ⟨#[]⟩)) (by simp [List.getD,hj]))
  have HPS:=Lib.hid (fun j (hj:j<n)=>(show ((ordC ks).map (mbrE ks (us.map encX))).getD j []=strC 3 (ks.getD ((ordC ks).getD j 0) ByteArray.empty)++encX (us.getD ((ordC ks).getD j 0) (leafT 0 false ⟨#[]⟩)) by
    have hj1:j<(ordC ks).length:=by rw [ordC_len,hk];exact hj
    have hj2:=ordC_lt ks j (by rw [hk];exact hj)
    have e1:((ordC ks).map (mbrE ks (us.map encX))).getD j []=mbrE ks (us.map encX) ((ordC ks).getD j 0):=by simp [List.getD,hj1]
    rw [e1]
    unfold mbrE
    congr 1
    have hj3:(ordC ks).getD j 0<us.length:=by omega
    generalize (ordC ks).getD j 0=z at *
    simp [List.getD,hj3]))
  have HPL:=Lib.hid (show ((ordC ks).map (mbrE ks (us.map encX))).length=n by rw [List.length_map,ordC_len,hk])
  have HLEN:=Lib.hid (cat_le ((ordC ks).map (mbrE ks (us.map encX))))
  have HTAKE:=Lib.hid (cat_take ((ordC ks).map (mbrE ks (us.map encX))))
  have HRD:=Lib.hid (fun W' (hw':Below B w0 W')=>hr.on (by rw [h0];exact hw':Below w0.heap.size w0 W'))
  have HRK:=Lib.hid (fun W' (hw':Below B w0 W')=>hrk.on (by rw [h0];exact hw':Below w0.heap.size w0 W'))
  have HOLT:=Lib.hid (fun j (hj:j<n)=>ordC_lt ks j (by rw [hk];exact hj))
  have HOL:=Lib.hid (ordC_len ks)
  have KO:=Lib.hid (fun W' (hw':Below B w0 W')=>cbor_any ka n kc ks W' hk hkc (by omega) (fun s hs=>by have:=hz s hs;omega) (hrk.on (by rw [h0];exact hw':Below w0.heap.size w0 W')))
  unfold SortPost at KO
  rw [show srt shortL (keyB ks) 0 n=ordC ks by unfold ordC;rw [hk]] at KO
  have HAE:Hid (objE ks (us.map encX)=hd 5 n++((ordC ks).map (mbrE ks (us.map encX))).flatten):=Lib.hid (by unfold objE;rw [hk])
  generalize objE ks (us.map encX)=AE at *
  have HN:=Lib.hid hn
  have HK:=Lib.hid hk
  have HZ0:=Lib.hid hz
  have HW:=Lib.hid hw
  have hBW:B≤W.heap.size:=by have:=h.lt;omega
  clear hr hV h hw hn hrk hk hz
  generalize (ordC ks).map (mbrE ks (us.map encX))=ps at *
  generalize ordC ks=os at *
  obtain ⟨H4,hH4⟩:∃ H4,hd 5 n=H4:=⟨_,rfl⟩
  have HH:=Lib.hid hH4
  rw [hH4] at KP HAE
  clear hH4
  go_enter Tryz.func72,Tryz.ntmps72
  go_wp2_with fail
  refine KP.out.mono ?_
  intro r w1 hp
  rcases hp with ⟨h1,rfl,h2,h3⟩ | ⟨h1,rfl,h2⟩
  · have KO1:=Lib.hid (KO.out w1 (HW.out.trans h3.bel))
    have HF1:=Lib.hid h3;have HW1:=Lib.hid h2;have HL1:=Lib.hid h1
    have hB1:B≤w1.heap.size:=by have:=h2.lt;omega
    clear h1 h2 h3 KP KO
    go_wp2_with fail
    refine KO1.out.mono ?_
    rintro r w2 ⟨go,rfl,hgo,hbo,hb2⟩
    have hlo:=hbo.lt
    have hgb:go ≠ b:=by have:=HW1.out.lt;omega
    have HF2:=Lib.hid (HF1.out.trans (FrC.of_below hB1 hb2))
    have HBO:=Lib.hid hbo
    have HST:=Lib.hid (show ObC B b l ps n w2 n (.int .i64 ((0:Nat):Int)) w2 from ⟨0,rfl,Nat.zero_le _,by omega,by rw [HH.out];simpa using HW1.out.on hb2,by rw [HH.out];have:=HL1.out;simpa using this,FrC.refl _ _ _⟩)
    clear hbo hb2 HW1 HL1
    go_wp2
    go_loopg [15] n (fun g i wr=>ObC B b l ps n w2 g i wr)
    case atStart=>exact HST.out
    case round =>
      clear HST
      obtain ⟨j,rfl,hjn,hgj,hwr,hlen,hfr⟩:=hrel
      rw [HH.out] at hwr hlen
      have hBr:B≤wr.heap.size:=by have:=hwr.lt;omega
      have HWR:=Lib.hid hwr;have HFR:=Lib.hid (HF2.out.trans hfr);have HLJ:=Lib.hid hlen
      have HF0:=Lib.hid hfr
      have hbr:=hwr.lt
      clear hwr hfr hlen
      by_cases hlt:j<n
      · obtain ⟨g,rfl⟩:∃ g,gk=g+1:=⟨gk - 1,by omega⟩
        have hltz:(j:Int)<(n:Int):=by omega
        have hj6:(j:Int)≤300:=by omega
        have hol:=HOLT.out j hlt
        have hoz:os.length=n:=by rw [HOL.out,HK.out]
        have hbo:=HF0.out.kep go _ _ _ HBO.out hgb (by decide)
        have HBR:=Lib.hid (show BlkV wr go 3 (os.map iv) from hbo)
        have o0:wr.cell? ⟨go,j,none⟩=some (.int .i64 ((os.getD j 0:Nat):Int)):=by
          rw [HBR.out.cell,List.getElem?_map,List.getElem?_eq_getElem (show j<os.length by omega)]
          simp [iv,List.getD,show j<os.length by omega]
        have HPJ:=Lib.hid (HPS.out j hlt)
        have HT:=Lib.hid (HTAKE.out j (by have:=HPL.out;omega))
        have hT:=HT.out
        rw [HPJ.out] at hT
        have hle:=HLEN.out (n - (j+1)) (j+1) (by have:=HPL.out;omega)
        rw [hT] at hle
        have HTT:=Lib.hid hT;have HLE:=Lib.hid hle
        clear hT hle HT HPJ hbo
        generalize os.getD j 0=at0 at *
        have hat:at0<n:=by have:=HK.out;omega
        have hju:at0<us.length:=by have:=HN.out;omega
        have hjk:at0<ks.length:=hol
        have hat6:(at0:Int)≤300:=by omega
        have hatz:(at0:Int)<(n:Int):=by omega
        have hrd0:=HRD.out wr (HW.out.trans HFR.out.bel)
        obtain ⟨xbk,xo,rfl,hxl⟩:=hrd0.shape (by rw [flat_len,List.length_map];omega)
        have hrk0:=HRK.out wr (HW.out.trans HFR.out.bel)
        obtain ⟨kb,ko,rfl,hkl⟩:=hrk0.shape (by rw [sv_len];omega)
        have k0:wr.cell? ⟨kb,ko+at0,none⟩=some (.string (ks.getD at0 ByteArray.empty)):=by
          obtain ⟨b',o',e',_,hc⟩:=hrk0 at0 (by rw [sv_len];exact hjk)
          cases e'
          rw [hc,sv_get _ _ hjk]
        have hksz:(ks.getD at0 ByteArray.empty).size≤2000:=HZ0.out _ (by simp [List.getD,hjk])
        have KT:=Lib.hid (textc_any B b _ 3 (ks.getD at0 ByteArray.empty) wr HWR.out HLJ.out (by omega) (by omega) hBb)
        have KV:=Lib.hid (HV.out at0 hju)
        unfold WrV at KV
        have HX:=Lib.hid (fun W' (hw':Below B w0 W')=>flat_at (HRD.out W' hw') at0 (by rw [List.length_map];omega) (c:=(us.getD at0 (leafT 0 false ⟨#[]⟩)).c) (getD_mapc hju _))
        clear hrd0 hrk0 hol hoz hxl hkl
        generalize encX (us.getD at0 (leafT 0 false ⟨#[]⟩))=pj at *
        generalize ks.getD at0 ByteArray.empty=kj at *
        generalize (us.getD at0 (leafT 0 false ⟨#[]⟩)).c=cx at KV HX
        obtain ⟨xk,xb,xneg,xma,xmn,xmc,xe,xs,xka,xkn,xkc,xva,xvn,xvc⟩:=cx
        unfold Cel.val at KV
        go_wp2_with fail
        refine KT.out.mono ?_
        intro r w4 hp4
        rcases hp4 with ⟨e1,rfl,e2,e3⟩ | ⟨e1,rfl,e2⟩
        · have HF4:=Lib.hid (HFR.out.trans e3)
          have HG4:=Lib.hid (HF0.out.trans e3)
          have hxx:=HX.out w4 (HW.out.trans HF4.out.bel)
          obtain ⟨x0,x1,x2,x3,x4,x5,x6,x7⟩:=hxx
          try simp only at x0 x1 x2 x3 x4 x5 x6 x7
          have KV2:=Lib.hid (KV.out _ w4 e2 (by rw [List.length_append];exact e1) (HW.out.trans HF4.out.bel))
          clear e1 e2 e3 KT KV HX
          go_wp2_with fail
          refine KV2.out.mono ?_
          intro r w5 hp5
          rcases hp5 with ⟨e1,rfl,e2,e3⟩ | ⟨e1,rfl,e2⟩
          · have hT:=HTT.out
            have HF:=Lib.hid (show ObC B b l ps n w2 g (.int .i64 ((j:Int)+1)) w5 from ⟨j+1,by simp,by omega,by omega,by rw [HH.out,hT];simpa using e2,by rw [HH.out,hT];simp only [List.length_append,List.length_cons] at e1 ⊢;omega,HG4.out.trans e3⟩)
            clear e1 e2 e3 KV2 hT
            go_wp2
            go_roundg g
            case rel=>exact HF.out
            case measure=>omega
          · have HZ:=Lib.hid (EncB.bad (B:=B) (b:=b) (l:=l) (p:=AE) e1 (by have hle:=HLE.out;rw [HAE.out];simp only [List.length_append,List.length_cons] at hle ⊢;omega) (HF4.out.bel.trans e2))
            clear e1 e2 KV2
            go_wp2
            exact ⟨rfl,HZ.out⟩
        · have HZ:=Lib.hid (EncB.bad (B:=B) (b:=b) (l:=l) (p:=AE) e1 (by have hle:=HLE.out;rw [HAE.out];simp only [List.length_append,List.length_cons] at hle ⊢;omega) (HFR.out.bel.trans e2))
          clear e1 e2 KT KV HX
          go_wp2
          exact ⟨rfl,HZ.out⟩
      · obtain rfl:j=n:=by omega
        have hjz:¬ (j:Int)<(j:Int):=by omega
        have hall:ps.take j=ps:=List.take_of_length_le (by have:=HPL.out;omega)
        have hlen:=HLJ.out
        have hwr:=HWR.out
        rw [hall,← HAE.out] at hlen hwr
        have HZ:=Lib.hid (show EncB B b l AE W (.returned (.tuple #[])) wr from .inl ⟨by rw [List.length_append] at hlen;exact hlen,rfl,hwr,HFR.out⟩)
        clear hlen hwr hall
        go_wp2_with fail
        go_end0
        exact HZ.out
  · have HZ:=Lib.hid (EncB.bad (B:=B) (b:=b) (l:=l) (p:=AE) h1 (by rw [HAE.out];simp) h2)
    clear h1 h2 KP
    go_wp2
    exact ⟨rfl,HZ.out⟩
theorem riseC_ok {l:List ByteArray} (h:risesB l=true):∀ s∈l,okN s=true:=by
  intro s hs
  obtain ⟨i,hi,rfl⟩:=List.getElem_of_mem hs
  have:=risesB_iff.1 h i hi
  unfold nameAt at this
  rw [Bool.and_eq_true] at this
  have e:l.getD i ByteArray.empty=l[i]:=by simp [List.getD,hi]
  rw [e] at this
  exact this.1
theorem riseC_size {l:List ByteArray} (h:risesB l=true):∀ s∈l,s.size≤2000:=by
  intro s hs
  have:=riseC_ok h s hs
  unfold okN at this
  rw [Bool.and_eq_true,decide_eq_true_eq] at this
  exact this.1
theorem fltB_len {d N:Nat} (h:d≤2):(fltB d N).length≤9:=by
  unfold fltB
  rw [List.length_cons,bytesL_len]
  have:d=0∨d=1∨d=2:=by omega
  rcases this with rfl | rfl | rfl <;> decide
theorem numB_len {ng:Bool} {xs:List Nat} {e:Int} (ho:Okl xs) (h:chkB ng xs e=true):(numB ng (val xs) e).length≤7000:=by
  have hb:=chkB_bounds h
  have h90:bitsN (val xs)≤2880:=Nat.le_trans (bits_words ho) (by omega)
  have hr:(restB ng (val xs) e).length≤7000:=by
    unfold restB
    cases hf:fltOf ng (val xs) e with
    | some p =>
      obtain ⟨d,y⟩:=p
      have:=fltB_len (N:=y) (shA_yes hf).2
      simp only
      omega
    | none =>
      simp only
      unfold decB
      have h1:=intB_len (decide (e<0)) (toldN (decide (e<0)) e.natAbs) (k:=32) (Nat.le_trans (bits_mono (told_le _ _)) (bits_small (by omega)))
      have h2:=intB_len ng (toldN ng (val xs)) (k:=2880) (Nat.le_trans (bits_mono (told_le _ _)) h90)
      have h3:=hd_len 6 4
      have h4:=hd_len 4 2
      simp only [List.length_append]
      omega
  unfold numB intAt
  split
  next M hM =>
    split at hM
    next hc =>
      cases hM
      split
      · have:=intB_len ng (toldN ng (val xs*tenN e.toNat)) (k:=400) (Nat.le_trans (bits_mono (told_le _ _)) hc.2)
        omega
      · exact hr
    next=>cases hM
  next=>exact hr
theorem valc_null (B b:Nat) (w0:World) (hBb:B≤b) (h0:w0.heap.size=B) (b0 neg:Bool) (ma:Option Addr) (mn mc:Nat) (e:Int) (s:ByteArray) (ka:Option Addr) (kn kc:Nat) (va:Option Addr) (vn vc:Nat)
    (l:List Nat) (W:World) (h:WrC B b l W) (hl:l.length≤32768) (hw:Below B w0 W) :
    Calls Tryz.prog 39 #[.pointer (some ⟨b,0,none⟩),.agg #[.int .i64 1,.bool b0,.bool neg,.slice ma mn mc,.int .i64 e,.string s,.slice ka kn kc,.slice va vn vc]] W (EncB B b l (hd 7 22) W):=by
  have hbw:=h.lt
  obtain ⟨W1,hW1⟩:∃ x,W.alloc (.cells #[.int .i64 1,.bool b0,.bool neg,.slice ma mn mc,.int .i64 e,.string s,.slice ka kn kc,.slice va vn vc] 29)=x:=⟨_,rfl⟩
  have hb1:Below W.heap.size W W1:=by rw [← hW1];exact (Below.refl _ _).alloc (Nat.le_refl _) _
  have q1:W1.heap[W.heap.size]? = some (.cells #[.int .i64 1,.bool b0,.bool neg,.slice ma mn mc,.int .i64 e,.string s,.slice ka kn kc,.slice va vn vc] 29):=by rw [← hW1];exact heap_alloc_new W _
  have hf1:FrC B b W W1:=FrC.of_below (by omega) hb1
  have hw1:=h.on hb1
  have hbe:Below B w0 W1:=hw.trans hf1.bel
  have hs1:=hb1.size
  have HW1:=Lib.hid hW1;have HF1:=Lib.hid hf1;have HBE:=Lib.hid hbe;have HWR:=Lib.hid hw1
  have KP:=Lib.hid (headc_any B b l 7 22 W1 hw1 hl (by omega) hBb)
  rw [show hd ((7:Int) % 8).toNat 22=hd 7 22 from rfl] at KP
  have y0:=(boxC q1 0 _ rfl).1
  have y1:=(boxC q1 1 _ rfl).1
  have y2:=(boxC q1 2 _ rfl).1
  have y3:=(boxC q1 3 _ rfl).1
  have y4:=(boxC q1 4 _ rfl).1
  have y5:=(boxC q1 5 _ rfl).1
  have y6:=(boxC q1 6 _ rfl).1
  have y7:=(boxC q1 7 _ rfl).1
  have hsB:B≤W1.heap.size:=by omega
  have HSB:=Lib.hid hsB
  clear hW1 hb1 hf1 hw1 hbe h hw q1 hsB
  go_enter Tryz.func39,Tryz.ntmps39
  go_wp2_with fail
  rw [HW1.out]
  go_wp2_with fail
  have HFX:=HF1
  refine KP.out.mono ?_
  intro r w5 hp5
  rcases hp5 with ⟨e1,rfl,e2,e3⟩ | ⟨e1,rfl,e2⟩
  · have HZ:=Lib.hid (EncB.pre HFX.out (.inl ⟨e1,rfl,e2,e3⟩))
    clear e1 e2 e3 KP
    go_wp2
    go_end0
    exact HZ.out
  · have HZ:=Lib.hid (EncB.pre HFX.out (.inr ⟨e1,rfl,e2⟩))
    clear e1 e2 KP
    go_wp2
    exact ⟨rfl,HZ.out⟩
theorem valc_truth (B b:Nat) (w0:World) (hBb:B≤b) (h0:w0.heap.size=B) (b0 neg:Bool) (ma:Option Addr) (mn mc:Nat) (e:Int) (s:ByteArray) (ka:Option Addr) (kn kc:Nat) (va:Option Addr) (vn vc:Nat)
    (l:List Nat) (W:World) (h:WrC B b l W) (hl:l.length≤32768) (hw:Below B w0 W) :
    Calls Tryz.prog 39 #[.pointer (some ⟨b,0,none⟩),.agg #[.int .i64 2,.bool b0,.bool neg,.slice ma mn mc,.int .i64 e,.string s,.slice ka kn kc,.slice va vn vc]] W (EncB B b l (truthC b0) W):=by
  have hbw:=h.lt
  obtain ⟨W1,hW1⟩:∃ x,W.alloc (.cells #[.int .i64 2,.bool b0,.bool neg,.slice ma mn mc,.int .i64 e,.string s,.slice ka kn kc,.slice va vn vc] 29)=x:=⟨_,rfl⟩
  have hb1:Below W.heap.size W W1:=by rw [← hW1];exact (Below.refl _ _).alloc (Nat.le_refl _) _
  have q1:W1.heap[W.heap.size]? = some (.cells #[.int .i64 2,.bool b0,.bool neg,.slice ma mn mc,.int .i64 e,.string s,.slice ka kn kc,.slice va vn vc] 29):=by rw [← hW1];exact heap_alloc_new W _
  have hf1:FrC B b W W1:=FrC.of_below (by omega) hb1
  have hw1:=h.on hb1
  have hbe:Below B w0 W1:=hw.trans hf1.bel
  have hs1:=hb1.size
  have HW1:=Lib.hid hW1;have HF1:=Lib.hid hf1;have HBE:=Lib.hid hbe;have HWR:=Lib.hid hw1
  have KP:=Lib.hid (truthc_any B b l b0 W1 hw1 hl hBb)
  have y0:=(boxC q1 0 _ rfl).1
  have y1:=(boxC q1 1 _ rfl).1
  have y2:=(boxC q1 2 _ rfl).1
  have y3:=(boxC q1 3 _ rfl).1
  have y4:=(boxC q1 4 _ rfl).1
  have y5:=(boxC q1 5 _ rfl).1
  have y6:=(boxC q1 6 _ rfl).1
  have y7:=(boxC q1 7 _ rfl).1
  have hsB:B≤W1.heap.size:=by omega
  have HSB:=Lib.hid hsB
  clear hW1 hb1 hf1 hw1 hbe h hw q1 hsB
  go_enter Tryz.func39,Tryz.ntmps39
  go_wp2_with fail
  rw [HW1.out]
  go_wp2_with fail
  have HFX:=HF1
  refine KP.out.mono ?_
  intro r w5 hp5
  rcases hp5 with ⟨e1,rfl,e2,e3⟩ | ⟨e1,rfl,e2⟩
  · have HZ:=Lib.hid (EncB.pre HFX.out (.inl ⟨e1,rfl,e2,e3⟩))
    clear e1 e2 e3 KP
    go_wp2
    go_end0
    exact HZ.out
  · have HZ:=Lib.hid (EncB.pre HFX.out (.inr ⟨e1,rfl,e2⟩))
    clear e1 e2 KP
    go_wp2
    exact ⟨rfl,HZ.out⟩
theorem valc_num (B b:Nat) (w0:World) (hBb:B≤b) (h0:w0.heap.size=B) (b0 neg:Bool) (ma:Option Addr) (mn mc:Nat) (e:Int) (s:ByteArray) (ka:Option Addr) (kn kc:Nat) (va:Option Addr) (vn vc:Nat) (M:List Nat) (hM:M.length=mn) (hMc:mn≤mc) (hMo:Okl M) (hMr:Rd w0 ma M) (hMk:chkB neg M e=true) (hT:DB w0)
    (l:List Nat) (W:World) (h:WrC B b l W) (hl:l.length≤32768) (hw:Below B w0 W) :
    Calls Tryz.prog 39 #[.pointer (some ⟨b,0,none⟩),.agg #[.int .i64 3,.bool b0,.bool neg,.slice ma mn mc,.int .i64 e,.string s,.slice ka kn kc,.slice va vn vc]] W (EncB B b l (numB neg (val M) e) W):=by
  have hbw:=h.lt
  obtain ⟨W1,hW1⟩:∃ x,W.alloc (.cells #[.int .i64 3,.bool b0,.bool neg,.slice ma mn mc,.int .i64 e,.string s,.slice ka kn kc,.slice va vn vc] 29)=x:=⟨_,rfl⟩
  have hb1:Below W.heap.size W W1:=by rw [← hW1];exact (Below.refl _ _).alloc (Nat.le_refl _) _
  have q1:W1.heap[W.heap.size]? = some (.cells #[.int .i64 3,.bool b0,.bool neg,.slice ma mn mc,.int .i64 e,.string s,.slice ka kn kc,.slice va vn vc] 29):=by rw [← hW1];exact heap_alloc_new W _
  have hf1:FrC B b W W1:=FrC.of_below (by omega) hb1
  have hw1:=h.on hb1
  have hbe:Below B w0 W1:=hw.trans hf1.bel
  have hs1:=hb1.size
  have HW1:=Lib.hid hW1;have HF1:=Lib.hid hf1;have HBE:=Lib.hid hbe;have HWR:=Lib.hid hw1
  have hno:NumOk W1 neg ma mn mc M e:=⟨hM,hMc,hMo,hMr.below (by rw [h0];exact hbe:Below w0.heap.size w0 W1),hMk⟩
  have KF:=Lib.hid (number_enc neg ma mn mc M e W1 hno (hT.below (by rw [h0];exact hbe:Below w0.heap.size w0 W1)))
  have HSZ:=Lib.hid (numB_len (ng:=neg) hMo hMk)
  clear hM hMc hMo hMr hMk hT hno
  generalize numB neg (val M) e=NB at *
  have y0:=(boxC q1 0 _ rfl).1
  have y1:=(boxC q1 1 _ rfl).1
  have y2:=(boxC q1 2 _ rfl).1
  have y3:=(boxC q1 3 _ rfl).1
  have y4:=(boxC q1 4 _ rfl).1
  have y5:=(boxC q1 5 _ rfl).1
  have y6:=(boxC q1 6 _ rfl).1
  have y7:=(boxC q1 7 _ rfl).1
  have hsB:B≤W1.heap.size:=by omega
  have HSB:=Lib.hid hsB
  clear hW1 hb1 hf1 hw1 hbe h hw q1 hsB
  go_enter Tryz.func39,Tryz.ntmps39
  go_wp2_with fail
  rw [HW1.out]
  go_wp2_with fail
  refine KF.out.mono ?_
  rintro r w2 ⟨v2,rfl,ho2,hb2⟩
  obtain ⟨ad2,cap2,rfl,hc2,hr2,_,_,h02⟩:=own_viewN ho2
  have HFX:=Lib.hid (HF1.out.trans (FrC.of_below HSB.out hb2))
  have KP:=Lib.hid (putc_any B b l ad2 _ cap2 NB w2 (HWR.out.on hb2) hl rfl (by have:=HSZ.out;omega) hr2 (fun h=>(h02 h).1) hBb)
  clear hb2 KF ho2 hr2 h02 hc2
  go_wp2_with fail
  refine KP.out.mono ?_
  intro r w5 hp5
  rcases hp5 with ⟨e1,rfl,e2,e3⟩ | ⟨e1,rfl,e2⟩
  · have HZ:=Lib.hid (EncB.pre HFX.out (.inl ⟨e1,rfl,e2,e3⟩))
    clear e1 e2 e3 KP
    go_wp2
    go_end0
    exact HZ.out
  · have HZ:=Lib.hid (EncB.pre HFX.out (.inr ⟨e1,rfl,e2⟩))
    clear e1 e2 KP
    go_wp2
    exact ⟨rfl,HZ.out⟩
theorem valc_text (B b:Nat) (w0:World) (hBb:B≤b) (h0:w0.heap.size=B) (b0 neg:Bool) (ma:Option Addr) (mn mc:Nat) (e:Int) (s:ByteArray) (ka:Option Addr) (kn kc:Nat) (va:Option Addr) (vn vc:Nat) (hz:s.size≤1000000)
    (l:List Nat) (W:World) (h:WrC B b l W) (hl:l.length≤32768) (hw:Below B w0 W) :
    Calls Tryz.prog 39 #[.pointer (some ⟨b,0,none⟩),.agg #[.int .i64 4,.bool b0,.bool neg,.slice ma mn mc,.int .i64 e,.string s,.slice ka kn kc,.slice va vn vc]] W (EncB B b l (strC 3 s) W):=by
  have hbw:=h.lt
  obtain ⟨W1,hW1⟩:∃ x,W.alloc (.cells #[.int .i64 4,.bool b0,.bool neg,.slice ma mn mc,.int .i64 e,.string s,.slice ka kn kc,.slice va vn vc] 29)=x:=⟨_,rfl⟩
  have hb1:Below W.heap.size W W1:=by rw [← hW1];exact (Below.refl _ _).alloc (Nat.le_refl _) _
  have q1:W1.heap[W.heap.size]? = some (.cells #[.int .i64 4,.bool b0,.bool neg,.slice ma mn mc,.int .i64 e,.string s,.slice ka kn kc,.slice va vn vc] 29):=by rw [← hW1];exact heap_alloc_new W _
  have hf1:FrC B b W W1:=FrC.of_below (by omega) hb1
  have hw1:=h.on hb1
  have hbe:Below B w0 W1:=hw.trans hf1.bel
  have hs1:=hb1.size
  have HW1:=Lib.hid hW1;have HF1:=Lib.hid hf1;have HBE:=Lib.hid hbe;have HWR:=Lib.hid hw1
  have KP:=Lib.hid (textc_any B b l 3 s W1 hw1 hl hz (by omega) hBb)
  rw [show ((3:Nat):Int)=3 from rfl] at KP
  have y0:=(boxC q1 0 _ rfl).1
  have y1:=(boxC q1 1 _ rfl).1
  have y2:=(boxC q1 2 _ rfl).1
  have y3:=(boxC q1 3 _ rfl).1
  have y4:=(boxC q1 4 _ rfl).1
  have y5:=(boxC q1 5 _ rfl).1
  have y6:=(boxC q1 6 _ rfl).1
  have y7:=(boxC q1 7 _ rfl).1
  have hsB:B≤W1.heap.size:=by omega
  have HSB:=Lib.hid hsB
  clear hW1 hb1 hf1 hw1 hbe h hw q1 hsB
  go_enter Tryz.func39,Tryz.ntmps39
  go_wp2_with fail
  rw [HW1.out]
  go_wp2_with fail
  have HFX:=HF1
  refine KP.out.mono ?_
  intro r w5 hp5
  rcases hp5 with ⟨e1,rfl,e2,e3⟩ | ⟨e1,rfl,e2⟩
  · have HZ:=Lib.hid (EncB.pre HFX.out (.inl ⟨e1,rfl,e2,e3⟩))
    clear e1 e2 e3 KP
    go_wp2
    go_end0
    exact HZ.out
  · have HZ:=Lib.hid (EncB.pre HFX.out (.inr ⟨e1,rfl,e2⟩))
    clear e1 e2 KP
    go_wp2
    exact ⟨rfl,HZ.out⟩
theorem valc_bytes (B b:Nat) (w0:World) (hBb:B≤b) (h0:w0.heap.size=B) (b0 neg:Bool) (ma:Option Addr) (mn mc:Nat) (e:Int) (s:ByteArray) (ka:Option Addr) (kn kc:Nat) (va:Option Addr) (vn vc:Nat) (hz:s.size≤1000000)
    (l:List Nat) (W:World) (h:WrC B b l W) (hl:l.length≤32768) (hw:Below B w0 W) :
    Calls Tryz.prog 39 #[.pointer (some ⟨b,0,none⟩),.agg #[.int .i64 5,.bool b0,.bool neg,.slice ma mn mc,.int .i64 e,.string s,.slice ka kn kc,.slice va vn vc]] W (EncB B b l (strC 2 s) W):=by
  have hbw:=h.lt
  obtain ⟨W1,hW1⟩:∃ x,W.alloc (.cells #[.int .i64 5,.bool b0,.bool neg,.slice ma mn mc,.int .i64 e,.string s,.slice ka kn kc,.slice va vn vc] 29)=x:=⟨_,rfl⟩
  have hb1:Below W.heap.size W W1:=by rw [← hW1];exact (Below.refl _ _).alloc (Nat.le_refl _) _
  have q1:W1.heap[W.heap.size]? = some (.cells #[.int .i64 5,.bool b0,.bool neg,.slice ma mn mc,.int .i64 e,.string s,.slice ka kn kc,.slice va vn vc] 29):=by rw [← hW1];exact heap_alloc_new W _
  have hf1:FrC B b W W1:=FrC.of_below (by omega) hb1
  have hw1:=h.on hb1
  have hbe:Below B w0 W1:=hw.trans hf1.bel
  have hs1:=hb1.size
  have HW1:=Lib.hid hW1;have HF1:=Lib.hid hf1;have HBE:=Lib.hid hbe;have HWR:=Lib.hid hw1
  have KP:=Lib.hid (textc_any B b l 2 s W1 hw1 hl hz (by omega) hBb)
  rw [show ((2:Nat):Int)=2 from rfl] at KP
  have y0:=(boxC q1 0 _ rfl).1
  have y1:=(boxC q1 1 _ rfl).1
  have y2:=(boxC q1 2 _ rfl).1
  have y3:=(boxC q1 3 _ rfl).1
  have y4:=(boxC q1 4 _ rfl).1
  have y5:=(boxC q1 5 _ rfl).1
  have y6:=(boxC q1 6 _ rfl).1
  have y7:=(boxC q1 7 _ rfl).1
  have hsB:B≤W1.heap.size:=by omega
  have HSB:=Lib.hid hsB
  clear hW1 hb1 hf1 hw1 hbe h hw q1 hsB
  go_enter Tryz.func39,Tryz.ntmps39
  go_wp2_with fail
  rw [HW1.out]
  go_wp2_with fail
  have HFX:=HF1
  refine KP.out.mono ?_
  intro r w5 hp5
  rcases hp5 with ⟨e1,rfl,e2,e3⟩ | ⟨e1,rfl,e2⟩
  · have HZ:=Lib.hid (EncB.pre HFX.out (.inl ⟨e1,rfl,e2,e3⟩))
    clear e1 e2 e3 KP
    go_wp2
    go_end0
    exact HZ.out
  · have HZ:=Lib.hid (EncB.pre HFX.out (.inr ⟨e1,rfl,e2⟩))
    clear e1 e2 KP
    go_wp2
    exact ⟨rfl,HZ.out⟩
theorem valc_arr (B b:Nat) (w0:World) (hBb:B≤b) (h0:w0.heap.size=B) (b0 neg:Bool) (ma:Option Addr) (mn mc:Nat) (e:Int) (s:ByteArray) (ka:Option Addr) (kn kc:Nat) (va:Option Addr) (vn vc:Nat) (us:List MT) (hn:us.length=vn) (hm:vn≤300) (hr:RdV w0 va (flat (us.map MT.c))) (hV:∀ u∈us,WrV B b w0 u)
    (l:List Nat) (W:World) (h:WrC B b l W) (hl:l.length≤32768) (hw:Below B w0 W) :
    Calls Tryz.prog 39 #[.pointer (some ⟨b,0,none⟩),.agg #[.int .i64 6,.bool b0,.bool neg,.slice ma mn mc,.int .i64 e,.string s,.slice ka kn kc,.slice va vn vc]] W (EncB B b l (arrE vn (us.map encX)) W):=by
  have hbw:=h.lt
  obtain ⟨W1,hW1⟩:∃ x,W.alloc (.cells #[.int .i64 6,.bool b0,.bool neg,.slice ma mn mc,.int .i64 e,.string s,.slice ka kn kc,.slice va vn vc] 29)=x:=⟨_,rfl⟩
  have hb1:Below W.heap.size W W1:=by rw [← hW1];exact (Below.refl _ _).alloc (Nat.le_refl _) _
  have q1:W1.heap[W.heap.size]? = some (.cells #[.int .i64 6,.bool b0,.bool neg,.slice ma mn mc,.int .i64 e,.string s,.slice ka kn kc,.slice va vn vc] 29):=by rw [← hW1];exact heap_alloc_new W _
  have hf1:FrC B b W W1:=FrC.of_below (by omega) hb1
  have hw1:=h.on hb1
  have hbe:Below B w0 W1:=hw.trans hf1.bel
  have hs1:=hb1.size
  have HW1:=Lib.hid hW1;have HF1:=Lib.hid hf1;have HBE:=Lib.hid hbe;have HWR:=Lib.hid hw1
  have KP:=Lib.hid (arrc_any B b w0 hBb h0 us va vn vc hn hm hr hV l W1 hw1 hl hbe)
  clear hn hm hr hV
  have y0:=(boxC q1 0 _ rfl).1
  have y1:=(boxC q1 1 _ rfl).1
  have y2:=(boxC q1 2 _ rfl).1
  have y3:=(boxC q1 3 _ rfl).1
  have y4:=(boxC q1 4 _ rfl).1
  have y5:=(boxC q1 5 _ rfl).1
  have y6:=(boxC q1 6 _ rfl).1
  have y7:=(boxC q1 7 _ rfl).1
  have hsB:B≤W1.heap.size:=by omega
  have HSB:=Lib.hid hsB
  clear hW1 hb1 hf1 hw1 hbe h hw q1 hsB
  go_enter Tryz.func39,Tryz.ntmps39
  go_wp2_with fail
  rw [HW1.out]
  go_wp2_with fail
  have HFX:=HF1
  refine KP.out.mono ?_
  intro r w5 hp5
  rcases hp5 with ⟨e1,rfl,e2,e3⟩ | ⟨e1,rfl,e2⟩
  · have HZ:=Lib.hid (EncB.pre HFX.out (.inl ⟨e1,rfl,e2,e3⟩))
    clear e1 e2 e3 KP
    go_wp2
    go_end0
    exact HZ.out
  · have HZ:=Lib.hid (EncB.pre HFX.out (.inr ⟨e1,rfl,e2⟩))
    clear e1 e2 KP
    go_wp2
    exact ⟨rfl,HZ.out⟩
theorem valc_obj (B b:Nat) (w0:World) (hBb:B≤b) (h0:w0.heap.size=B) (b0 neg:Bool) (ma:Option Addr) (mn mc:Nat) (e:Int) (s:ByteArray) (ka:Option Addr) (kn kc:Nat) (va:Option Addr) (vn vc:Nat) (ks:List ByteArray) (us:List MT) (hk:ks.length=kn) (hkc:kn≤kc) (hkv:kn=vn) (hn:us.length=vn) (hm:vn≤300) (hz:∀ s∈ks,s.size≤2000) (hrk:RdV w0 ka (sv ks)) (hr:RdV w0 va (flat (us.map MT.c))) (hV:∀ u∈us,WrV B b w0 u)
    (l:List Nat) (W:World) (h:WrC B b l W) (hl:l.length≤32768) (hw:Below B w0 W) :
    Calls Tryz.prog 39 #[.pointer (some ⟨b,0,none⟩),.agg #[.int .i64 7,.bool b0,.bool neg,.slice ma mn mc,.int .i64 e,.string s,.slice ka kn kc,.slice va vn vc]] W (EncB B b l (objE ks (us.map encX)) W):=by
  have hbw:=h.lt
  obtain ⟨W1,hW1⟩:∃ x,W.alloc (.cells #[.int .i64 7,.bool b0,.bool neg,.slice ma mn mc,.int .i64 e,.string s,.slice ka kn kc,.slice va vn vc] 29)=x:=⟨_,rfl⟩
  have hb1:Below W.heap.size W W1:=by rw [← hW1];exact (Below.refl _ _).alloc (Nat.le_refl _) _
  have q1:W1.heap[W.heap.size]? = some (.cells #[.int .i64 7,.bool b0,.bool neg,.slice ma mn mc,.int .i64 e,.string s,.slice ka kn kc,.slice va vn vc] 29):=by rw [← hW1];exact heap_alloc_new W _
  have hf1:FrC B b W W1:=FrC.of_below (by omega) hb1
  have hw1:=h.on hb1
  have hbe:Below B w0 W1:=hw.trans hf1.bel
  have hs1:=hb1.size
  have HW1:=Lib.hid hW1;have HF1:=Lib.hid hf1;have HBE:=Lib.hid hbe;have HWR:=Lib.hid hw1
  subst hkv
  have KP:=Lib.hid (objc_any B b w0 hBb h0 ks ka kc us va kn vc hk hkc hn hm hz hrk hr hV l W1 hw1 hl hbe)
  clear hn hm hr hV hk hkc hz hrk
  have y0:=(boxC q1 0 _ rfl).1
  have y1:=(boxC q1 1 _ rfl).1
  have y2:=(boxC q1 2 _ rfl).1
  have y3:=(boxC q1 3 _ rfl).1
  have y4:=(boxC q1 4 _ rfl).1
  have y5:=(boxC q1 5 _ rfl).1
  have y6:=(boxC q1 6 _ rfl).1
  have y7:=(boxC q1 7 _ rfl).1
  have hsB:B≤W1.heap.size:=by omega
  have HSB:=Lib.hid hsB
  clear hW1 hb1 hf1 hw1 hbe h hw q1 hsB
  go_enter Tryz.func39,Tryz.ntmps39
  go_wp2_with fail
  rw [HW1.out]
  go_wp2_with fail
  have HFX:=HF1
  refine KP.out.mono ?_
  intro r w5 hp5
  rcases hp5 with ⟨e1,rfl,e2,e3⟩ | ⟨e1,rfl,e2⟩
  · have HZ:=Lib.hid (EncB.pre HFX.out (.inl ⟨e1,rfl,e2,e3⟩))
    clear e1 e2 e3 KP
    go_wp2
    go_end0
    exact HZ.out
  · have HZ:=Lib.hid (EncB.pre HFX.out (.inr ⟨e1,rfl,e2⟩))
    clear e1 e2 KP
    go_wp2
    exact ⟨rfl,HZ.out⟩
theorem valc_any (B b:Nat) (w0:World) (hBb:B≤b) (h0:w0.heap.size=B) (hT:DB w0) (t:MT):Rep w0 t→(∀ s,t.sub s→soundB s=true)→WrV B b w0 t:=by
  refine MT.ind (P:=fun t=>Rep w0 t→(∀ s,t.sub s→soundB s=true)→WrV B b w0 t) ?_ t
  intro t ih hR hS l W h hl hw
  have own:=hR.own
  have hV:∀ u∈t.v,WrV B b w0 u:=fun u hu=>ih u hu (hR.part hu) (fun s hs=>hS s (MT.sub_v hu hs))
  have hs:=hS t t.sub_refl
  rw [encX_eq]
  obtain ⟨⟨k,b0,neg,ma,mn,mc,e,s,ka,kn,kc,va,vn,vc⟩,M,ks,us⟩:=t
  clear ih hS hR
  unfold soundB at hs
  simp only [MT.c,MT.m,MT.k,MT.v] at hs hV own ⊢
  unfold Cel.val
  obtain ⟨o1,o2,o3,o4,o5,o6,o7,o8,o9,o10,o11,o12,o13,o14,o15⟩:=own
  simp only [MT.c,MT.m,MT.k,MT.v] at o1 o2 o3 o4 o5 o6 o7 o8 o9 o10 o11 o12 o13
  by_cases k1:k=1
  · subst k1
    exact valc_null B b w0 hBb h0 b0 neg ma mn mc e s ka kn kc va vn vc l W h hl hw
  by_cases k2:k=2
  · subst k2
    exact valc_truth B b w0 hBb h0 b0 neg ma mn mc e s ka kn kc va vn vc l W h hl hw
  by_cases k3:k=3
  · subst k3
    simp at hs
    exact valc_num B b w0 hBb h0 b0 neg ma mn mc e s ka kn kc va vn vc M o1 o2 o3 o4 hs.1 hT l W h hl hw
  by_cases k4:k=4
  · subst k4
    simp at hs
    exact valc_text B b w0 hBb h0 b0 neg ma mn mc e s ka kn kc va vn vc (by have:=of_decide_eq_true hs.2.1;omega) l W h hl hw
  by_cases k5:k=5
  · subst k5
    simp at hs
    exact valc_bytes B b w0 hBb h0 b0 neg ma mn mc e s ka kn kc va vn vc (by have:=of_decide_eq_true hs.1;omega) l W h hl hw
  by_cases k7:k=7
  · subst k7
    simp at hs
    exact valc_obj B b w0 hBb h0 b0 neg ma mn mc e s ka kn kc va vn vc ks us o5 o6 (of_decide_eq_true hs.1) o8 (of_decide_eq_true hs.2.2.1) (riseC_size hs.2.1) o7 o10 hV l W h hl hw
  by_cases k6:k=6
  · subst k6
    simp at hs
    have:=valc_arr B b w0 hBb h0 b0 neg ma mn mc e s ka kn kc va vn vc us o8 (of_decide_eq_true hs.1) o10 hV l W h hl hw
    have e8:arrE us.length (us.map encX)=arrE vn (us.map encX):=by rw [o8]
    rw [← e8] at this
    exact this
  · simp [k1,k2,k3,k4,k5,k7,k6] at hs
theorem catch_thrownX (g h : Nat) (v0 u : Value) (x : Int) (older : List PanicEntry) (w : World) (n1 : g ≠ h) (hv0 : ∃ a b c, v0 = .slice a b c)
    (c0 : w.cell? ⟨g, 0, none⟩ = some v0) (f0 : w.frozen? ⟨g, 0, none⟩ = false)
    (ch : w.cell? ⟨h, 0, none⟩ = some u) (fh : w.frozen? ⟨h, 0, none⟩ = false) :
    CallsD Tryz.prog 37 #[.pointer (some ⟨g, 0, none⟩), .pointer (some ⟨h, 0, none⟩)] (.panicking ({ v := .iface 32 (.int .i64 x), recovered := false } :: older)) w fun e u' w' =>
      e = .returned (.tuple #[]) ∧ u' = .panicking ({ v := .iface 32 (.int .i64 x), recovered := true } :: older) ∧
        w' = ((w.setCell ⟨g, 0, none⟩ (.slice none 0 0)).setCell ⟨h, 0, none⟩ (.int .i64 x)).drew := by
  obtain ⟨va, vb, vc, rfl⟩ := hv0
  refine callsD_of_wpS Tryz.func37 rfl fun c₀ cs hu => ?_
  apply wpS_seq
  apply wpS_region
  simp [wpOpsS, go_sem, recoverD, hu, Tryz.ntmps37, Exit.thenS]
  apply wpS_seq
  apply wpS_region
  simp [wpOpsS, go_sem, Exit.thenS]
  refine wpS_cond (t := true) (by simp [Act.eval, Array.replicate]) ?_
  simp only [if_true]
  refine wpS_of_wp ?_
  change Code.wp _ _ _ { tmps := #[.pointer (some ⟨g, 0, none⟩), .pointer (some ⟨h, 0, none⟩), .iface 32 (.int .i64 x), .iface 32 (.int .i64 x), .iface 32 (.int .i64 x), .bool true, undef, undef], defers := [] } w
  have hne1 : ¬ h = g := fun hh => n1 hh.symm
  have hta := assert_errnoC x
  go_region
  exact ⟨rfl, _, rfl, .tuple #[], by simp [results, Tryz.results37, go_sem], rfl, rfl, rfl⟩
theorem catch_idleX (p q:Addr) (w:World) :
    CallsD Tryz.prog 37 #[.pointer (some p),.pointer (some q)] .returning w fun e u' w'=>e=.returned (.tuple #[])∧u'=.returning∧w'=w:=by
  refine callsD_of_wpS Tryz.func37 rfl fun c₀ cs hu=>?_
  apply wpS_seq
  apply wpS_region
  simp [wpOpsS,go_sem,recoverD,hu,Tryz.ntmps37,Exit.thenS]
  apply wpS_seq
  apply wpS_region
  simp [wpOpsS,go_sem,Exit.thenS]
  refine wpS_cond (t:=false) (by simp [Act.eval,Array.replicate]) ?_
  simp only [Bool.false_eq_true,if_false]
  refine wpS_of_wp (wp_skip ?_)
  cases c₀
  simp_all [bodyPostS,results,Tryz.results37]
theorem check_subC {t:MT} (h:checkB t=true):∀ s,t.sub s→soundB s=true:=by
  intro s hs
  unfold checkB at h
  rw [Bool.and_eq_true,List.all_eq_true] at h
  obtain ⟨n,hn⟩:=hs
  obtain ⟨m,hm⟩:=MT.mem_pre_shift t 0 1 s ⟨n,hn⟩
  have:=h.2 _ hm
  rw [Bool.and_eq_true] at this
  exact this.2
def encoX (t:MT):List Nat ⊕ Int:=if checkB t=false then .inr 1 else if (encX t).length≤32768 then .inl (encX t) else .inr 4
def EnP (r:List Nat ⊕ Int) (w:World) (e:Ending) (w':World):Prop :=
  match r with
  | .inl l=>∃ v,e=.returned (.tuple #[v,.int .i64 0])∧w'.ownsRow w.heap.size 5 1 v l.length (bc l)∧Below w.heap.size w w'
  | .inr x=>e=.returned (.tuple #[.slice none 0 0,.int .i64 x])∧Below w.heap.size w w'
theorem EnP.no {r:List Nat ⊕ Int} {w w':World} {e:Ending} {x:Int} (h:r=.inr x) (he:e=.returned (.tuple #[.slice none 0 0,.int .i64 x])) (hb:Below w.heap.size w w'):EnP r w e w':=by
  subst h;exact ⟨he,hb⟩
theorem EnP.yes {r:List Nat ⊕ Int} {w w':World} {e:Ending} {l:List Nat} {v:Value} (h:r=.inl l) (he:e=.returned (.tuple #[v,.int .i64 0])) (ho:w'.ownsRow w.heap.size 5 1 v l.length (bc l)) (hb:Below w.heap.size w w'):EnP r w e w':=by
  subst h;exact ⟨v,he,ho,hb⟩
theorem own_set {w:World} {B:Nat} {e:TypeId} {size:Nat} {v:Value} {n:Nat} {xs:List Value} (h:w.ownsRow B e size v n xs) {a:Addr} (ha:a.block<B) (u:Value):(w.setCell a u).ownsRow B e size v n xs :=
  own_keep h (fun k hk=>by have:=(own_bd h hk).1;simp [World.setCell,Array.getElem?_modify,show a.block ≠ k by omega])
theorem encode_cb (t:MT) (w:World) (hR:Rep w t) (hU:UT w) (hT:DB w):Calls Tryz.prog 15 #[t.c.val] w (EnP (encoX t) w):=by
  have hmf:∀ (fn:Fn) (first cap:Array Value) (w:World),(Instr.makeFunc fn first cap).run Tryz.prog w=.ok (.func fn first cap) w:=fun _ _ _ _=>rfl
  obtain ⟨W,hW⟩:∃ W,W=((w.alloc (.cells t.c.cells.toArray 29)).alloc (.cells #[.slice none 0 0] 22)).alloc (.cells #[.int .i64 0] 32):=⟨_,rfl⟩
  have hb0:Below w.heap.size w W:=by
    rw [hW];exact (((Below.refl _ _).alloc (Nat.le_refl _) _).alloc (by simp) _).alloc (by simp;omega) _
  have hs0:W.heap.size=w.heap.size+1+1+1:=by rw [hW];simp
  have q0:W.heap[w.heap.size]? = some (.cells t.c.cells.toArray 29):=by
    rw [hW];exact (Below.heap_alloc _ _ _ (by simp;omega)).trans ((Below.heap_alloc _ _ _ (by simp)).trans (heap_alloc_new w _))
  have q1:W.heap[w.heap.size+1]? = some (.cells #[.slice none 0 0] 22):=by
    rw [hW]
    refine (Below.heap_alloc _ _ _ (by simp)).trans ?_
    have:=heap_alloc_new (w.alloc (.cells t.c.cells.toArray 29)) (.cells #[.slice none 0 0] 22);simpa using this
  have q2:W.heap[w.heap.size+1+1]? = some (.cells #[.int .i64 0] 32):=by
    rw [hW]
    have:=heap_alloc_new ((w.alloc (.cells t.c.cells.toArray 29)).alloc (.cells #[.slice none 0 0] 22)) (.cells #[.int .i64 0] 32);simpa using this
  have KC:=Lib.hid (checkT_any t W (hR.on hb0) (hU.below hb0))
  have KV:=Lib.hid (fun W' (h:Below W.heap.size W W') (hc:checkB t=true) =>
    valc_any W'.heap.size W'.heap.size W' (Nat.le_refl _) rfl ((hT.below hb0).below h) t ((hR.on hb0).on h) (check_subC hc))
  have HR1:=Lib.hid (fun (h:checkB t=false)=>(show encoX t=.inr 1 by unfold encoX;rw [if_pos h]))
  have HR4:=Lib.hid (fun (h:checkB t=true) (h3:32768<(encX t).length)=>(show encoX t=.inr 4 by unfold encoX;rw [if_neg (by rw [h];decide),if_neg (by omega)]))
  have HRY:=Lib.hid (fun (h:checkB t=true) (h3:(encX t).length≤32768)=>(show encoX t=.inl (encX t) by unfold encoX;rw [if_neg (by rw [h];decide),if_pos h3]))
  unfold WrV at KV
  have HB0:=Lib.hid hb0;have HS0:=Lib.hid hs0;have Q0:=Lib.hid q0;have Q1:=Lib.hid q1;have Q2:=Lib.hid q2
  clear hR hU hT hb0 hs0 q0 q1 q2
  generalize checkB t=ck at *
  generalize encoX t=RR at *
  generalize encX t=ej at *
  generalize t.c=c at *
  obtain ⟨k,b0,neg,ma,mn,mc,e,s,ka,kn,kc,va,vn,vc⟩:=c
  unfold Cel.cells at hW Q0
  simp only at hW Q0
  unfold Cel.val at *
  have HW:=Lib.hid hW.symm
  clear hW
  have hb:Below W.heap.size W W:=Below.refl _ _
  have p0:=(hb.block w.heap.size (by have:=HS0.out;omega)).trans Q0.out
  have p1:=(hb.block (w.heap.size+1) (by have:=HS0.out;omega)).trans Q1.out
  have p2:=(hb.block (w.heap.size+1+1) (by have:=HS0.out;omega)).trans Q2.out
  have y0:=(boxC p0 0 _ rfl).1
  have y1:=(boxC p0 1 _ rfl).1
  have y2:=(boxC p0 2 _ rfl).1
  have y3:=(boxC p0 3 _ rfl).1
  have y4:=(boxC p0 4 _ rfl).1
  have y5:=(boxC p0 5 _ rfl).1
  have y6:=(boxC p0 6 _ rfl).1
  have y7:=(boxC p0 7 _ rfl).1
  have a0:W.cell? ⟨w.heap.size+1,0,none⟩=some (.slice none 0 0):=(boxC p1 0 _ rfl).1
  have af0:=(boxC p1 0 _ rfl).2
  have b0':W.cell? ⟨w.heap.size+1+1,0,none⟩=some (.int .i64 0):=(boxC p2 0 _ rfl).1
  have bf0:=(boxC p2 0 _ rfl).2
  clear p0 p1 p2 hb
  go_enter_defers Tryz.func15,Tryz.ntmps15
  go_wp2_with fail
  rw [HW.out]
  go_wp2_with fail
  refine KC.out.mono ?_
  rintro r w1 ⟨rfl,hb⟩
  clear y0 y1 y2 y3 y4 y5 y6 y7 a0 af0 b0' bf0
  have p0:=(hb.block w.heap.size (by have:=HS0.out;omega)).trans Q0.out
  have p1:=(hb.block (w.heap.size+1) (by have:=HS0.out;omega)).trans Q1.out
  have p2:=(hb.block (w.heap.size+1+1) (by have:=HS0.out;omega)).trans Q2.out
  have y0:=(boxC p0 0 _ rfl).1
  have y1:=(boxC p0 1 _ rfl).1
  have y2:=(boxC p0 2 _ rfl).1
  have y3:=(boxC p0 3 _ rfl).1
  have y4:=(boxC p0 4 _ rfl).1
  have y5:=(boxC p0 5 _ rfl).1
  have y6:=(boxC p0 6 _ rfl).1
  have y7:=(boxC p0 7 _ rfl).1
  have a0:w1.cell? ⟨w.heap.size+1,0,none⟩=some (.slice none 0 0):=(boxC p1 0 _ rfl).1
  have af0:=(boxC p1 0 _ rfl).2
  have b0':w1.cell? ⟨w.heap.size+1+1,0,none⟩=some (.int .i64 0):=(boxC p2 0 _ rfl).1
  have bf0:=(boxC p2 0 _ rfl).2
  have HB1:=Lib.hid hb
  have HBW:=Lib.hid (HB0.out.trans (hb.mono HB0.out.size))
  have hs2:w.heap.size+1+1<w1.heap.size:=(Array.getElem?_eq_some_iff.1 p2).1
  have P0:=Lib.hid p0;have P1:=Lib.hid p1;have P2:=Lib.hid p2
  clear p0 p1 p2 hb
  cases ck with
  | false =>
    have HR:=Lib.hid (HR1.out (by first | rfl | trivial))
    go_wp2
    refine leaves_cons (f:=37) (args:=#[.pointer (some ⟨w.heap.size+1,0,none⟩),.pointer (some ⟨w.heap.size+1+1,0,none⟩)]) (by simp) (by simp [go_sem]) ?_
    refine (catch_thrownX (w.heap.size+1) (w.heap.size+1+1) _ _ 1 [] _ (by omega) ⟨_,_,_,rfl⟩ a0 af0 b0' bf0).mono ?_
    rintro e u' w'' ⟨rfl,rfl,rfl⟩
    simp [Leaves,settle,results,Tryz.results15,go_sem,a0,b0']
    exact EnP.no HR.out rfl (((HBW.out.setCell (by simp) _).setCell (by simp <;> omega) _).drew)
  | true =>
    obtain ⟨W3,hW3⟩:∃ x,w1.alloc (.cells #[.slice none 0 0] 64)=x:=⟨_,rfl⟩
    have hb3:Below w1.heap.size w1 W3:=by rw [← hW3];exact (Below.refl _ _).alloc (Nat.le_refl _) _
    have q3:W3.heap[w1.heap.size]? = some (.cells #[.slice none 0 0] 64):=by rw [← hW3];exact heap_alloc_new w1 _
    have KV2:=Lib.hid (KV.out w1 HB1.out (by first | rfl | trivial) [] W3 ⟨_,q3,World.ownsRow_nil _ _ _ _⟩ (by simp) hb3)
    have HW3:=Lib.hid hW3
    have HB3:=Lib.hid hb3
    clear a0 af0 b0' bf0
    have hlt2:w.heap.size<w1.heap.size:=by omega
    clear hb3 hW3 q3 KV
    go_wp2_with fail
    rw [HW3.out]
    refine KV2.out.mono ?_
    intro r w4 hp4
    unfold EncB at hp4
    simp only [List.length_nil,Nat.zero_add,List.nil_append] at hp4
    rcases hp4 with ⟨e1,rfl,e2,e3⟩ | ⟨e1,rfl,e2⟩
    · have HR:=Lib.hid (HRY.out (by first | rfl | trivial) e1)
      have hb4:=HB3.out.trans e3.bel
      obtain ⟨v,hv,ho⟩:=e2
      obtain ⟨vad,vcap,rfl,t1,t2,t3,t4,t5⟩:=own_viewN ho
      have HO:=Lib.hid ho
      have v0:w4.cell? ⟨w1.heap.size,0,none⟩=some (.slice vad ej.length vcap):=(boxC hv 0 _ rfl).1
      have p1:=(hb4.block (w.heap.size+1) (by omega)).trans P1.out
      have p2:=(hb4.block (w.heap.size+1+1) (by omega)).trans P2.out
      have a0:w4.cell? ⟨w.heap.size+1,0,none⟩=some (.slice none 0 0):=(boxC p1 0 _ rfl).1
      have af0:=(boxC p1 0 _ rfl).2
      have b0':w4.cell? ⟨w.heap.size+1+1,0,none⟩=some (.int .i64 0):=(boxC p2 0 _ rfl).1
      have bf0:=(boxC p2 0 _ rfl).2
      have HB4:=Lib.hid (HBW.out.trans (hb4.mono HBW.out.size))
      have n1:¬ w.heap.size+1+1=w.heap.size+1:=by omega
      clear e1 e3 KV2 y0 y1 y2 y3 y4 y5 y6 y7 hb4 p1 p2 ho hv t1 t2 t3 t4 t5
      go_wp2
      refine leaves_cons (f:=37) (args:=#[.pointer (some ⟨w.heap.size+1,0,none⟩),.pointer (some ⟨w.heap.size+1+1,0,none⟩)]) (by simp) (by simp [go_sem]) ?_
      refine (catch_idleX _ _ _).mono ?_
      rintro e u' w'' ⟨rfl,rfl,rfl⟩
      simp [Leaves,settle,results,Tryz.results15,go_sem,a0,b0']
      exact EnP.yes HR.out rfl (own_monoB (own_set (own_set HO.out (by simp;omega) _) (by simp;omega) _) (by omega)) ((HB4.out.setCell (by simp) _).setCell (by simp <;> omega) _)
    · have HR:=Lib.hid (HR4.out (by first | rfl | trivial) e1)
      have hb4:=HB3.out.trans e2
      have p1:=(hb4.block (w.heap.size+1) (by omega)).trans P1.out
      have p2:=(hb4.block (w.heap.size+1+1) (by omega)).trans P2.out
      have a0:w4.cell? ⟨w.heap.size+1,0,none⟩=some (.slice none 0 0):=(boxC p1 0 _ rfl).1
      have af0:=(boxC p1 0 _ rfl).2
      have b0':w4.cell? ⟨w.heap.size+1+1,0,none⟩=some (.int .i64 0):=(boxC p2 0 _ rfl).1
      have bf0:=(boxC p2 0 _ rfl).2
      have HB4:=Lib.hid (HBW.out.trans (hb4.mono HBW.out.size))
      clear hb4 p1 p2 e1 e2 KV2 y0 y1 y2 y3 y4 y5 y6 y7
      go_wp2
      refine leaves_cons (f:=37) (args:=#[.pointer (some ⟨w.heap.size+1,0,none⟩),.pointer (some ⟨w.heap.size+1+1,0,none⟩)]) (by simp) (by simp [go_sem]) ?_
      refine (catch_thrownX (w.heap.size+1) (w.heap.size+1+1) _ _ 4 [] _ (by omega) ⟨_,_,_,rfl⟩ a0 af0 b0' bf0).mono ?_
      rintro e u' w'' ⟨rfl,rfl,rfl⟩
      simp [Leaves,settle,results,Tryz.results15,go_sem,a0,b0']
      exact EnP.no HR.out rfl (((HB4.out.setCell (by simp) _).setCell (by simp <;> omega) _).drew)
def awC:List Nat:=[161,97,97,249,62,0]
def awN:MT:=numT false none 1 0 (-1) [15]
def awT10:MT:=bobjC [⟨#[97]⟩] [awN]
theorem awC_mem:cbMembers (cbValue 64) false 1 302 [] [] [97,97,249,62,0] 1=.inl (([⟨#[97]⟩],[awN]),[],2):=by kernel_rfl
theorem awC_sort:sortC [⟨#[97]⟩]=[0]:=by
  unfold sortC srt
  show (List.range' 0 1).mergeSort _=[0]
  simp
theorem awC_val:cbValue 65 awC 0=.inl (awT10,[],2):=by
  unfold awC
  rw [cbV_on (h0:=(5,1,1)) (r2:=[97,97,249,62,0]) (by decide) (by decide) (by kernel_rfl)]
  unfold cbBehind
  rw [if_neg (by decide),if_neg (by decide),if_neg (by decide),if_pos (by decide)]
  have h:=awC_mem
  unfold cbObj
  rw [if_neg (by decide)]
  rw [show (decide (((5,1,1):HdC).2.1=31))=false from rfl,show ((5,1,1):HdC).2.2=1 from rfl,h]
  simp only
  rw [if_pos (by simp),awC_sort]
  rfl
theorem awC_dec:cbDecode awC=.inl awT10:=by
  unfold cbDecode
  rw [if_neg (by decide),awC_val]
  rfl
theorem awC_enc:encX awT10=awC:=by
  have h1:encX awN=[249,62,0]:=by kernel_rfl
  have h2:ordC [⟨#[97]⟩]=[0]:=by
    unfold ordC srt
    show (List.range' 0 1).mergeSort _=[0]
    simp
  rw [encX_eq]
  show objE [⟨#[97]⟩] ([awN].map encX)=awC
  rw [List.map_cons,List.map_nil,h1]
  unfold objE
  rw [h2]
  decide
theorem awC_check:checkB awT10=true:=by kernel_rfl
theorem soundB_bareC (t:MT):soundB t.bare=soundB t:=by
  rw [MT.bare_eq]
  obtain ⟨⟨k,b,neg,ma,mn,mc,e,s,ka,kn,kc,va,vn,vc⟩,m,ks,vs⟩:=t
  rfl
theorem encX_bare (t:MT):encX t.bare=encX t:=by
  refine MT.ind (P:=fun t=>encX t.bare=encX t) ?_ t
  intro t ih
  rw [encX_eq t.bare,encX_eq t,MT.bare_eq]
  obtain ⟨c,m,ks,vs⟩:=t
  simp only [MT.c,MT.m,MT.k,MT.v,Cel.bare] at ih ⊢
  have e:(vs.map MT.bare).map encX=vs.map encX:=by
    rw [List.map_map]
    exact List.map_congr_left ih
  rw [e,List.length_map]
  rfl
theorem pre_bareC (t:MT):∀ d,t.bare.pre d=(t.pre d).map fun x=>(x.1,x.2.bare):=by
  refine MT.ind (P:=fun t=>∀ d,t.bare.pre d=(t.pre d).map fun x=>(x.1,x.2.bare)) ?_ t
  intro t ih d
  rw [MT.bare_eq,MT.pre_eq,MT.pre_eq,List.map_cons,MT.bare_eq]
  congr 1
  have key:∀ l:List MT,(∀ u∈l,∀ d,u.bare.pre d=(u.pre d).map fun x=>(x.1,x.2.bare))→MT.preL (l.map MT.bare) (d+1)=(MT.preL l (d+1)).map fun x=>(x.1,x.2.bare):=by
    intro l
    induction l with
    | nil=>intro _;rw [List.map_nil,MT.preL_nil];rfl
    | cons u l ih2 =>
      intro h
      rw [List.map_cons,MT.preL_cons,MT.preL_cons,List.map_append,h u (by simp),ih2 (fun x hx=>h x (by simp [hx]))]
  exact key t.v ih
theorem nodes_bareC (t:MT):t.bare.nodes=t.nodes:=by
  rw [← t.bare.pre_len 0,← t.pre_len 0,pre_bareC,List.length_map]
theorem checkB_bareC (t:MT):checkB t.bare=checkB t:=by
  unfold checkB
  rw [nodes_bareC,pre_bareC,List.all_map]
  congr 1
  apply List.all_congr rfl
  intro x
  simp only [Function.comp,soundB_bareC]
theorem encoX_of {t u:MT} (h:t.bare=u):encoX t=encoX u:=by
  have h1:checkB t=checkB u:=by rw [← checkB_bareC t,h]
  have h2:encX t=encX u:=by rw [← encX_bare t,h]
  unfold encoX
  rw [h1,h2]
theorem encoX_yes {t:MT} (h:checkB t=true) (h3:(encX t).length≤32768):encoX t=.inl (encX t):=by unfold encoX;rw [if_neg (by rw [h];decide),if_pos h3]
theorem awC_encode {t:MT} (h:t.bare=awT10):encoX t=.inl awC:=by
  rw [encoX_of h,encoX_yes awC_check (by rw [awC_enc];decide),awC_enc]
theorem awC_cells {t:MT} {w:World} (h:t.bare=awT10) (hR:Rep w t):t.c.vn=1∧∃ b o,t.c.va=some ⟨b,o,none⟩∧w.cell? ⟨b,o+4,none⟩=some (.int .i64 (-1)):=by
  have own:=hR.own
  rw [MT.bare_eq] at h
  unfold awT10 bobjC objT at h
  injection h with h1 h2 h3 h4
  have hvn:t.c.vn=1:=by have:=congrArg Cel.vn h1;exact this
  obtain ⟨u,hu⟩:∃ u,t.v=[u]:=by
    match hv:t.v with
    | []=>rw [hv] at h4;cases h4
    | [u]=>exact ⟨u,rfl⟩
    | _::_::_=>rw [hv] at h4;simp at h4
  rw [hu,List.map_cons,List.map_nil] at h4
  have hub:u.bare=awN:=by injection h4
  have hr:=own.vr
  rw [hu,List.map_cons,List.map_nil] at hr
  obtain ⟨b,o,hva,hl⟩:=hr.shape (by rw [flat_len];simp)
  refine ⟨hvn,b,o,hva,?_⟩
  rw [hva] at hr
  have hxx:=flat_at hr 0 (by simp) (c:=u.c) rfl
  obtain ⟨_,_,_,_,x4,_⟩:=hxx
  rw [MT.bare_eq] at hub
  have he:u.c.e = -1:=by unfold awN numT at hub;injection hub with g1;have:=congrArg Cel.e g1;exact this
  rw [he] at x4
  simpa using x4
theorem rd_mark (w:World) (e:TypeId) (vs:List Value) (fz:Nat × Nat):RdV (w.alloc (.cells vs.toArray e fz)) (some ⟨w.heap.size,0,none⟩) vs:=by
  intro i hi
  refine ⟨w.heap.size,0,rfl,by simp,?_⟩
  rw [Nat.zero_add]
  show World.cell? _ _=_
  have:(w.alloc (.cells vs.toArray e fz)).heap[w.heap.size]? = some (.cells vs.toArray e fz):=heap_alloc_new w _
  simp only [World.cell?,this]
  simp
/-- The document's example. -/
theorem awake10_any (w:World) (hU:UT w) (hT:DB w):Calls Tryz.prog 14 #[] w (BoolBelow true w):=by
  have hba:Below w.heap.size w (w.alloc (.cells #[.int .u8 161,.int .u8 97,.int .u8 97,.int .u8 249,.int .u8 62,.int .u8 0] 5 (6,7))):=(Below.refl _ _).alloc (Nat.le_refl _) _
  have kc:=fun (w:World) (C:Array Value) (n c:Nat)=>Lib.run_convert_bytes_const (P:=Tryz.prog) w 22 5 C n c Tryz.underlying22 Tryz.underlying5
  have KD:=Lib.hid (decode_cb (some ⟨w.heap.size,0,none⟩) 6 6 awC _ (hU.below hba) rfl (Nat.le_refl _) (by unfold Okb awC;decide) (rd_mark w 5 [.int .u8 161,.int .u8 97,.int .u8 97,.int .u8 249,.int .u8 62,.int .u8 0] (6,7)) (.inr ⟨_,_,rfl⟩))
  rw [awC_dec] at KD
  have HU:=Lib.hid hU;have HT:=Lib.hid hT;have HBA:=Lib.hid hba
  clear hU hT hba
  unfold DecC at KD
  go_enter Tryz.func14,Tryz.ntmps14
  go_wp2_with fail
  refine KD.out.mono ?_
  rintro r w1 ⟨t,rfl,hbare,hR,hb⟩
  replace hb:=below_on HBA.out hb
  have KE:=Lib.hid (fun W (h:Below w1.heap.size w1 W)=>encode_cb t W (hR.on h) (HU.out.below (hb.trans (h.mono hb.size))) (HT.out.below (hb.trans (h.mono hb.size))))
  rw [awC_encode hbare] at KE
  unfold EnP at KE
  obtain ⟨hvn,vb,vo,hva,hce⟩:=awC_cells hbare hR
  have hvlt:=lt_of_cell hce
  have HB:=Lib.hid hb
  clear hb hR hbare KD
  generalize t.c=c at *
  obtain ⟨k,b0,neg,ma,mn,mc,e,s,ka,kn,kc,va,vn,vc⟩:=c
  unfold Cel.val at *
  simp only at hvn hva
  subst hvn hva
  have hb2:Below w1.heap.size w1 (w1.alloc (.cells #[.int .i64 k,.bool b0,.bool neg,.slice ma mn mc,.int .i64 e,.string s,.slice ka kn kc,.slice (some ⟨vb,vo,none⟩) 1 vc] 29)):=(Below.refl _ _).alloc (Nat.le_refl _) _
  have KE2:=Lib.hid (KE.out _ hb2)
  have HB2:=Lib.hid hb2
  have q2:=heap_alloc_new w1 (.cells #[.int .i64 k,.bool b0,.bool neg,.slice ma mn mc,.int .i64 e,.string s,.slice ka kn kc,.slice (some ⟨vb,vo,none⟩) 1 vc] 29)
  have Q2:=Lib.hid q2
  clear hb2 KE q2
  go_wp2_with fail
  refine KE2.out.mono ?_
  rintro r w3 ⟨v,rfl,ho,hb3⟩
  obtain ⟨ad3,cap3,rfl,hc3,hr3,_,_,h03⟩:=own_viewN ho
  have HCV:=Lib.hid (conv_bv w3 ad3 6 cap3 awC rfl hr3)
  rw [show strB awC=⟨#[161,97,97,249,62,0]⟩ from rfl] at HCV
  have x3:=(hb3.cell (p:=⟨vb,vo+4,none⟩) (by simp;omega)).trans ((HB2.out.cell (p:=⟨vb,vo+4,none⟩) hvlt).trans hce)
  have q3:=(hb3.block _ (by simp)).trans Q2.out
  have HB3:=Lib.hid (HB.out.trans ((HB2.out.trans (hb3.mono HB2.out.size)).mono HB.out.size))
  clear hb3 KE2 ho hr3 h03 hc3 hce
  have y7:=(boxC q3 7 _ rfl).1
  clear q3
  have el:awC.length=6:=rfl
  rw [el]
  go_wp2_with fail
  rw [HCV.out]
  simp only [Result.andThen]
  rw [Oper.upon_value]
  go_wp2_with fail
  go_ret
  exact BoolBelow.mk rfl HB3.out
theorem head_of (c s:Nat) (l:List Nat) (hs:sizeH (c % 32)=some s) (hl:s≤l.length):cbHead (c::l)=.inl ((c / 32,c % 32,if c % 32<24 then c % 32 else natB (l.take s)),l.drop s):=by
  have hg:=getN_in (c::l) 0 c (by simp) rfl
  rw [Int.natCast_zero,hs] at hg
  simp only at hg
  rw [if_neg (by simp only [List.length_cons];omega)] at hg
  unfold cbHead
  rw [hg]
  simp only [if_true]
  congr 2
  · rw [Nat.zero_add,Nat.add_comm,List.drop_succ_cons]
theorem head_plain (c:Nat) (r:List Nat) (hc:c % 32<24):cbHead (c::r)=.inl ((c / 32,c % 32,c % 32),r):=by
  rw [head_of c 0 r (by unfold sizeH;rw [if_pos (.inl hc)]) (Nat.zero_le _),if_pos hc,List.drop_zero]
end Go.Proofs.YtnacbakcalcgaaaGreatDoor
