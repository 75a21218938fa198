/- Texts of the claim. -/
import Derived.Test.YtijaphbccnadbaaGreatDoorUl
import Derived.Test.YtijaphbccnadbaaGreatDoorUB
import Derived.Test.YtijaphbccnadbaaGreatDoorUz
import Derived.Test.YtijaphbccnadbaaGreatDoorUf
import Derived.Test.YtijaphbccnadbaaGreatDoorUo
set_option linter.unusedVariables false
set_option linter.unusedSimpArgs false
set_option maxHeartbeats 8000000
set_option maxRecDepth 100000
namespace Go.Proofs.YtijaphbccnadbaaGreatDoor
open Go.Shelf Go.RowKit
theorem own_belowF {w w':World} {B:Nat} {e:TypeId} {size:Nat} {v:Value} {n:Nat} {xs:List Value} (h:w.ownsRowF B e size v n xs) (hb:Below w.heap.size w w'):w'.ownsRowF B e size v n xs:=by
  refine ⟨h.1,?_⟩
  rcases h.2 with h2 | ⟨g,cap,cur,fz,rfl,hB,hg,rest⟩
  · exact .inl h2
  · exact .inr ⟨g,cap,cur,fz,rfl,hB,by rw [hb.block g (Array.getElem?_eq_some_iff.1 hg).1];exact hg,rest⟩
theorem WrJ.on {B b:Nat} {l:List UInt8} {w w':World} (h:WrJ B b l w) (hb:Below w.heap.size w w'):WrJ B b l w':=by
  unfold WrJ Lib.IsBuilderF at *
  refine h.imp ?_ ?_
  all_goals
    rintro ⟨h1,v,h2,h3,h4⟩
    exact ⟨h1,v,by rw [hb.block b (Array.getElem?_eq_some_iff.1 h2).1];exact h2,own_belowF h3 hb,h4⟩
structure FrW (B b:Nat) (w w':World):Prop where
  bel:Below B w w'
  kep:KepW b w w'
theorem FrW.refl (B b:Nat) (w:World):FrW B b w w:=⟨Below.refl _ _,Lib.OthersKept.refl _ _ _⟩
theorem FrW.trans {B b:Nat} {w1 w2 w3:World} (h:FrW B b w1 w2) (k:FrW B b w2 w3):FrW B b w1 w3:=⟨h.bel.trans k.bel,h.kep.trans k.kep⟩
theorem FrW.of_below {B b:Nat} {w w':World} (hB:B≤w.heap.size) (h:Below w.heap.size w w'):FrW B b w w' :=
  ⟨h.mono hB,fun k o hk _ _=>by rw [h.block k (Array.getElem?_eq_some_iff.1 hk).1];exact hk⟩
theorem FrW.size {B b:Nat} {w w':World} (h:FrW B b w w'):w.heap.size≤w'.heap.size:=h.bel.size
theorem tree_ne_u8:(28:TypeId) ≠ 5:=by decide
theorem FrW.box {B b:Nat} {w w':World} (h:FrW B b w w') {k:Nat} {cs:Array Value} (hk:w.heap[k]? = some (.cells cs 28)) (hne:k ≠ b):w'.heap[k]? = some (.cells cs 28) :=
  h.kep k _ hk (fun e=>hne (Option.some.inj e)) (fun c fz e=>by injection e with _ e2;exact tree_ne_u8 e2)
def EncW (B b:Nat) (l p:List UInt8) (w:World) (e:Ending) (w':World):Prop :=
  (l.length+p.length≤32768∧e=.returned (.tuple #[])∧WrJ B b (l++p) w'∧FrW B b w w') ∨
  (32768<l.length+p.length∧e=.panicked [{ v:=.iface 31 (.int .i64 4),recovered:=false }]∧Below B w w')
theorem EncW.pre {B b:Nat} {l p:List UInt8} {w w1 w':World} {e:Ending} (hf:FrW B b w w1) (h:EncW B b l p w1 e w'):EncW B b l p w e w' :=
  h.imp (fun ⟨h1,h2,h3,h4⟩=>⟨h1,h2,h3,hf.trans h4⟩) (fun ⟨h1,h2,h3⟩=>⟨h1,h2,hf.bel.trans h3⟩)
theorem putw_any (B b:Nat) (l:List UInt8) (s:ByteArray) (w:World) (h:WrJ B b l w) (hl:l.length≤32768) (hs:s.size≤1000000) (hB:B≤w.heap.size) :
    Calls Tryz.prog 59 #[.pointer (some ⟨b,0,none⟩),.string s] w (EncW B b l s.data.toList w):=by
  have KL:=Lib.hid (lenW B b _ w h)
  rw [Lib.byteCells_length] at KL
  have hsz:s.data.toList.length=s.size:=by rw [Array.length_toList];rfl
  by_cases hc:l.length+s.size≤32768
  · have KW:=Lib.hid (writeStringW B b _ s w h (by rw [Lib.byteCells_length];omega) hB)
    have hgt:decide ((32768:Int)<(l.length:Int)+(s.size:Int))=false:=decide_eq_false (by omega)
    have HOK:=Lib.hid (fun W (h1:Lib.BuilderAtF 64 5 B b (.pointer (some ⟨b,0,none⟩)) (Lib.byteCells l++Lib.strCells s) W) (h2:Below B w W) (h3:KepW b w W)=>(show EncW B b l s.data.toList w (.returned (.tuple #[])) W from
      .inl ⟨by rw [hsz];exact hc,rfl,.inr (by rw [Lib.strCells_eq] at h1;rw [Lib.byteCells_append];exact h1),h2,h3⟩))
    clear h hc hsz
    go_enter Tryz.func59,Tryz.ntmps59
    go_wp2_with fail
    refine KL.out.mono ?_
    rintro r w1 ⟨rfl,rfl⟩
    go_wp2_with fail
    refine KW.out.mono ?_
    rintro r w1 ⟨rfl,h1,h2,h3⟩
    have HZ:=Lib.hid (HOK.out w1 h1 h2 h3)
    clear h1 h2 h3 KW
    go_wp2
    go_end0
    exact HZ.out
  · have hgt:decide ((32768:Int)<(l.length:Int)+(s.size:Int))=true:=decide_eq_true (by omega)
    have HZ:=Lib.hid (show EncW B b l s.data.toList w (.panicked [{ v:=.iface 31 (.int .i64 4),recovered:=false }]) w from .inr ⟨by rw [hsz];omega,rfl,Below.refl _ _⟩)
    clear h hc hsz
    go_enter Tryz.func59,Tryz.ntmps59
    go_wp2_with fail
    refine KL.out.mono ?_
    rintro r w1 ⟨rfl,rfl⟩
    go_wp2
    exact ⟨rfl,HZ.out⟩
def cmaL (i:Nat):List UInt8:=if 0<i then [44] else []
theorem comma_any (B b i:Nat) (l:List UInt8) (w:World) (h:WrJ B b l w) (hl:l.length≤32768) (hi:i≤1000000) (hB:B≤w.heap.size) :
    Calls Tryz.prog 104 #[.pointer (some ⟨b,0,none⟩),.int .i64 (i:Int)] w (EncW B b l (cmaL i) w):=by
  by_cases hc:0<i
  · have KP:=Lib.hid (putw_any B b l ⟨#[44]⟩ w h hl (by decide) hB)
    have e:cmaL i=[44]:=if_pos hc
    rw [e]
    have hgt:decide ((0:Int)<(i:Int))=true:=decide_eq_true (by omega)
    clear h e
    go_enter Tryz.func104,Tryz.ntmps104
    go_wp2_with fail
    refine KP.out.mono ?_
    intro r w1 hp
    rcases hp with ⟨h1,rfl,h2⟩ | ⟨h1,rfl,h2⟩
    · have HZ:=Lib.hid (show EncW B b l [44] w (.returned (.tuple #[])) w1 from .inl ⟨h1,rfl,h2⟩)
      clear h1 h2
      go_wp2
      go_end0
      exact HZ.out
    · have HZ:=Lib.hid (show EncW B b l [44] w (.panicked [{ v:=.iface 31 (.int .i64 4),recovered:=false }]) w1 from .inr ⟨h1,rfl,h2⟩)
      clear h1 h2
      go_wp2
      exact ⟨rfl,HZ.out⟩
  · have e:cmaL i=[]:=if_neg hc
    rw [e]
    have hgt:decide ((0:Int)<(i:Int))=false:=decide_eq_false (by omega)
    have HZ:=Lib.hid (show EncW B b l [] w (.returned (.tuple #[])) w from .inl ⟨by simpa using hl,rfl,by simpa using h,FrW.refl _ _ _⟩)
    clear h e
    go_enter Tryz.func104,Tryz.ntmps104
    go_wp2
    go_end0
    exact HZ.out
theorem fmtBool_any (x:Bool) (w:World):Calls Tryz.prog 60 #[.bool x] w fun e w'=>e=.returned (.string (if x then ⟨#[116,114,117,101]⟩ else ⟨#[102,97,108,115,101]⟩))∧w'=w:=by
  have K:Calls Tryz.prog 96 #[.bool x] w fun e w'=>e=.returned (.string (if x then ⟨#[116,114,117,101]⟩ else ⟨#[102,97,108,115,101]⟩))∧w'=w:=by
    cases x
    iterate 2
      · go_enter Tryz.func96,Tryz.ntmps96
        go_wp2
        go_ret
        exact ⟨rfl,rfl⟩
  have K:=Lib.hid K
  generalize (if x then (⟨#[116,114,117,101]⟩:ByteArray) else ⟨#[102,97,108,115,101]⟩)=s at *
  go_enter Tryz.func60,Tryz.ntmps60
  go_wp2_with fail
  refine K.out.mono ?_
  rintro r w1 ⟨rfl,rfl⟩
  go_wp2
  go_ret
  exact ⟨rfl,rfl⟩
end Go.Proofs.YtijaphbccnadbaaGreatDoor
namespace Go.Proofs.YtijaphbccnadbaaGreatDoor
open Go.RowKit Go.Sort
open Go.RowKit Go.Sort
theorem numText_ok {w:World} {neg:Bool} {ad:Option Addr} {n cap:Nat} {xs:List Nat} {e:Int} (h:NumOk w neg ad n cap xs e) (ht:TB w) :
    Calls Tryz.prog 61 #[.agg #[.bool neg,.slice ad n cap,.int .i64 e]] w (TxtBelow (numTxt neg (val xs) e) w) :=
  numText_core _ neg ad n cap xs e w h ht neg _ e rfl (fun W hb=>h.same W hb)
structure Bx (w:World) (g:Nat) (neg:Bool) (v:Value) (e:Int):Prop where
  lt:g<w.heap.size
  c0:w.cell? ⟨g,0,none⟩=some (.bool neg)
  c1:w.cell? ⟨g,1,none⟩=some v
  c2:w.cell? ⟨g,2,none⟩=some (.int .i64 e)
theorem Bx.step {w w':World} {g:Nat} {neg:Bool} {v:Value} {e:Int} (h:Bx w g neg v e) (hb:Below w.heap.size w w'):Bx w' g neg v e :=
  ⟨Nat.lt_of_lt_of_le h.lt hb.size,(hb.cell (p:=⟨g,0,none⟩) h.lt).trans h.c0,(hb.cell (p:=⟨g,1,none⟩) h.lt).trans h.c1,(hb.cell (p:=⟨g,2,none⟩) h.lt).trans h.c2⟩
theorem bx_new (w:World) (neg:Bool) (v:Value) (e:Int):Bx (w.alloc (.cells #[.bool neg,v,.int .i64 e] 24)) w.heap.size neg v e:=⟨by simp,by simp,by simp,by simp⟩
theorem Ctx.on {w0 w w':World} {l l':List Ent} (hc:Ctx w w' l') (h:Ctx w0 w l):Ctx w0 w' l':=⟨below_on h.below hc.below,hc.all⟩
theorem below_box (w:World) (a:Array Value) (t:TypeId):Below w.heap.size w (w.alloc (.cells a t)):=(Below.refl _ _).alloc (Nat.le_refl _) _
theorem Ctx.lits {w0 w:World} {l:List Ent} (h:Ctx w0 w l) {xs:List Nat} (hx:Okl xs) {N:Nat} (hN:val xs=N) :
    Ctx w0 (w.alloc (.cells (xs.map lv).toArray 130)) (⟨.slice (some ⟨w.heap.size,0,none⟩) xs.length xs.length,xs.length,N,xs⟩::l) :=
  (h.step ((Below.refl _ _).alloc (Nat.le_refl _) _)).push ⟨_,_,rfl,Nat.le_refl _,Nat.le_refl _,hx,(alloc_blk w xs).rd_all,hN⟩
theorem Ctx.lits2 {w0 w:World} {o:Obj} {l:List Ent} (h:Ctx w0 (w.alloc o) l) {xs:List Nat} (hx:Okl xs) {N:Nat} (hN:val xs=N) (n:Nat) (hn:xs.length=n) (cs:Array Value) (hcs:cs=(xs.map lv).toArray) :
    Ctx w0 ((w.alloc o).alloc (.cells cs 130)) (⟨.slice (some ⟨w.heap.size+1,0,none⟩) n n,n,N,xs⟩::l):=by
  have h2:=h.lits hx hN
  rw [show (w.alloc o).heap.size=w.heap.size+1 by simp] at h2
  subst hn hcs
  exact h2
end Go.Proofs.YtijaphbccnadbaaGreatDoor
namespace Go.Proofs.YtijaphbccnadbaaGreatDoor
open Go.Shelf Go.RowKit
def joinC:List (List UInt8)→List UInt8
  | []=>[]
  | p::ps=>p++(ps.map (44 :: ·)).flatten
theorem joinC_snoc (ps:List (List UInt8)) (p:List UInt8):joinC (ps++[p])=joinC ps++(cmaL ps.length++p):=by
  cases ps with
  | nil=>simp [joinC,cmaL]
  | cons q qs=>simp [joinC,cmaL]
theorem joinC_take (ps:List (List UInt8)) (j:Nat) (h:j<ps.length):joinC (ps.take (j+1))=joinC (ps.take j)++(cmaL j++ps.getD j []):=by
  rw [List.take_succ_eq_append_getElem h,joinC_snoc,List.length_take,Nat.min_eq_left (by omega)]
  simp [List.getD,h]
theorem joinC_le (ps:List (List UInt8)):∀ k j,j+k=ps.length→(joinC (ps.take j)).length≤(joinC ps).length:=by
  intro k
  induction k with
  | zero=>intro j h;rw [List.take_of_length_le (by omega)];exact Nat.le_refl _
  | succ k ih =>
    intro j h
    have h1:=ih (j+1) (by omega)
    rw [joinC_take ps j (by omega)] at h1
    simp only [List.length_append] at h1
    omega
def mbrB (k:ByteArray) (p:List UInt8):List UInt8:=quoteL k.data.toList++58::p
def numB (neg:Bool) (m:Nat) (e:Int):List UInt8:=(numTxt neg m e).map UInt8.ofNat
def nullB:List UInt8:=[110,117,108,108]
def truthB (b:Bool):List UInt8:=if b then [116,114,117,101] else [102,97,108,115,101]
def arrB (ps:List (List UInt8)):List UInt8:=91::(joinC ps++[93])
def objB (ks:List ByteArray) (ps:List (List UInt8)):List UInt8:=123::(joinC (List.zipWith mbrB ks ps)++[125])
mutual
/-- A value as JSON. -/
def encJ:MT→List UInt8
  | .mk c m k v=>if c.k=1 then nullB else if c.k=2 then truthB c.b else if c.k=3 then numB c.neg (val m) c.e else if c.k=4 then quoteL c.s.data.toList
      else if c.k=6 then arrB (encJL v) else if c.k=7 then objB k (encJL v) else []
def encJL:List MT→List (List UInt8) | []=>[] | t::l=>encJ t::encJL l
end
theorem encJL_map (l:List MT):encJL l=l.map encJ:=by
  induction l with
  | nil=>rw [encJL];rfl
  | cons t l ih=>rw [encJL,ih];rfl
theorem encJ_eq (t:MT):encJ t=if t.c.k=1 then nullB else if t.c.k=2 then truthB t.c.b else if t.c.k=3 then numB t.c.neg (val t.m) t.c.e else if t.c.k=4 then quoteL t.c.s.data.toList
      else if t.c.k=6 then arrB (t.v.map encJ) else if t.c.k=7 then objB t.k (t.v.map encJ) else []:=by
  obtain ⟨c,m,k,v⟩:=t
  rw [encJ,encJL_map];rfl
def EncC (B b:Nat) (w0:World) (t:MT):Prop:=∀ l W,WrJ B b l W→l.length≤32768→Below B w0 W→b<W.heap.size→Calls Tryz.prog 33 #[.pointer (some ⟨b,0,none⟩),t.c.val] W (EncW B b l (encJ t) W)
def ArW (B b:Nat) (l:List UInt8) (ps:List (List UInt8)) (n:Nat) (w0 W:World) (g:Nat) (i:Value) (wr:World):Prop :=
  ∃ j,i=.int .i64 ((j:Nat):Int)∧j≤n∧n - j≤g∧WrJ B b (l++91::joinC (ps.take j)) wr∧(l++91::joinC (ps.take j)).length≤32768∧FrW B b W wr
theorem EncW.bad {B b:Nat} {l p l2 p2:List UInt8} {w w2:World} (h:32768<l2.length+p2.length) (hle:l2.length+p2.length≤l.length+p.length) (hb:Below B w w2):EncW B b l p w (.panicked [{ v:=.iface 31 (.int .i64 4),recovered:=false }]) w2 :=
  .inr ⟨by omega,rfl,hb⟩
theorem arrw_any (B b:Nat) (w0:World) (hBb:B≤b) (h0:w0.heap.size=B) (us:List MT) (va:Option Addr) (n cap:Nat) (hn:us.length=n) (hm:n≤300) (hr:RdV w0 va (flat (us.map MT.c))) (hV:∀ u∈us,EncC B b w0 u)
    (l:List UInt8) (W:World) (h:WrJ B b l W) (hl:l.length≤32768) (hw:Below B w0 W) (hbw:b<W.heap.size) :
    Calls Tryz.prog 63 #[.pointer (some ⟨b,0,none⟩),.slice va n cap] W (EncW B b l (arrB (us.map encJ)) W):=by
  have hBW:B≤W.heap.size:=by omega
  have KP:=Lib.hid (putw_any B b l ⟨#[91]⟩ W h hl (by decide) hBW)
  have HLEN:=Lib.hid (joinC_le (us.map encJ))
  have HTAKE:=Lib.hid (joinC_take (us.map encJ))
  have HV:=Lib.hid (fun j (hj:j<us.length)=>hV (us.getD j (leafT 0 false ⟨#[]⟩)) (by simp [List.getD,hj]))
  have HPS:=Lib.hid (fun j (hj:j<us.length)=>(show (us.map encJ).getD j []=encJ (us.getD j (leafT 0 false ⟨#[]⟩)) by simp [List.getD,hj]))
  have HPL:=Lib.hid (show (us.map encJ).length=n by rw [List.length_map,hn])
  have HRD:=Lib.hid (fun W' (hw':Below B w0 W')=>hr.on (by rw [h0];exact hw':Below w0.heap.size w0 W'))
  have HN:=Lib.hid hn
  have HW:=Lib.hid hw
  unfold arrB
  clear hr hV h hw hn
  generalize us.map encJ=ps at *
  go_enter Tryz.func63,Tryz.ntmps63
  go_wp2_with fail
  refine KP.out.mono ?_
  intro r w1 hp
  rcases hp with ⟨h1,rfl,h2,h3⟩ | ⟨h1,rfl,h2⟩
  · have HST:=Lib.hid (show ArW B b l ps n w0 W n (.int .i64 ((0:Nat):Int)) w1 from ⟨0,rfl,Nat.zero_le _,by omega,by simpa [joinC] using h2,by simpa [joinC] using h1,h3⟩)
    clear h1 h2 h3 KP
    go_wp2
    go_loopg [10] n (fun g i wr=>ArW B b l ps n w0 W g i wr)
    case atStart=>exact HST.out
    case round =>
      clear HST
      obtain ⟨j,rfl,hjn,hgj,hwr,hlen,hfr⟩:=hrel
      have HWR:=Lib.hid hwr;have HFR:=Lib.hid hfr;have HLJ:=Lib.hid hlen
      clear hwr hfr hlen
      by_cases hlt:j<n
      · obtain ⟨g,rfl⟩:∃ g,gk=g+1:=⟨gk - 1,by omega⟩
        have hltz:(j:Int)<(n:Int):=by omega
        have hju:j<us.length:=by have:=HN.out;omega
        have hj6:(j:Int)≤300:=by omega
        have hrd:=HRD.out wr (HW.out.trans HFR.out.bel)
        obtain ⟨xbk,xo,rfl,hxl⟩:=hrd.shape (by rw [flat_len,List.length_map];omega)
        have hxx:=flat_at hrd j (by rw [List.length_map];omega) (c:=(us.getD j (leafT 0 false ⟨#[]⟩)).c) (getD_mapc hju _)
        have KV:=Lib.hid (HV.out j hju)
        have HPJ:=Lib.hid (HPS.out j hju)
        unfold EncC at KV
        generalize encJ (us.getD j (leafT 0 false ⟨#[]⟩))=pj at *
        generalize (us.getD j (leafT 0 false ⟨#[]⟩)).c=cx at KV hxx
        obtain ⟨xk,xb,xneg,xma,xmn,xmc,xe,xs,xka,xkn,xkc,xva,xvn,xvc⟩:=cx
        unfold Cel.val at KV
        obtain ⟨x0,x1,x2,x3,x4,x5,x6,x7⟩:=hxx
        try simp only at x0 x1 x2 x3 x4 x5 x6 x7
        obtain ⟨W3,hW3⟩:∃ x,wr.alloc (.cells #[.int .i64 xk,.bool xb,.bool xneg,.slice xma xmn xmc,.int .i64 xe,.string xs,.slice xka xkn xkc,.slice xva xvn xvc] 28)=x:=⟨_,rfl⟩
        have hb3:Below wr.heap.size wr W3:=by rw [← hW3];exact (Below.refl _ _).alloc (Nat.le_refl _) _
        have q3:W3.heap[wr.heap.size]? = some (.cells #[.int .i64 xk,.bool xb,.bool xneg,.slice xma xmn xmc,.int .i64 xe,.string xs,.slice xka xkn xkc,.slice xva xvn xvc] 28):=by rw [← hW3];exact heap_alloc_new wr _
        have hbr:b<wr.heap.size:=Nat.lt_of_lt_of_le hbw HFR.out.size
        have hf3:FrW B b W W3:=HFR.out.trans (FrW.of_below (by omega) hb3)
        have hs3:=hb3.size
        have KC:=Lib.hid (comma_any B b j _ W3 (HWR.out.on hb3) HLJ.out (by omega) (by omega))
        have HF3:=Lib.hid hf3;have HQ3:=Lib.hid q3;have HW3:=Lib.hid hW3
        clear hrd hb3 q3 hf3 hW3
        go_wp2_with fail
        rw [HW3.out]
        go_wp2_with fail
        refine KC.out.mono ?_
        intro r w4 hp4
        rcases hp4 with ⟨e1,rfl,e2,e3⟩ | ⟨e1,rfl,e2⟩
        · have q4:=e3.box HQ3.out (by omega)
          have KV2:=Lib.hid (KV.out _ w4 e2 (by rw [List.length_append];exact e1) (HW.out.trans (HF3.out.bel.trans e3.bel)) (by have:=e3.size;omega))
          have HF4:=Lib.hid (HF3.out.trans e3)
          have y0:=(box_cellsJ q4 0 _ rfl).1
          have y1:=(box_cellsJ q4 1 _ rfl).1
          have y2:=(box_cellsJ q4 2 _ rfl).1
          have y3:=(box_cellsJ q4 3 _ rfl).1
          have y4:=(box_cellsJ q4 4 _ rfl).1
          have y5:=(box_cellsJ q4 5 _ rfl).1
          have y6:=(box_cellsJ q4 6 _ rfl).1
          have y7:=(box_cellsJ q4 7 _ rfl).1
          clear q4 e1 e2 e3 KC KV
          go_wp2_with fail
          refine KV2.out.mono ?_
          intro r w5 hp5
          have HT:=Lib.hid (HTAKE.out j (by have:=HPL.out;omega))
          have hT:=HT.out
          rw [HPJ.out] at hT
          rcases hp5 with ⟨e1,rfl,e2,e3⟩ | ⟨e1,rfl,e2⟩
          · have HF:=Lib.hid (show ArW B b l ps n w0 W g (.int .i64 ((j:Int)+1)) w5 from ⟨j+1,by simp,by omega,by omega,by rw [hT];simpa using e2,by rw [hT];simp only [List.length_append,List.length_cons] at e1 ⊢;omega,HF4.out.trans e3⟩)
            clear e1 e2 e3 KV2 hT
            go_wp2
            go_roundg g
            case rel=>exact HF.out
            case measure=>omega
          · have hle:=HLEN.out (n - (j+1)) (j+1) (by have:=HPL.out;omega)
            rw [hT] at hle
            have HZ:=Lib.hid (EncW.bad (B:=B) (b:=b) (l:=l) (p:=91::(joinC ps++[93])) e1 (by simp only [List.length_append,List.length_cons] at hle ⊢;omega) (HF4.out.bel.trans e2))
            clear e1 e2 KV2 hT
            go_wp2
            exact ⟨rfl,HZ.out⟩
        · have HT:=Lib.hid (HTAKE.out j (by have:=HPL.out;omega))
          have hT:=HT.out
          rw [HPJ.out] at hT
          have hle:=HLEN.out (n - (j+1)) (j+1) (by have:=HPL.out;omega)
          rw [hT] at hle
          have HZ:=Lib.hid (EncW.bad (B:=B) (b:=b) (l:=l) (p:=91::(joinC ps++[93])) e1 (by simp only [List.length_append,List.length_cons] at hle ⊢;omega) (HF3.out.bel.trans e2))
          clear e1 e2 KC KV hT
          go_wp2
          exact ⟨rfl,HZ.out⟩
      · obtain rfl:j=n:=by omega
        have hjz:¬ (j:Int)<(j:Int):=by omega
        have hbr:b<wr.heap.size:=Nat.lt_of_lt_of_le hbw HFR.out.size
        have KP:=Lib.hid (putw_any B b _ ⟨#[93]⟩ wr HWR.out HLJ.out (by decide) (by omega))
        have hall:ps.take j=ps:=List.take_of_length_le (by have:=HPL.out;omega)
        go_wp2_with fail
        refine KP.out.mono ?_
        intro r w5 hp5
        rw [hall] at hp5
        rcases hp5 with ⟨e1,rfl,e2,e3⟩ | ⟨e1,rfl,e2⟩
        · have HZ:=Lib.hid (show EncW B b l (91::(joinC ps++[93])) W (.returned (.tuple #[])) w5 from .inl ⟨by simp only [List.length_append,List.length_cons] at e1 ⊢;simp at e1 ⊢;omega,rfl,by simpa using e2,HFR.out.trans e3⟩)
          clear e1 e2 e3 KP
          go_wp2
          go_end0
          exact HZ.out
        · have HZ:=Lib.hid (EncW.bad (B:=B) (b:=b) (l:=l) (p:=91::(joinC ps++[93])) e1 (by simp only [List.length_append,List.length_cons];simp;omega) (HFR.out.bel.trans e2))
          clear e1 e2 KP
          go_wp2
          exact ⟨rfl,HZ.out⟩
  · have HZ:=Lib.hid (EncW.bad (B:=B) (b:=b) (l:=l) (p:=91::(joinC ps++[93])) h1 (by simp) h2)
    clear h1 h2 KP
    go_wp2
    exact ⟨rfl,HZ.out⟩
end Go.Proofs.YtijaphbccnadbaaGreatDoor
