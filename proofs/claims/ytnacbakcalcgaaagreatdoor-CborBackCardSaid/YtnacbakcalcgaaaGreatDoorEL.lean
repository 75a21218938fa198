/- Texts of the claim. -/
import Derived.Test.YtnacbakcalcgaaaGreatDoorEK
import Derived.Test.YtnacbakcalcgaaaGreatDoorEy
import Derived.Test.YtnacbakcalcgaaaGreatDoorEp
import Derived.Test.YtnacbakcalcgaaaGreatDoorEF
set_option linter.unusedVariables false
set_option linter.unusedSimpArgs false
set_option maxHeartbeats 8000000
set_option maxRecDepth 100000
namespace Go.Proofs.YtnacbakcalcgaaaGreatDoor
open Go.RowKit Go.Lib Go.Sort
theorem cat_take (ps:List (List Nat)) (j:Nat) (h:j<ps.length):(ps.take (j+1)).flatten=(ps.take j).flatten++ps.getD j []:=by
  rw [List.take_succ_eq_append_getElem h,List.flatten_append]
  simp [List.getD,h]
theorem cat_le (ps:List (List Nat)):∀ k j,j+k=ps.length→(ps.take j).flatten.length≤ps.flatten.length:=by
  intro k
  induction k with
  | zero=>intro j h;rw [List.take_of_length_le (by omega)];exact Nat.le_refl _
  | succ k ih =>
    intro j h
    have h1:=ih (j+1) (by omega)
    rw [cat_take ps j (by omega)] at h1
    simp only [List.length_append] at h1
    omega
def arrE (n:Nat) (ps:List (List Nat)):List Nat:=hd 4 n++ps.flatten
def ordC (ks:List ByteArray):List Nat:=srt shortL (keyB ks) 0 ks.length
def mbrE (ks:List ByteArray) (ps:List (List Nat)) (i:Nat):List Nat:=strC 3 (ks.getD i ByteArray.empty)++ps.getD i []
def objE (ks:List ByteArray) (ps:List (List Nat)):List Nat:=hd 5 ks.length++((ordC ks).map (mbrE ks ps)).flatten
mutual
/-- A value as CBOR. -/
def encX:MT→List Nat
  | .mk c m k v=>if c.k=1 then hd 7 22 else if c.k=2 then truthC c.b else if c.k=3 then numB c.neg (val m) c.e else if c.k=4 then strC 3 c.s else if c.k=5 then strC 2 c.s
      else if c.k=6 then arrE v.length (encXL v) else if c.k=7 then objE k (encXL v) else []
def encXL:List MT→List (List Nat) | []=>[] | t::l=>encX t::encXL l
end
theorem encXL_map (l:List MT):encXL l=l.map encX:=by
  induction l with
  | nil=>rw [encXL];rfl
  | cons t l ih=>rw [encXL,ih];rfl
theorem encX_eq (t:MT):encX t=if t.c.k=1 then hd 7 22 else if t.c.k=2 then truthC t.c.b else if t.c.k=3 then numB t.c.neg (val t.m) t.c.e else if t.c.k=4 then strC 3 t.c.s else if t.c.k=5 then strC 2 t.c.s
      else if t.c.k=6 then arrE t.v.length (t.v.map encX) else if t.c.k=7 then objE t.k (t.v.map encX) else []:=by
  obtain ⟨c,m,k,v⟩:=t
  rw [encX,encXL_map];rfl
def WrV (B b:Nat) (w0:World) (t:MT):Prop:=∀ l W,WrC B b l W→l.length≤32768→Below B w0 W→Calls Tryz.prog 39 #[.pointer (some ⟨b,0,none⟩),t.c.val] W (EncB B b l (encX t) W)
def ArC (B b:Nat) (l:List Nat) (ps:List (List Nat)) (n:Nat) (W:World) (g:Nat) (i:Value) (wr:World):Prop :=
  ∃ j,i=.int .i64 ((j:Nat):Int)∧j≤n∧n - j≤g∧WrC B b (l++(hd 4 n++(ps.take j).flatten)) wr∧(l++(hd 4 n++(ps.take j).flatten)).length≤32768∧FrC B b W wr
theorem boxC {W:World} {b:Nat} {c:Array Value} {t:TypeId} (h:W.heap[b]? = some (.cells c t)) (i:Nat) (v:Value) (hv:c[i]? = some v):W.cell? ⟨b,i,none⟩=some v∧W.frozen? ⟨b,i,none⟩=false:=by
  simp [World.cell?,World.frozen?,h,hv]
theorem arrc_any (B b:Nat) (w0:World) (hBb:B≤b) (h0:w0.heap.size=B) (us:List MT) (va:Option Addr) (n cap:Nat) (hn:us.length=n) (hm:n≤300) (hr:RdV w0 va (flat (us.map MT.c))) (hV:∀ u∈us,WrV B b w0 u)
    (l:List Nat) (W:World) (h:WrC B b l W) (hl:l.length≤32768) (hw:Below B w0 W) :
    Calls Tryz.prog 71 #[.pointer (some ⟨b,0,none⟩),.slice va n cap] W (EncB B b l (arrE n (us.map encX)) W):=by
  have hbw:=h.lt
  have KP:=Lib.hid (headc_any B b l 4 n W h hl (by omega) hBb)
  rw [show ((4:Int) % 8).toNat=4 from rfl] at KP
  have HLEN:=Lib.hid (cat_le (us.map encX))
  have HTAKE:=Lib.hid (cat_take (us.map encX))
  have HV:=Lib.hid (fun j (hj:j<us.length)=>hV (us.getD j (leafT 0 false ⟨#[]⟩)) (by simp [List.getD,hj]))
  have HPS:=Lib.hid (fun j (hj:j<us.length)=>(show (us.map encX).getD j []=encX (us.getD j (leafT 0 false ⟨#[]⟩)) by simp [List.getD,hj]))
  have HPL:=Lib.hid (show (us.map encX).length=n by rw [List.length_map,hn])
  have HRD:=Lib.hid (fun W' (hw':Below B w0 W')=>hr.on (by rw [h0];exact hw':Below w0.heap.size w0 W'))
  have HN:=Lib.hid hn
  have HW:=Lib.hid hw
  have HAE:Hid (arrE n (us.map encX)=hd 4 n++(us.map encX).flatten):=Lib.hid rfl
  generalize arrE n (us.map encX)=AE at *
  clear hr hV h hw hn
  generalize us.map encX=ps at *
  obtain ⟨H4,hH4⟩:∃ H4,hd 4 n=H4:=⟨_,rfl⟩
  have HH:=Lib.hid hH4
  rw [hH4] at KP HAE
  clear hH4
  go_enter Tryz.func71,Tryz.ntmps71
  go_wp2_with fail
  refine KP.out.mono ?_
  intro r w1 hp
  rcases hp with ⟨h1,rfl,h2,h3⟩ | ⟨h1,rfl,h2⟩
  · have HST:=Lib.hid (show ArC B b l ps n W n (.int .i64 ((0:Nat):Int)) w1 from ⟨0,rfl,Nat.zero_le _,by omega,by rw [HH.out];simpa using h2,by rw [HH.out];simpa using h1,h3⟩)
    clear h1 h2 h3 KP
    go_wp2
    go_loopg [12] n (fun g i wr=>ArC B b l ps n W g i wr)
    case atStart=>exact HST.out
    case round =>
      clear HST
      obtain ⟨j,rfl,hjn,hgj,hwr,hlen,hfr⟩:=hrel
      rw [HH.out] at hwr hlen
      have hBr:B≤wr.heap.size:=by have:=hwr.lt;omega
      have HWR:=Lib.hid hwr;have HFR:=Lib.hid hfr;have HLJ:=Lib.hid hlen
      have hbr:=hwr.lt
      clear hwr hfr hlen
      by_cases hlt:j<n
      · obtain ⟨g,rfl⟩:∃ g,gk=g+1:=⟨gk - 1,by omega⟩
        have hltz:(j:Int)<(n:Int):=by omega
        have hju:j<us.length:=by have:=HN.out;omega
        have hj6:(j:Int)≤300:=by omega
        have hrd:=HRD.out wr (HW.out.trans HFR.out.bel)
        obtain ⟨xbk,xo,rfl,hxl⟩:=hrd.shape (by rw [flat_len,List.length_map];omega)
        have hxx:=flat_at hrd j (by rw [List.length_map];omega) (c:=(us.getD j (leafT 0 false ⟨#[]⟩)).c) (getD_mapc hju _)
        have KV:=Lib.hid (HV.out j hju)
        have HPJ:=Lib.hid (HPS.out j hju)
        unfold WrV at KV
        generalize encX (us.getD j (leafT 0 false ⟨#[]⟩))=pj at *
        generalize (us.getD j (leafT 0 false ⟨#[]⟩)).c=cx at KV hxx
        obtain ⟨xk,xb,xneg,xma,xmn,xmc,xe,xs,xka,xkn,xkc,xva,xvn,xvc⟩:=cx
        unfold Cel.val at KV
        obtain ⟨x0,x1,x2,x3,x4,x5,x6,x7⟩:=hxx
        try simp only at x0 x1 x2 x3 x4 x5 x6 x7
        obtain ⟨W3,hW3⟩:∃ x,wr.alloc (.cells #[.int .i64 xk,.bool xb,.bool xneg,.slice xma xmn xmc,.int .i64 xe,.string xs,.slice xka xkn xkc,.slice xva xvn xvc] 29)=x:=⟨_,rfl⟩
        have hb3:Below wr.heap.size wr W3:=by rw [← hW3];exact (Below.refl _ _).alloc (Nat.le_refl _) _
        have q3:W3.heap[wr.heap.size]? = some (.cells #[.int .i64 xk,.bool xb,.bool xneg,.slice xma xmn xmc,.int .i64 xe,.string xs,.slice xka xkn xkc,.slice xva xvn xvc] 29):=by rw [← hW3];exact heap_alloc_new wr _
        have hf3:FrC B b W W3:=HFR.out.trans (FrC.of_below hBr hb3)
        have HF3:=Lib.hid hf3;have HW3:=Lib.hid hW3
        have KV2:=Lib.hid (KV.out _ W3 (HWR.out.on hb3) HLJ.out (HW.out.trans hf3.bel))
        have y0:=(boxC q3 0 _ rfl).1
        have y1:=(boxC q3 1 _ rfl).1
        have y2:=(boxC q3 2 _ rfl).1
        have y3:=(boxC q3 3 _ rfl).1
        have y4:=(boxC q3 4 _ rfl).1
        have y5:=(boxC q3 5 _ rfl).1
        have y6:=(boxC q3 6 _ rfl).1
        have y7:=(boxC q3 7 _ rfl).1
        have HT:=Lib.hid (HTAKE.out j (by have:=HPL.out;omega))
        have hT:=HT.out
        rw [HPJ.out] at hT
        have hle:=HLEN.out (n - (j+1)) (j+1) (by have:=HPL.out;omega)
        rw [hT] at hle
        have HTT:=Lib.hid hT;have HLE:=Lib.hid hle
        clear hrd hb3 q3 hf3 hW3 KV hT hle HT
        go_wp2_with fail
        rw [HW3.out]
        go_wp2_with fail
        refine KV2.out.mono ?_
        intro r w5 hp5
        rcases hp5 with ⟨e1,rfl,e2,e3⟩ | ⟨e1,rfl,e2⟩
        · have hT:=HTT.out
          have HF:=Lib.hid (show ArC B b l ps n W g (.int .i64 ((j:Int)+1)) w5 from ⟨j+1,by simp,by omega,by omega,by rw [HH.out,hT];simpa using e2,by rw [HH.out,hT];simp only [List.length_append,List.length_cons] at e1 ⊢;omega,HF3.out.trans e3⟩)
          clear e1 e2 e3 KV2 hT
          go_wp2
          go_roundg g
          case rel=>exact HF.out
          case measure=>omega
        · have HZ:=Lib.hid (EncB.bad (B:=B) (b:=b) (l:=l) (p:=AE) e1 (by have hle:=HLE.out;rw [HAE.out];simp only [List.length_append,List.length_cons] at hle ⊢;omega) (HF3.out.bel.trans e2))
          clear e1 e2 KV2
          go_wp2
          exact ⟨rfl,HZ.out⟩
      · obtain rfl:j=n:=by omega
        have hjz:¬ (j:Int)<(j:Int):=by omega
        have hall:ps.take j=ps:=List.take_of_length_le (by have:=HPL.out;omega)
        have hlen:=HLJ.out
        have hwr:=HWR.out
        rw [hall,← HAE.out] at hlen hwr
        have HZ:=Lib.hid (show EncB B b l AE W (.returned (.tuple #[])) wr from .inl ⟨by rw [List.length_append] at hlen;exact hlen,rfl,hwr,HFR.out⟩)
        clear hlen hwr hall
        go_wp2_with fail
        go_end0
        exact HZ.out
  · have HZ:=Lib.hid (EncB.bad (B:=B) (b:=b) (l:=l) (p:=AE) h1 (by rw [HAE.out];simp) h2)
    clear h1 h2 KP
    go_wp2
    exact ⟨rfl,HZ.out⟩
def ObC (B b:Nat) (l:List Nat) (qs:List (List Nat)) (n:Nat) (W:World) (g:Nat) (i:Value) (wr:World):Prop :=
  ∃ j,i=.int .i64 ((j:Nat):Int)∧j≤n∧n - j≤g∧WrC B b (l++(hd 5 n++(qs.take j).flatten)) wr∧(l++(hd 5 n++(qs.take j).flatten)).length≤32768∧FrC B b W wr
theorem ordC_len (ks:List ByteArray):(ordC ks).length=ks.length:=srt_len _ _ _ _
theorem ordC_lt (ks:List ByteArray) (j:Nat) (h:j<ks.length):(ordC ks).getD j 0<ks.length:=by
  have hj:j<(ordC ks).length:=by rw [ordC_len];exact h
  have:(ordC ks).getD j 0∈ordC ks:=by simp [List.getD,hj]
  have:=(srt_mem.1 this).2
  omega
theorem objc_any (B b:Nat) (w0:World) (hBb:B≤b) (h0:w0.heap.size=B) (ks:List ByteArray) (ka:Option Addr) (kc:Nat) (us:List MT) (va:Option Addr) (n cap:Nat) (hk:ks.length=n) (hkc:n≤kc) (hn:us.length=n) (hm:n≤300) (hz:∀ s∈ks,s.size≤2000) (hrk:RdV w0 ka (sv ks)) (hr:RdV w0 va (flat (us.map MT.c))) (hV:∀ u∈us,WrV B b w0 u)
    (l:List Nat) (W:World) (h:WrC B b l W) (hl:l.length≤32768) (hw:Below B w0 W) :
    Calls Tryz.prog 72 #[.pointer (some ⟨b,0,none⟩),.slice ka n kc,.slice va n cap] W (EncB B b l (objE ks (us.map encX)) W):=by
  have KP:=Lib.hid (headc_any B b l 5 n W h hl (by omega) hBb)
  rw [show ((5:Int) % 8).toNat=5 from rfl] at KP
  have HV:=Lib.hid (fun j (hj:j<us.length)=>hV (us.getD j (leafT 0 false ⟨#[]⟩)) (by simp [List.getD,hj]))
  have HPS:=Lib.hid (fun j (hj:j<n)=>(show ((ordC ks).map (mbrE ks (us.map encX))).getD j []=strC 3 (ks.getD ((ordC ks).getD j 0) ByteArray.empty)++encX (us.getD ((ordC ks).getD j 0) (leafT 0 false ⟨#[]⟩)) by
    have hj1:j<(ordC ks).length:=by rw [ordC_len,hk];exact hj
    have hj2:=ordC_lt ks j (by rw [hk];exact hj)
    have e1:((ordC ks).map (mbrE ks (us.map encX))).getD j []=mbrE ks (us.map encX) ((ordC ks).getD j 0):=by simp [List.getD,hj1]
    rw [e1]
    unfold mbrE
    congr 1
    have hj3:(ordC ks).getD j 0<us.length:=by omega
    generalize (ordC ks).getD j 0=z at *
    simp [List.getD,hj3]))
  have HPL:=Lib.hid (show ((ordC ks).map (mbrE ks (us.map encX))).length=n by rw [List.length_map,ordC_len,hk])
  have HLEN:=Lib.hid (cat_le ((ordC ks).map (mbrE ks (us.map encX))))
  have HTAKE:=Lib.hid (cat_take ((ordC ks).map (mbrE ks (us.map encX))))
  have HRD:=Lib.hid (fun W' (hw':Below B w0 W')=>hr.on (by rw [h0];exact hw':Below w0.heap.size w0 W'))
  have HRK:=Lib.hid (fun W' (hw':Below B w0 W')=>hrk.on (by rw [h0];exact hw':Below w0.heap.size w0 W'))
  have HOLT:=Lib.hid (fun j (hj:j<n)=>ordC_lt ks j (by rw [hk];exact hj))
  have HOL:=Lib.hid (ordC_len ks)
  have KO:=Lib.hid (fun W' (hw':Below B w0 W')=>cbor_any ka n kc ks W' hk hkc (by omega) (fun s hs=>by have:=hz s hs;omega) (hrk.on (by rw [h0];exact hw':Below w0.heap.size w0 W')))
  unfold SortPost at KO
  rw [show srt shortL (keyB ks) 0 n=ordC ks by unfold ordC;rw [hk]] at KO
  have HAE:Hid (objE ks (us.map encX)=hd 5 n++((ordC ks).map (mbrE ks (us.map encX))).flatten):=Lib.hid (by unfold objE;rw [hk])
  generalize objE ks (us.map encX)=AE at *
  have HN:=Lib.hid hn
  have HK:=Lib.hid hk
  have HZ0:=Lib.hid hz
  have HW:=Lib.hid hw
  have hBW:B≤W.heap.size:=by have:=h.lt;omega
  clear hr hV h hw hn hrk hk hz
  generalize (ordC ks).map (mbrE ks (us.map encX))=ps at *
  generalize ordC ks=os at *
  obtain ⟨H4,hH4⟩:∃ H4,hd 5 n=H4:=⟨_,rfl⟩
  have HH:=Lib.hid hH4
  rw [hH4] at KP HAE
  clear hH4
  go_enter Tryz.func72,Tryz.ntmps72
  go_wp2_with fail
  refine KP.out.mono ?_
  intro r w1 hp
  rcases hp with ⟨h1,rfl,h2,h3⟩ | ⟨h1,rfl,h2⟩
  · have KO1:=Lib.hid (KO.out w1 (HW.out.trans h3.bel))
    have HF1:=Lib.hid h3;have HW1:=Lib.hid h2;have HL1:=Lib.hid h1
    have hB1:B≤w1.heap.size:=by have:=h2.lt;omega
    clear h1 h2 h3 KP KO
    go_wp2_with fail
    refine KO1.out.mono ?_
    rintro r w2 ⟨go,rfl,hgo,hbo,hb2⟩
    have hlo:=hbo.lt
    have hgb:go ≠ b:=by have:=HW1.out.lt;omega
    have HF2:=Lib.hid (HF1.out.trans (FrC.of_below hB1 hb2))
    have HBO:=Lib.hid hbo
    have HST:=Lib.hid (show ObC B b l ps n w2 n (.int .i64 ((0:Nat):Int)) w2 from ⟨0,rfl,Nat.zero_le _,by omega,by rw [HH.out];simpa using HW1.out.on hb2,by rw [HH.out];have:=HL1.out;simpa using this,FrC.refl _ _ _⟩)
    clear hbo hb2 HW1 HL1
    go_wp2
    go_loopg [15] n (fun g i wr=>ObC B b l ps n w2 g i wr)
    case atStart=>exact HST.out
    case round =>
      clear HST
      obtain ⟨j,rfl,hjn,hgj,hwr,hlen,hfr⟩:=hrel
      rw [HH.out] at hwr hlen
      have hBr:B≤wr.heap.size:=by have:=hwr.lt;omega
      have HWR:=Lib.hid hwr;have HFR:=Lib.hid (HF2.out.trans hfr);have HLJ:=Lib.hid hlen
      have HF0:=Lib.hid hfr
      have hbr:=hwr.lt
      clear hwr hfr hlen
      by_cases hlt:j<n
      · obtain ⟨g,rfl⟩:∃ g,gk=g+1:=⟨gk - 1,by omega⟩
        have hltz:(j:Int)<(n:Int):=by omega
        have hj6:(j:Int)≤300:=by omega
        have hol:=HOLT.out j hlt
        have hoz:os.length=n:=by rw [HOL.out,HK.out]
        have hbo:=HF0.out.kep go _ _ _ HBO.out hgb (by decide)
        have HBR:=Lib.hid (show BlkV wr go 3 (os.map iv) from hbo)
        have o0:wr.cell? ⟨go,j,none⟩=some (.int .i64 ((os.getD j 0:Nat):Int)):=by
          rw [HBR.out.cell,List.getElem?_map,List.getElem?_eq_getElem (show j<os.length by omega)]
          simp [iv,List.getD,show j<os.length by omega]
        have HPJ:=Lib.hid (HPS.out j hlt)
        have HT:=Lib.hid (HTAKE.out j (by have:=HPL.out;omega))
        have hT:=HT.out
        rw [HPJ.out] at hT
        have hle:=HLEN.out (n - (j+1)) (j+1) (by have:=HPL.out;omega)
        rw [hT] at hle
        have HTT:=Lib.hid hT;have HLE:=Lib.hid hle
        clear hT hle HT HPJ hbo
        generalize os.getD j 0=at0 at *
        have hat:at0<n:=by have:=HK.out;omega
        have hju:at0<us.length:=by have:=HN.out;omega
        have hjk:at0<ks.length:=hol
        have hat6:(at0:Int)≤300:=by omega
        have hatz:(at0:Int)<(n:Int):=by omega
        have hrd0:=HRD.out wr (HW.out.trans HFR.out.bel)
        obtain ⟨xbk,xo,rfl,hxl⟩:=hrd0.shape (by rw [flat_len,List.length_map];omega)
        have hrk0:=HRK.out wr (HW.out.trans HFR.out.bel)
        obtain ⟨kb,ko,rfl,hkl⟩:=hrk0.shape (by rw [sv_len];omega)
        have k0:wr.cell? ⟨kb,ko+at0,none⟩=some (.string (ks.getD at0 ByteArray.empty)):=by
          obtain ⟨b',o',e',_,hc⟩:=hrk0 at0 (by rw [sv_len];exact hjk)
          cases e'
          rw [hc,sv_get _ _ hjk]
        have hksz:(ks.getD at0 ByteArray.empty).size≤2000:=HZ0.out _ (by simp [List.getD,hjk])
        have KT:=Lib.hid (textc_any B b _ 3 (ks.getD at0 ByteArray.empty) wr HWR.out HLJ.out (by omega) (by omega) hBb)
        have KV:=Lib.hid (HV.out at0 hju)
        unfold WrV at KV
        have HX:=Lib.hid (fun W' (hw':Below B w0 W')=>flat_at (HRD.out W' hw') at0 (by rw [List.length_map];omega) (c:=(us.getD at0 (leafT 0 false ⟨#[]⟩)).c) (getD_mapc hju _))
        clear hrd0 hrk0 hol hoz hxl hkl
        generalize encX (us.getD at0 (leafT 0 false ⟨#[]⟩))=pj at *
        generalize ks.getD at0 ByteArray.empty=kj at *
        generalize (us.getD at0 (leafT 0 false ⟨#[]⟩)).c=cx at KV HX
        obtain ⟨xk,xb,xneg,xma,xmn,xmc,xe,xs,xka,xkn,xkc,xva,xvn,xvc⟩:=cx
        unfold Cel.val at KV
        go_wp2_with fail
        refine KT.out.mono ?_
        intro r w4 hp4
        rcases hp4 with ⟨e1,rfl,e2,e3⟩ | ⟨e1,rfl,e2⟩
        · have HF4:=Lib.hid (HFR.out.trans e3)
          have HG4:=Lib.hid (HF0.out.trans e3)
          have hxx:=HX.out w4 (HW.out.trans HF4.out.bel)
          obtain ⟨x0,x1,x2,x3,x4,x5,x6,x7⟩:=hxx
          try simp only at x0 x1 x2 x3 x4 x5 x6 x7
          have KV2:=Lib.hid (KV.out _ w4 e2 (by rw [List.length_append];exact e1) (HW.out.trans HF4.out.bel))
          clear e1 e2 e3 KT KV HX
          go_wp2_with fail
          refine KV2.out.mono ?_
          intro r w5 hp5
          rcases hp5 with ⟨e1,rfl,e2,e3⟩ | ⟨e1,rfl,e2⟩
          · have hT:=HTT.out
            have HF:=Lib.hid (show ObC B b l ps n w2 g (.int .i64 ((j:Int)+1)) w5 from ⟨j+1,by simp,by omega,by omega,by rw [HH.out,hT];simpa using e2,by rw [HH.out,hT];simp only [List.length_append,List.length_cons] at e1 ⊢;omega,HG4.out.trans e3⟩)
            clear e1 e2 e3 KV2 hT
            go_wp2
            go_roundg g
            case rel=>exact HF.out
            case measure=>omega
          · have HZ:=Lib.hid (EncB.bad (B:=B) (b:=b) (l:=l) (p:=AE) e1 (by have hle:=HLE.out;rw [HAE.out];simp only [List.length_append,List.length_cons] at hle ⊢;omega) (HF4.out.bel.trans e2))
            clear e1 e2 KV2
            go_wp2
            exact ⟨rfl,HZ.out⟩
        · have HZ:=Lib.hid (EncB.bad (B:=B) (b:=b) (l:=l) (p:=AE) e1 (by have hle:=HLE.out;rw [HAE.out];simp only [List.length_append,List.length_cons] at hle ⊢;omega) (HFR.out.bel.trans e2))
          clear e1 e2 KT KV HX
          go_wp2
          exact ⟨rfl,HZ.out⟩
      · obtain rfl:j=n:=by omega
        have hjz:¬ (j:Int)<(j:Int):=by omega
        have hall:ps.take j=ps:=List.take_of_length_le (by have:=HPL.out;omega)
        have hlen:=HLJ.out
        have hwr:=HWR.out
        rw [hall,← HAE.out] at hlen hwr
        have HZ:=Lib.hid (show EncB B b l AE W (.returned (.tuple #[])) wr from .inl ⟨by rw [List.length_append] at hlen;exact hlen,rfl,hwr,HFR.out⟩)
        clear hlen hwr hall
        go_wp2_with fail
        go_end0
        exact HZ.out
  · have HZ:=Lib.hid (EncB.bad (B:=B) (b:=b) (l:=l) (p:=AE) h1 (by rw [HAE.out];simp) h2)
    clear h1 h2 KP
    go_wp2
    exact ⟨rfl,HZ.out⟩
theorem riseC_ok {l:List ByteArray} (h:risesB l=true):∀ s∈l,okN s=true:=by
  intro s hs
  obtain ⟨i,hi,rfl⟩:=List.getElem_of_mem hs
  have:=risesB_iff.1 h i hi
  unfold nameAt at this
  rw [Bool.and_eq_true] at this
  have e:l.getD i ByteArray.empty=l[i]:=by simp [List.getD,hi]
  rw [e] at this
  exact this.1
theorem riseC_size {l:List ByteArray} (h:risesB l=true):∀ s∈l,s.size≤2000:=by
  intro s hs
  have:=riseC_ok h s hs
  unfold okN at this
  rw [Bool.and_eq_true,decide_eq_true_eq] at this
  exact this.1
theorem fltB_len {d N:Nat} (h:d≤2):(fltB d N).length≤9:=by
  unfold fltB
  rw [List.length_cons,bytesL_len]
  have:d=0∨d=1∨d=2:=by omega
  rcases this with rfl | rfl | rfl <;> decide
theorem numB_len {ng:Bool} {xs:List Nat} {e:Int} (ho:Okl xs) (h:chkB ng xs e=true):(numB ng (val xs) e).length≤7000:=by
  have hb:=chkB_bounds h
  have h90:bitsN (val xs)≤2880:=Nat.le_trans (bits_words ho) (by omega)
  have hr:(restB ng (val xs) e).length≤7000:=by
    unfold restB
    cases hf:fltOf ng (val xs) e with
    | some p =>
      obtain ⟨d,y⟩:=p
      have:=fltB_len (N:=y) (shA_yes hf).2
      simp only
      omega
    | none =>
      simp only
      unfold decB
      have h1:=intB_len (decide (e<0)) (toldN (decide (e<0)) e.natAbs) (k:=32) (Nat.le_trans (bits_mono (told_le _ _)) (bits_small (by omega)))
      have h2:=intB_len ng (toldN ng (val xs)) (k:=2880) (Nat.le_trans (bits_mono (told_le _ _)) h90)
      have h3:=hd_len 6 4
      have h4:=hd_len 4 2
      simp only [List.length_append]
      omega
  unfold numB intAt
  split
  next M hM =>
    split at hM
    next hc =>
      cases hM
      split
      · have:=intB_len ng (toldN ng (val xs*tenN e.toNat)) (k:=400) (Nat.le_trans (bits_mono (told_le _ _)) hc.2)
        omega
      · exact hr
    next=>cases hM
  next=>exact hr
theorem valc_null (B b:Nat) (w0:World) (hBb:B≤b) (h0:w0.heap.size=B) (b0 neg:Bool) (ma:Option Addr) (mn mc:Nat) (e:Int) (s:ByteArray) (ka:Option Addr) (kn kc:Nat) (va:Option Addr) (vn vc:Nat)
    (l:List Nat) (W:World) (h:WrC B b l W) (hl:l.length≤32768) (hw:Below B w0 W) :
    Calls Tryz.prog 39 #[.pointer (some ⟨b,0,none⟩),.agg #[.int .i64 1,.bool b0,.bool neg,.slice ma mn mc,.int .i64 e,.string s,.slice ka kn kc,.slice va vn vc]] W (EncB B b l (hd 7 22) W):=by
  have hbw:=h.lt
  obtain ⟨W1,hW1⟩:∃ x,W.alloc (.cells #[.int .i64 1,.bool b0,.bool neg,.slice ma mn mc,.int .i64 e,.string s,.slice ka kn kc,.slice va vn vc] 29)=x:=⟨_,rfl⟩
  have hb1:Below W.heap.size W W1:=by rw [← hW1];exact (Below.refl _ _).alloc (Nat.le_refl _) _
  have q1:W1.heap[W.heap.size]? = some (.cells #[.int .i64 1,.bool b0,.bool neg,.slice ma mn mc,.int .i64 e,.string s,.slice ka kn kc,.slice va vn vc] 29):=by rw [← hW1];exact heap_alloc_new W _
  have hf1:FrC B b W W1:=FrC.of_below (by omega) hb1
  have hw1:=h.on hb1
  have hbe:Below B w0 W1:=hw.trans hf1.bel
  have hs1:=hb1.size
  have HW1:=Lib.hid hW1;have HF1:=Lib.hid hf1;have HBE:=Lib.hid hbe;have HWR:=Lib.hid hw1
  have KP:=Lib.hid (headc_any B b l 7 22 W1 hw1 hl (by omega) hBb)
  rw [show hd ((7:Int) % 8).toNat 22=hd 7 22 from rfl] at KP
  have y0:=(boxC q1 0 _ rfl).1
  have y1:=(boxC q1 1 _ rfl).1
  have y2:=(boxC q1 2 _ rfl).1
  have y3:=(boxC q1 3 _ rfl).1
  have y4:=(boxC q1 4 _ rfl).1
  have y5:=(boxC q1 5 _ rfl).1
  have y6:=(boxC q1 6 _ rfl).1
  have y7:=(boxC q1 7 _ rfl).1
  have hsB:B≤W1.heap.size:=by omega
  have HSB:=Lib.hid hsB
  clear hW1 hb1 hf1 hw1 hbe h hw q1 hsB
  go_enter Tryz.func39,Tryz.ntmps39
  go_wp2_with fail
  rw [HW1.out]
  go_wp2_with fail
  have HFX:=HF1
  refine KP.out.mono ?_
  intro r w5 hp5
  rcases hp5 with ⟨e1,rfl,e2,e3⟩ | ⟨e1,rfl,e2⟩
  · have HZ:=Lib.hid (EncB.pre HFX.out (.inl ⟨e1,rfl,e2,e3⟩))
    clear e1 e2 e3 KP
    go_wp2
    go_end0
    exact HZ.out
  · have HZ:=Lib.hid (EncB.pre HFX.out (.inr ⟨e1,rfl,e2⟩))
    clear e1 e2 KP
    go_wp2
    exact ⟨rfl,HZ.out⟩
theorem valc_truth (B b:Nat) (w0:World) (hBb:B≤b) (h0:w0.heap.size=B) (b0 neg:Bool) (ma:Option Addr) (mn mc:Nat) (e:Int) (s:ByteArray) (ka:Option Addr) (kn kc:Nat) (va:Option Addr) (vn vc:Nat)
    (l:List Nat) (W:World) (h:WrC B b l W) (hl:l.length≤32768) (hw:Below B w0 W) :
    Calls Tryz.prog 39 #[.pointer (some ⟨b,0,none⟩),.agg #[.int .i64 2,.bool b0,.bool neg,.slice ma mn mc,.int .i64 e,.string s,.slice ka kn kc,.slice va vn vc]] W (EncB B b l (truthC b0) W):=by
  have hbw:=h.lt
  obtain ⟨W1,hW1⟩:∃ x,W.alloc (.cells #[.int .i64 2,.bool b0,.bool neg,.slice ma mn mc,.int .i64 e,.string s,.slice ka kn kc,.slice va vn vc] 29)=x:=⟨_,rfl⟩
  have hb1:Below W.heap.size W W1:=by rw [← hW1];exact (Below.refl _ _).alloc (Nat.le_refl _) _
  have q1:W1.heap[W.heap.size]? = some (.cells #[.int .i64 2,.bool b0,.bool neg,.slice ma mn mc,.int .i64 e,.string s,.slice ka kn kc,.slice va vn vc] 29):=by rw [← hW1];exact heap_alloc_new W _
  have hf1:FrC B b W W1:=FrC.of_below (by omega) hb1
  have hw1:=h.on hb1
  have hbe:Below B w0 W1:=hw.trans hf1.bel
  have hs1:=hb1.size
  have HW1:=Lib.hid hW1;have HF1:=Lib.hid hf1;have HBE:=Lib.hid hbe;have HWR:=Lib.hid hw1
  have KP:=Lib.hid (truthc_any B b l b0 W1 hw1 hl hBb)
  have y0:=(boxC q1 0 _ rfl).1
  have y1:=(boxC q1 1 _ rfl).1
  have y2:=(boxC q1 2 _ rfl).1
  have y3:=(boxC q1 3 _ rfl).1
  have y4:=(boxC q1 4 _ rfl).1
  have y5:=(boxC q1 5 _ rfl).1
  have y6:=(boxC q1 6 _ rfl).1
  have y7:=(boxC q1 7 _ rfl).1
  have hsB:B≤W1.heap.size:=by omega
  have HSB:=Lib.hid hsB
  clear hW1 hb1 hf1 hw1 hbe h hw q1 hsB
  go_enter Tryz.func39,Tryz.ntmps39
  go_wp2_with fail
  rw [HW1.out]
  go_wp2_with fail
  have HFX:=HF1
  refine KP.out.mono ?_
  intro r w5 hp5
  rcases hp5 with ⟨e1,rfl,e2,e3⟩ | ⟨e1,rfl,e2⟩
  · have HZ:=Lib.hid (EncB.pre HFX.out (.inl ⟨e1,rfl,e2,e3⟩))
    clear e1 e2 e3 KP
    go_wp2
    go_end0
    exact HZ.out
  · have HZ:=Lib.hid (EncB.pre HFX.out (.inr ⟨e1,rfl,e2⟩))
    clear e1 e2 KP
    go_wp2
    exact ⟨rfl,HZ.out⟩
theorem valc_num (B b:Nat) (w0:World) (hBb:B≤b) (h0:w0.heap.size=B) (b0 neg:Bool) (ma:Option Addr) (mn mc:Nat) (e:Int) (s:ByteArray) (ka:Option Addr) (kn kc:Nat) (va:Option Addr) (vn vc:Nat) (M:List Nat) (hM:M.length=mn) (hMc:mn≤mc) (hMo:Okl M) (hMr:Rd w0 ma M) (hMk:chkB neg M e=true) (hT:DB w0)
    (l:List Nat) (W:World) (h:WrC B b l W) (hl:l.length≤32768) (hw:Below B w0 W) :
    Calls Tryz.prog 39 #[.pointer (some ⟨b,0,none⟩),.agg #[.int .i64 3,.bool b0,.bool neg,.slice ma mn mc,.int .i64 e,.string s,.slice ka kn kc,.slice va vn vc]] W (EncB B b l (numB neg (val M) e) W):=by
  have hbw:=h.lt
  obtain ⟨W1,hW1⟩:∃ x,W.alloc (.cells #[.int .i64 3,.bool b0,.bool neg,.slice ma mn mc,.int .i64 e,.string s,.slice ka kn kc,.slice va vn vc] 29)=x:=⟨_,rfl⟩
  have hb1:Below W.heap.size W W1:=by rw [← hW1];exact (Below.refl _ _).alloc (Nat.le_refl _) _
  have q1:W1.heap[W.heap.size]? = some (.cells #[.int .i64 3,.bool b0,.bool neg,.slice ma mn mc,.int .i64 e,.string s,.slice ka kn kc,.slice va vn vc] 29):=by rw [← hW1];exact heap_alloc_new W _
  have hf1:FrC B b W W1:=FrC.of_below (by omega) hb1
  have hw1:=h.on hb1
  have hbe:Below B w0 W1:=hw.trans hf1.bel
  have hs1:=hb1.size
  have HW1:=Lib.hid hW1;have HF1:=Lib.hid hf1;have HBE:=Lib.hid hbe;have HWR:=Lib.hid hw1
  have hno:NumOk W1 neg ma mn mc M e:=⟨hM,hMc,hMo,hMr.below (by rw [h0];exact hbe:Below w0.heap.size w0 W1),hMk⟩
  have KF:=Lib.hid (number_enc neg ma mn mc M e W1 hno (hT.below (by rw [h0];exact hbe:Below w0.heap.size w0 W1)))
  have HSZ:=Lib.hid (numB_len (ng:=neg) hMo hMk)
  clear hM hMc hMo hMr hMk hT hno
  generalize numB neg (val M) e=NB at *
  have y0:=(boxC q1 0 _ rfl).1
  have y1:=(boxC q1 1 _ rfl).1
  have y2:=(boxC q1 2 _ rfl).1
  have y3:=(boxC q1 3 _ rfl).1
  have y4:=(boxC q1 4 _ rfl).1
  have y5:=(boxC q1 5 _ rfl).1
  have y6:=(boxC q1 6 _ rfl).1
  have y7:=(boxC q1 7 _ rfl).1
  have hsB:B≤W1.heap.size:=by omega
  have HSB:=Lib.hid hsB
  clear hW1 hb1 hf1 hw1 hbe h hw q1 hsB
  go_enter Tryz.func39,Tryz.ntmps39
  go_wp2_with fail
  rw [HW1.out]
  go_wp2_with fail
  refine KF.out.mono ?_
  rintro r w2 ⟨v2,rfl,ho2,hb2⟩
  obtain ⟨ad2,cap2,rfl,hc2,hr2,_,_,h02⟩:=own_viewN ho2
  have HFX:=Lib.hid (HF1.out.trans (FrC.of_below HSB.out hb2))
  have KP:=Lib.hid (putc_any B b l ad2 _ cap2 NB w2 (HWR.out.on hb2) hl rfl (by have:=HSZ.out;omega) hr2 (fun h=>(h02 h).1) hBb)
  clear hb2 KF ho2 hr2 h02 hc2
  go_wp2_with fail
  refine KP.out.mono ?_
  intro r w5 hp5
  rcases hp5 with ⟨e1,rfl,e2,e3⟩ | ⟨e1,rfl,e2⟩
  · have HZ:=Lib.hid (EncB.pre HFX.out (.inl ⟨e1,rfl,e2,e3⟩))
    clear e1 e2 e3 KP
    go_wp2
    go_end0
    exact HZ.out
  · have HZ:=Lib.hid (EncB.pre HFX.out (.inr ⟨e1,rfl,e2⟩))
    clear e1 e2 KP
    go_wp2
    exact ⟨rfl,HZ.out⟩
theorem valc_text (B b:Nat) (w0:World) (hBb:B≤b) (h0:w0.heap.size=B) (b0 neg:Bool) (ma:Option Addr) (mn mc:Nat) (e:Int) (s:ByteArray) (ka:Option Addr) (kn kc:Nat) (va:Option Addr) (vn vc:Nat) (hz:s.size≤1000000)
    (l:List Nat) (W:World) (h:WrC B b l W) (hl:l.length≤32768) (hw:Below B w0 W) :
    Calls Tryz.prog 39 #[.pointer (some ⟨b,0,none⟩),.agg #[.int .i64 4,.bool b0,.bool neg,.slice ma mn mc,.int .i64 e,.string s,.slice ka kn kc,.slice va vn vc]] W (EncB B b l (strC 3 s) W):=by
  have hbw:=h.lt
  obtain ⟨W1,hW1⟩:∃ x,W.alloc (.cells #[.int .i64 4,.bool b0,.bool neg,.slice ma mn mc,.int .i64 e,.string s,.slice ka kn kc,.slice va vn vc] 29)=x:=⟨_,rfl⟩
  have hb1:Below W.heap.size W W1:=by rw [← hW1];exact (Below.refl _ _).alloc (Nat.le_refl _) _
  have q1:W1.heap[W.heap.size]? = some (.cells #[.int .i64 4,.bool b0,.bool neg,.slice ma mn mc,.int .i64 e,.string s,.slice ka kn kc,.slice va vn vc] 29):=by rw [← hW1];exact heap_alloc_new W _
  have hf1:FrC B b W W1:=FrC.of_below (by omega) hb1
  have hw1:=h.on hb1
  have hbe:Below B w0 W1:=hw.trans hf1.bel
  have hs1:=hb1.size
  have HW1:=Lib.hid hW1;have HF1:=Lib.hid hf1;have HBE:=Lib.hid hbe;have HWR:=Lib.hid hw1
  have KP:=Lib.hid (textc_any B b l 3 s W1 hw1 hl hz (by omega) hBb)
  rw [show ((3:Nat):Int)=3 from rfl] at KP
  have y0:=(boxC q1 0 _ rfl).1
  have y1:=(boxC q1 1 _ rfl).1
  have y2:=(boxC q1 2 _ rfl).1
  have y3:=(boxC q1 3 _ rfl).1
  have y4:=(boxC q1 4 _ rfl).1
  have y5:=(boxC q1 5 _ rfl).1
  have y6:=(boxC q1 6 _ rfl).1
  have y7:=(boxC q1 7 _ rfl).1
  have hsB:B≤W1.heap.size:=by omega
  have HSB:=Lib.hid hsB
  clear hW1 hb1 hf1 hw1 hbe h hw q1 hsB
  go_enter Tryz.func39,Tryz.ntmps39
  go_wp2_with fail
  rw [HW1.out]
  go_wp2_with fail
  have HFX:=HF1
  refine KP.out.mono ?_
  intro r w5 hp5
  rcases hp5 with ⟨e1,rfl,e2,e3⟩ | ⟨e1,rfl,e2⟩
  · have HZ:=Lib.hid (EncB.pre HFX.out (.inl ⟨e1,rfl,e2,e3⟩))
    clear e1 e2 e3 KP
    go_wp2
    go_end0
    exact HZ.out
  · have HZ:=Lib.hid (EncB.pre HFX.out (.inr ⟨e1,rfl,e2⟩))
    clear e1 e2 KP
    go_wp2
    exact ⟨rfl,HZ.out⟩
theorem valc_bytes (B b:Nat) (w0:World) (hBb:B≤b) (h0:w0.heap.size=B) (b0 neg:Bool) (ma:Option Addr) (mn mc:Nat) (e:Int) (s:ByteArray) (ka:Option Addr) (kn kc:Nat) (va:Option Addr) (vn vc:Nat) (hz:s.size≤1000000)
    (l:List Nat) (W:World) (h:WrC B b l W) (hl:l.length≤32768) (hw:Below B w0 W) :
    Calls Tryz.prog 39 #[.pointer (some ⟨b,0,none⟩),.agg #[.int .i64 5,.bool b0,.bool neg,.slice ma mn mc,.int .i64 e,.string s,.slice ka kn kc,.slice va vn vc]] W (EncB B b l (strC 2 s) W):=by
  have hbw:=h.lt
  obtain ⟨W1,hW1⟩:∃ x,W.alloc (.cells #[.int .i64 5,.bool b0,.bool neg,.slice ma mn mc,.int .i64 e,.string s,.slice ka kn kc,.slice va vn vc] 29)=x:=⟨_,rfl⟩
  have hb1:Below W.heap.size W W1:=by rw [← hW1];exact (Below.refl _ _).alloc (Nat.le_refl _) _
  have q1:W1.heap[W.heap.size]? = some (.cells #[.int .i64 5,.bool b0,.bool neg,.slice ma mn mc,.int .i64 e,.string s,.slice ka kn kc,.slice va vn vc] 29):=by rw [← hW1];exact heap_alloc_new W _
  have hf1:FrC B b W W1:=FrC.of_below (by omega) hb1
  have hw1:=h.on hb1
  have hbe:Below B w0 W1:=hw.trans hf1.bel
  have hs1:=hb1.size
  have HW1:=Lib.hid hW1;have HF1:=Lib.hid hf1;have HBE:=Lib.hid hbe;have HWR:=Lib.hid hw1
  have KP:=Lib.hid (textc_any B b l 2 s W1 hw1 hl hz (by omega) hBb)
  rw [show ((2:Nat):Int)=2 from rfl] at KP
  have y0:=(boxC q1 0 _ rfl).1
  have y1:=(boxC q1 1 _ rfl).1
  have y2:=(boxC q1 2 _ rfl).1
  have y3:=(boxC q1 3 _ rfl).1
  have y4:=(boxC q1 4 _ rfl).1
  have y5:=(boxC q1 5 _ rfl).1
  have y6:=(boxC q1 6 _ rfl).1
  have y7:=(boxC q1 7 _ rfl).1
  have hsB:B≤W1.heap.size:=by omega
  have HSB:=Lib.hid hsB
  clear hW1 hb1 hf1 hw1 hbe h hw q1 hsB
  go_enter Tryz.func39,Tryz.ntmps39
  go_wp2_with fail
  rw [HW1.out]
  go_wp2_with fail
  have HFX:=HF1
  refine KP.out.mono ?_
  intro r w5 hp5
  rcases hp5 with ⟨e1,rfl,e2,e3⟩ | ⟨e1,rfl,e2⟩
  · have HZ:=Lib.hid (EncB.pre HFX.out (.inl ⟨e1,rfl,e2,e3⟩))
    clear e1 e2 e3 KP
    go_wp2
    go_end0
    exact HZ.out
  · have HZ:=Lib.hid (EncB.pre HFX.out (.inr ⟨e1,rfl,e2⟩))
    clear e1 e2 KP
    go_wp2
    exact ⟨rfl,HZ.out⟩
theorem valc_arr (B b:Nat) (w0:World) (hBb:B≤b) (h0:w0.heap.size=B) (b0 neg:Bool) (ma:Option Addr) (mn mc:Nat) (e:Int) (s:ByteArray) (ka:Option Addr) (kn kc:Nat) (va:Option Addr) (vn vc:Nat) (us:List MT) (hn:us.length=vn) (hm:vn≤300) (hr:RdV w0 va (flat (us.map MT.c))) (hV:∀ u∈us,WrV B b w0 u)
    (l:List Nat) (W:World) (h:WrC B b l W) (hl:l.length≤32768) (hw:Below B w0 W) :
    Calls Tryz.prog 39 #[.pointer (some ⟨b,0,none⟩),.agg #[.int .i64 6,.bool b0,.bool neg,.slice ma mn mc,.int .i64 e,.string s,.slice ka kn kc,.slice va vn vc]] W (EncB B b l (arrE vn (us.map encX)) W):=by
  have hbw:=h.lt
  obtain ⟨W1,hW1⟩:∃ x,W.alloc (.cells #[.int .i64 6,.bool b0,.bool neg,.slice ma mn mc,.int .i64 e,.string s,.slice ka kn kc,.slice va vn vc] 29)=x:=⟨_,rfl⟩
  have hb1:Below W.heap.size W W1:=by rw [← hW1];exact (Below.refl _ _).alloc (Nat.le_refl _) _
  have q1:W1.heap[W.heap.size]? = some (.cells #[.int .i64 6,.bool b0,.bool neg,.slice ma mn mc,.int .i64 e,.string s,.slice ka kn kc,.slice va vn vc] 29):=by rw [← hW1];exact heap_alloc_new W _
  have hf1:FrC B b W W1:=FrC.of_below (by omega) hb1
  have hw1:=h.on hb1
  have hbe:Below B w0 W1:=hw.trans hf1.bel
  have hs1:=hb1.size
  have HW1:=Lib.hid hW1;have HF1:=Lib.hid hf1;have HBE:=Lib.hid hbe;have HWR:=Lib.hid hw1
  have KP:=Lib.hid (arrc_any B b w0 hBb h0 us va vn vc hn hm hr hV l W1 hw1 hl hbe)
  clear hn hm hr hV
  have y0:=(boxC q1 0 _ rfl).1
  have y1:=(boxC q1 1 _ rfl).1
  have y2:=(boxC q1 2 _ rfl).1
  have y3:=(boxC q1 3 _ rfl).1
  have y4:=(boxC q1 4 _ rfl).1
  have y5:=(boxC q1 5 _ rfl).1
  have y6:=(boxC q1 6 _ rfl).1
  have y7:=(boxC q1 7 _ rfl).1
  have hsB:B≤W1.heap.size:=by omega
  have HSB:=Lib.hid hsB
  clear hW1 hb1 hf1 hw1 hbe h hw q1 hsB
  go_enter Tryz.func39,Tryz.ntmps39
  go_wp2_with fail
  rw [HW1.out]
  go_wp2_with fail
  have HFX:=HF1
  refine KP.out.mono ?_
  intro r w5 hp5
  rcases hp5 with ⟨e1,rfl,e2,e3⟩ | ⟨e1,rfl,e2⟩
  · have HZ:=Lib.hid (EncB.pre HFX.out (.inl ⟨e1,rfl,e2,e3⟩))
    clear e1 e2 e3 KP
    go_wp2
    go_end0
    exact HZ.out
  · have HZ:=Lib.hid (EncB.pre HFX.out (.inr ⟨e1,rfl,e2⟩))
    clear e1 e2 KP
    go_wp2
    exact ⟨rfl,HZ.out⟩
theorem valc_obj (B b:Nat) (w0:World) (hBb:B≤b) (h0:w0.heap.size=B) (b0 neg:Bool) (ma:Option Addr) (mn mc:Nat) (e:Int) (s:ByteArray) (ka:Option Addr) (kn kc:Nat) (va:Option Addr) (vn vc:Nat) (ks:List ByteArray) (us:List MT) (hk:ks.length=kn) (hkc:kn≤kc) (hkv:kn=vn) (hn:us.length=vn) (hm:vn≤300) (hz:∀ s∈ks,s.size≤2000) (hrk:RdV w0 ka (sv ks)) (hr:RdV w0 va (flat (us.map MT.c))) (hV:∀ u∈us,WrV B b w0 u)
    (l:List Nat) (W:World) (h:WrC B b l W) (hl:l.length≤32768) (hw:Below B w0 W) :
    Calls Tryz.prog 39 #[.pointer (some ⟨b,0,none⟩),.agg #[.int .i64 7,.bool b0,.bool neg,.slice ma mn mc,.int .i64 e,.string s,.slice ka kn kc,.slice va vn vc]] W (EncB B b l (objE ks (us.map encX)) W):=by
  have hbw:=h.lt
  obtain ⟨W1,hW1⟩:∃ x,W.alloc (.cells #[.int .i64 7,.bool b0,.bool neg,.slice ma mn mc,.int .i64 e,.string s,.slice ka kn kc,.slice va vn vc] 29)=x:=⟨_,rfl⟩
  have hb1:Below W.heap.size W W1:=by rw [← hW1];exact (Below.refl _ _).alloc (Nat.le_refl _) _
  have q1:W1.heap[W.heap.size]? = some (.cells #[.int .i64 7,.bool b0,.bool neg,.slice ma mn mc,.int .i64 e,.string s,.slice ka kn kc,.slice va vn vc] 29):=by rw [← hW1];exact heap_alloc_new W _
  have hf1:FrC B b W W1:=FrC.of_below (by omega) hb1
  have hw1:=h.on hb1
  have hbe:Below B w0 W1:=hw.trans hf1.bel
  have hs1:=hb1.size
  have HW1:=Lib.hid hW1;have HF1:=Lib.hid hf1;have HBE:=Lib.hid hbe;have HWR:=Lib.hid hw1
  subst hkv
  have KP:=Lib.hid (objc_any B b w0 hBb h0 ks ka kc us va kn vc hk hkc hn hm hz hrk hr hV l W1 hw1 hl hbe)
  clear hn hm hr hV hk hkc hz hrk
  have y0:=(boxC q1 0 _ rfl).1
  have y1:=(boxC q1 1 _ rfl).1
  have y2:=(boxC q1 2 _ rfl).1
  have y3:=(boxC q1 3 _ rfl).1
  have y4:=(boxC q1 4 _ rfl).1
  have y5:=(boxC q1 5 _ rfl).1
  have y6:=(boxC q1 6 _ rfl).1
  have y7:=(boxC q1 7 _ rfl).1
  have hsB:B≤W1.heap.size:=by omega
  have HSB:=Lib.hid hsB
  clear hW1 hb1 hf1 hw1 hbe h hw q1 hsB
  go_enter Tryz.func39,Tryz.ntmps39
  go_wp2_with fail
  rw [HW1.out]
  go_wp2_with fail
  have HFX:=HF1
  refine KP.out.mono ?_
  intro r w5 hp5
  rcases hp5 with ⟨e1,rfl,e2,e3⟩ | ⟨e1,rfl,e2⟩
  · have HZ:=Lib.hid (EncB.pre HFX.out (.inl ⟨e1,rfl,e2,e3⟩))
    clear e1 e2 e3 KP
    go_wp2
    go_end0
    exact HZ.out
  · have HZ:=Lib.hid (EncB.pre HFX.out (.inr ⟨e1,rfl,e2⟩))
    clear e1 e2 KP
    go_wp2
    exact ⟨rfl,HZ.out⟩
theorem valc_any (B b:Nat) (w0:World) (hBb:B≤b) (h0:w0.heap.size=B) (hT:DB w0) (t:MT):Rep w0 t→(∀ s,t.sub s→soundB s=true)→WrV B b w0 t:=by
  refine MT.ind (P:=fun t=>Rep w0 t→(∀ s,t.sub s→soundB s=true)→WrV B b w0 t) ?_ t
  intro t ih hR hS l W h hl hw
  have own:=hR.own
  have hV:∀ u∈t.v,WrV B b w0 u:=fun u hu=>ih u hu (hR.part hu) (fun s hs=>hS s (MT.sub_v hu hs))
  have hs:=hS t t.sub_refl
  rw [encX_eq]
  obtain ⟨⟨k,b0,neg,ma,mn,mc,e,s,ka,kn,kc,va,vn,vc⟩,M,ks,us⟩:=t
  clear ih hS hR
  unfold soundB at hs
  simp only [MT.c,MT.m,MT.k,MT.v] at hs hV own ⊢
  unfold Cel.val
  obtain ⟨o1,o2,o3,o4,o5,o6,o7,o8,o9,o10,o11,o12,o13,o14,o15⟩:=own
  simp only [MT.c,MT.m,MT.k,MT.v] at o1 o2 o3 o4 o5 o6 o7 o8 o9 o10 o11 o12 o13
  by_cases k1:k=1
  · subst k1
    exact valc_null B b w0 hBb h0 b0 neg ma mn mc e s ka kn kc va vn vc l W h hl hw
  by_cases k2:k=2
  · subst k2
    exact valc_truth B b w0 hBb h0 b0 neg ma mn mc e s ka kn kc va vn vc l W h hl hw
  by_cases k3:k=3
  · subst k3
    simp at hs
    exact valc_num B b w0 hBb h0 b0 neg ma mn mc e s ka kn kc va vn vc M o1 o2 o3 o4 hs.1 hT l W h hl hw
  by_cases k4:k=4
  · subst k4
    simp at hs
    exact valc_text B b w0 hBb h0 b0 neg ma mn mc e s ka kn kc va vn vc (by have:=of_decide_eq_true hs.2.1;omega) l W h hl hw
  by_cases k5:k=5
  · subst k5
    simp at hs
    exact valc_bytes B b w0 hBb h0 b0 neg ma mn mc e s ka kn kc va vn vc (by have:=of_decide_eq_true hs.1;omega) l W h hl hw
  by_cases k7:k=7
  · subst k7
    simp at hs
    exact valc_obj B b w0 hBb h0 b0 neg ma mn mc e s ka kn kc va vn vc ks us o5 o6 (of_decide_eq_true hs.1) o8 (of_decide_eq_true hs.2.2.1) (riseC_size hs.2.1) o7 o10 hV l W h hl hw
  by_cases k6:k=6
  · subst k6
    simp at hs
    have:=valc_arr B b w0 hBb h0 b0 neg ma mn mc e s ka kn kc va vn vc us o8 (of_decide_eq_true hs.1) o10 hV l W h hl hw
    have e8:arrE us.length (us.map encX)=arrE vn (us.map encX):=by rw [o8]
    rw [← e8] at this
    exact this
  · simp [k1,k2,k3,k4,k5,k7,k6] at hs
end Go.Proofs.YtnacbakcalcgaaaGreatDoor
