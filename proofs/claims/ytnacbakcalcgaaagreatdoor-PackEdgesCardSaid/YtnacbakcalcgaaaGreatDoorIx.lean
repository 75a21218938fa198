/- Texts of the claim. -/
import Derived.Test.YtnacbakcalcgaaaGreatDoorIw
set_option linter.unusedVariables false
set_option linter.unusedSimpArgs false
set_option maxHeartbeats 8000000
set_option maxRecDepth 100000
namespace Go.Proofs.YtnacbakcalcgaaaGreatDoor
open Go.RowKit Go.Lib Go.Sort
theorem boxC {W:World} {b:Nat} {c:Array Value} {t:TypeId} (h:W.heap[b]? = some (.cells c t)) (i:Nat) (v:Value) (hv:c[i]? = some v):W.cell? ⟨b,i,none⟩=some v∧W.frozen? ⟨b,i,none⟩=false:=by
  simp [World.cell?,World.frozen?,h,hv]
def catP:List (Option (List Nat))→Option (List Nat)
  | []=>some []
  | none::_=>none
  | some p::r=>match catP r with
    | none=>none
    | some q=>some (p++q)
theorem catP_none:∀ {ps:List (Option (List Nat))} {j:Nat},j<ps.length→ps.getD j none=none→catP ps=none:=by
  intro ps
  induction ps with
  | nil=>intro j h;simp at h
  | cons o r ih =>
    intro j h h2
    cases o with
    | none=>rfl
    | some p =>
      cases j with
      | zero=>simp [List.getD] at h2
      | succ j =>
        have:=ih (j:=j) (by simpa using h) (by simpa [List.getD] using h2)
        simp [catP,this]
theorem catP_take:∀ {ps:List (Option (List Nat))} {j:Nat} {q p:List Nat},catP (ps.take j)=some q→j<ps.length→ps.getD j none=some p→catP (ps.take (j+1))=some (q++p):=by
  intro ps
  induction ps with
  | nil=>intro j q p _ h;simp at h
  | cons o r ih =>
    intro j q p h h1 h2
    cases o with
    | none =>
      cases j with
      | zero=>simp [List.getD] at h2
      | succ j=>simp [catP] at h
    | some p0 =>
      cases j with
      | zero =>
        simp [List.getD] at h2
        simp [catP] at h
        subst h2 h
        simp [catP]
      | succ j =>
        simp only [List.take_succ_cons,catP] at h ⊢
        cases h3:catP (r.take j) with
        | none=>rw [h3] at h;cases h
        | some q0 =>
          rw [h3] at h
          simp only [Option.some.injEq] at h
          rw [ih h3 (by simpa using h1) (by simpa [List.getD] using h2)]
          simp only [Option.some.injEq]
          rw [← h,List.append_assoc]
def arrP (n:Nat) (ps:List (Option (List Nat))):Option (List Nat):=match catP ps with
  | none=>none
  | some q=>some (mput 9 n++q)
def mbrP (s:ByteArray) (o:Option (List Nat)):Option (List Nat):=match o with
  | none=>none
  | some q=>some (strP 7 s++q)
def objP (ks:List ByteArray) (ps:List (Option (List Nat))):Option (List Nat):=match catP (List.zipWith mbrP ks ps) with
  | none=>none
  | some q=>some (mput 10 ks.length++q)
mutual
/-- A value as MessagePack,where it has a form. -/
def encP:MT→Option (List Nat)
  | .mk c m k v=>if c.k=1 then some (mput 1 0) else if c.k=2 then some (truthP c.b) else if c.k=3 then numP c.neg (val m) c.e else if c.k=4 then some (strP 7 c.s) else if c.k=5 then some (strP 8 c.s)
      else if c.k=6 then arrP v.length (encPL v) else if c.k=7 then objP k (encPL v) else some []
def encPL:List MT→List (Option (List Nat)) | []=>[] | t::l=>encP t::encPL l
end
theorem encPL_map (l:List MT):encPL l=l.map encP:=by
  induction l with
  | nil=>rw [encPL];rfl
  | cons t l ih=>rw [encPL,ih];rfl
theorem encP_eq (t:MT):encP t=if t.c.k=1 then some (mput 1 0) else if t.c.k=2 then some (truthP t.c.b) else if t.c.k=3 then numP t.c.neg (val t.m) t.c.e else if t.c.k=4 then some (strP 7 t.c.s) else if t.c.k=5 then some (strP 8 t.c.s)
      else if t.c.k=6 then arrP t.v.length (t.v.map encP) else if t.c.k=7 then objP t.k (t.v.map encP) else some []:=by
  obtain ⟨c,m,k,v⟩:=t
  rw [encP,encPL_map];rfl
def WrVP (B b:Nat) (w0:World) (t:MT):Prop:=∀ l W,WrP B b l W→Below B w0 W→Calls Tryz.prog 55 #[.pointer (some ⟨b,0,none⟩),t.c.val] W (EncP B b l (encP t) W)
def ArWP (B b:Nat) (l H:List Nat) (ps:List (Option (List Nat))) (n:Nat) (W:World) (g:Nat) (i:Value) (wr:World):Prop :=
  ∃ j q,i=.int .i64 ((j:Nat):Int)∧j≤n∧n - j≤g∧catP (ps.take j)=some q∧WrP B b (l++(H++q)) wr∧FrC B b W wr
theorem arrp_any (B b:Nat) (w0:World) (hBb:B≤b) (h0:w0.heap.size=B) (us:List MT) (va:Option Addr) (n cap:Nat) (hn:us.length=n) (hm:n≤300) (hr:RdV w0 va (flat (us.map MT.c))) (hV:∀ u∈us,WrVP B b w0 u)
    (l:List Nat) (W:World) (h:WrP B b l W) (hw:Below B w0 W) :
    Calls Tryz.prog 95 #[.pointer (some ⟨b,0,none⟩),.slice va n cap] W (EncP B b l (arrP n (us.map encP)) W):=by
  have hbw:=h.lt
  have KP:=Lib.hid (headp_any B b l 9 n W h (by omega) (mput_ne (by omega) (by omega)) hBb)
  have HV:=Lib.hid (fun j (hj:j<us.length)=>hV (us.getD j (leafT 0 false ⟨#[]⟩)) (by simp [List.getD,hj]))
  have HPS:=Lib.hid (fun j (hj:j<us.length)=>(show (us.map encP).getD j none=encP (us.getD j (leafT 0 false ⟨#[]⟩)) by simp [List.getD,hj]))
  have HPL:=Lib.hid (show (us.map encP).length=n by rw [List.length_map,hn])
  have HRD:=Lib.hid (fun W' (hw':Below B w0 W')=>hr.on (by rw [h0];exact hw':Below w0.heap.size w0 W'))
  have HN:=Lib.hid hn
  have HW:=Lib.hid hw
  have HAE:Hid (arrP n (us.map encP)=match catP (us.map encP) with | none=>none | some q=>some (mput 9 n++q)):=Lib.hid rfl
  have e64:(n:Int) % 18446744073709551616=(n:Int):=by omega
  generalize arrP n (us.map encP)=AE at *
  clear hr hV h hw hn
  generalize us.map encP=ps at *
  obtain ⟨H4,hH4⟩:∃ H4,mput 9 n=H4:=⟨_,rfl⟩
  rw [hH4] at KP HAE
  clear hH4
  go_enter Tryz.func95,Tryz.ntmps95
  go_wp2_with fail
  refine KP.out.mono ?_
  rintro r w1 ⟨rfl,h2,h3⟩
  have HST:=Lib.hid (show ArWP B b l H4 ps n W n (.int .i64 ((0:Nat):Int)) w1 from ⟨0,[],rfl,Nat.zero_le _,by omega,rfl,by simpa using h2,h3⟩)
  clear h2 h3 KP
  go_wp2
  go_loopg [13] n (fun g i wr=>ArWP B b l H4 ps n W g i wr)
  case atStart=>exact HST.out
  case round =>
    clear HST
    obtain ⟨j,q,rfl,hjn,hgj,hq,hwr,hfr⟩:=hrel
    have hBr:B≤wr.heap.size:=by have:=hwr.lt;omega
    have HWR:=Lib.hid hwr;have HFR:=Lib.hid hfr;have HQ:=Lib.hid hq
    have hbr:=hwr.lt
    clear hwr hfr hq
    by_cases hlt:j<n
    · obtain ⟨g,rfl⟩:∃ g,gk=g+1:=⟨gk - 1,by omega⟩
      have hltz:(j:Int)<(n:Int):=by omega
      have hju:j<us.length:=by have:=HN.out;omega
      have hj6:(j:Int)≤300:=by omega
      have hrd:=HRD.out wr (HW.out.trans HFR.out.bel)
      obtain ⟨xbk,xo,rfl,hxl⟩:=hrd.shape (by rw [flat_len,List.length_map];omega)
      have hxx:=flat_at hrd j (by rw [List.length_map];omega) (c:=(us.getD j (leafT 0 false ⟨#[]⟩)).c) (getD_mapc hju _)
      have KV:=Lib.hid (HV.out j hju)
      have HPJ:=Lib.hid (HPS.out j hju)
      unfold WrVP at KV
      generalize encP (us.getD j (leafT 0 false ⟨#[]⟩))=pj at *
      generalize (us.getD j (leafT 0 false ⟨#[]⟩)).c=cx at KV hxx
      obtain ⟨xk,xb,xneg,xma,xmn,xmc,xe,xs,xka,xkn,xkc,xva,xvn,xvc⟩:=cx
      unfold Cel.val at KV
      obtain ⟨x0,x1,x2,x3,x4,x5,x6,x7⟩:=hxx
      try simp only at x0 x1 x2 x3 x4 x5 x6 x7
      obtain ⟨W3,hW3⟩:∃ x,wr.alloc (.cells #[.int .i64 xk,.bool xb,.bool xneg,.slice xma xmn xmc,.int .i64 xe,.string xs,.slice xka xkn xkc,.slice xva xvn xvc] 29)=x:=⟨_,rfl⟩
      have hb3:Below wr.heap.size wr W3:=by rw [← hW3];exact (Below.refl _ _).alloc (Nat.le_refl _) _
      have q3:W3.heap[wr.heap.size]? = some (.cells #[.int .i64 xk,.bool xb,.bool xneg,.slice xma xmn xmc,.int .i64 xe,.string xs,.slice xka xkn xkc,.slice xva xvn xvc] 29):=by rw [← hW3];exact heap_alloc_new wr _
      have hf3:FrC B b W W3:=HFR.out.trans (FrC.of_below hBr hb3)
      have HF3:=Lib.hid hf3;have HW3:=Lib.hid hW3
      have KV2:=Lib.hid (KV.out _ W3 (HWR.out.on hb3) (HW.out.trans hf3.bel))
      have y0:=(boxC q3 0 _ rfl).1
      have y1:=(boxC q3 1 _ rfl).1
      have y2:=(boxC q3 2 _ rfl).1
      have y3:=(boxC q3 3 _ rfl).1
      have y4:=(boxC q3 4 _ rfl).1
      have y5:=(boxC q3 5 _ rfl).1
      have y6:=(boxC q3 6 _ rfl).1
      have y7:=(boxC q3 7 _ rfl).1
      clear hrd hb3 q3 hf3 hW3 KV
      go_wp2_with fail
      rw [HW3.out]
      go_wp2_with fail
      refine KV2.out.mono ?_
      intro r w5 hp5
      cases hpj:pj with
      | none =>
        rw [hpj] at hp5 HPJ
        obtain ⟨rfl,hb5⟩:=hp5
        have hcn:=catP_none (by rw [HPL.out];exact hlt) HPJ.out
        have HZ:=Lib.hid (show EncP B b l AE W (.panicked [{ v:=.iface 32 (.int .i64 6),recovered:=false }]) w5 from by
          rw [HAE.out,hcn];exact ⟨rfl,HF3.out.bel.trans hb5⟩)
        clear hb5 KV2 hcn hpj
        go_wp2
        exact ⟨rfl,HZ.out⟩
      | some p =>
        rw [hpj] at hp5 HPJ
        obtain ⟨rfl,e2,e3⟩:=hp5
        have HF:=Lib.hid (show ArWP B b l H4 ps n W g (.int .i64 ((j:Int)+1)) w5 from ⟨j+1,q++p,by simp,by omega,by omega,catP_take HQ.out (by rw [HPL.out];exact hlt) HPJ.out,by rw [← List.append_assoc,← List.append_assoc];simpa using e2,HF3.out.trans e3⟩)
        clear e2 e3 KV2 hpj
        go_wp2
        go_roundg g
        case rel=>exact HF.out
        case measure=>omega
    · obtain rfl:j=n:=by omega
      have hjz:¬ (j:Int)<(j:Int):=by omega
      have hq:=HQ.out
      rw [List.take_of_length_le (by rw [HPL.out];exact Nat.le_refl _)] at hq
      have HZ:=Lib.hid (show EncP B b l AE W (.returned (.tuple #[])) wr from by
        rw [HAE.out,hq];exact ⟨rfl,HWR.out,HFR.out⟩)
      clear hq
      go_wp2_with fail
      go_end0
      exact HZ.out

theorem objp_any (B b:Nat) (w0:World) (hBb:B≤b) (h0:w0.heap.size=B) (ks:List ByteArray) (ka:Option Addr) (kc:Nat) (us:List MT) (va:Option Addr) (n cap:Nat) (hk:ks.length=n) (hkc:n≤kc) (hn:us.length=n) (hm:n≤300) (hz:∀ s∈ks,s.size≤2000) (hrk:RdV w0 ka (sv ks)) (hr:RdV w0 va (flat (us.map MT.c))) (hV:∀ u∈us,WrVP B b w0 u)
    (l:List Nat) (W:World) (h:WrP B b l W) (hw:Below B w0 W) :
    Calls Tryz.prog 96 #[.pointer (some ⟨b,0,none⟩),.slice ka n kc,.slice va n cap] W (EncP B b l (objP ks (us.map encP)) W):=by
  have hbw:=h.lt
  have KP:=Lib.hid (headp_any B b l 10 n W h (by omega) (mput_ne (by omega) (by omega)) hBb)
  have HV:=Lib.hid (fun j (hj:j<us.length)=>hV (us.getD j (leafT 0 false ⟨#[]⟩)) (by simp [List.getD,hj]))
  have HPS:=Lib.hid (fun j (hj:j<us.length)=>(show (List.zipWith mbrP ks (us.map encP)).getD j none=mbrP (ks.getD j ByteArray.empty) (encP (us.getD j (leafT 0 false ⟨#[]⟩))) from by
    have hj2:j<ks.length:=by omega
    simp [List.getD,List.getElem?_zipWith,hj,hj2]))
  have HPL:=Lib.hid (show (List.zipWith mbrP ks (us.map encP)).length=n by rw [List.length_zipWith,List.length_map,hn,hk,Nat.min_self])
  have HRK:=Lib.hid (fun W' (hw':Below B w0 W')=>hrk.on (by rw [h0];exact hw':Below w0.heap.size w0 W'))
  have HK:=Lib.hid hk
  have HZ0:=Lib.hid hz
  have HRD:=Lib.hid (fun W' (hw':Below B w0 W')=>hr.on (by rw [h0];exact hw':Below w0.heap.size w0 W'))
  have HN:=Lib.hid hn
  have HW:=Lib.hid hw
  have HAE:Hid (objP ks (us.map encP)=match catP (List.zipWith mbrP ks (us.map encP)) with | none=>none | some q=>some (mput 10 n++q)):=Lib.hid (by unfold objP;rw [hk];try (cases catP (List.zipWith mbrP ks (us.map encP)) <;> rfl))
  have e64:(n:Int) % 18446744073709551616=(n:Int):=by omega
  generalize objP ks (us.map encP)=AE at *
  clear hr hV h hw hn hk hz hrk
  generalize List.zipWith mbrP ks (us.map encP)=ps at *
  obtain ⟨H4,hH4⟩:∃ H4,mput 10 n=H4:=⟨_,rfl⟩
  rw [hH4] at KP HAE
  clear hH4
  go_enter Tryz.func96,Tryz.ntmps96
  go_wp2_with fail
  refine KP.out.mono ?_
  rintro r w1 ⟨rfl,h2,h3⟩
  have HST:=Lib.hid (show ArWP B b l H4 ps n W n (.int .i64 ((0:Nat):Int)) w1 from ⟨0,[],rfl,Nat.zero_le _,by omega,rfl,by simpa using h2,h3⟩)
  clear h2 h3 KP
  go_wp2
  go_loopg [15] n (fun g i wr=>ArWP B b l H4 ps n W g i wr)
  case atStart=>exact HST.out
  case round =>
    clear HST
    obtain ⟨j,q,rfl,hjn,hgj,hq,hwr,hfr⟩:=hrel
    have hBr:B≤wr.heap.size:=by have:=hwr.lt;omega
    have HWR:=Lib.hid hwr;have HFR:=Lib.hid hfr;have HQ:=Lib.hid hq
    have hbr:=hwr.lt
    clear hwr hfr hq
    by_cases hlt:j<n
    · obtain ⟨g,rfl⟩:∃ g,gk=g+1:=⟨gk - 1,by omega⟩
      have hltz:(j:Int)<(n:Int):=by omega
      have hju:j<us.length:=by have:=HN.out;omega
      have hj6:(j:Int)≤300:=by omega
      have hrd:=HRD.out wr (HW.out.trans HFR.out.bel)
      obtain ⟨xbk,xo,rfl,hxl⟩:=hrd.shape (by rw [flat_len,List.length_map];omega)
      have hxx:=flat_at hrd j (by rw [List.length_map];omega) (c:=(us.getD j (leafT 0 false ⟨#[]⟩)).c) (getD_mapc hju _)
      have hjk:j<ks.length:=by rw [HK.out];exact hlt
      have hrk0:=HRK.out wr (HW.out.trans HFR.out.bel)
      obtain ⟨kb,ko,rfl,hkl⟩:=hrk0.shape (by rw [sv_len];omega)
      have k0:wr.cell? ⟨kb,ko+j,none⟩=some (.string (ks.getD j ByteArray.empty)):=by
        obtain ⟨b',o',e',_,hc⟩:=hrk0 j (by rw [sv_len];exact hjk)
        cases e'
        rw [hc,sv_get _ _ hjk]
      have hksz:(ks.getD j ByteArray.empty).size≤2000:=HZ0.out _ (by simp [List.getD,hjk])
      clear hrk0
      have KV:=Lib.hid (HV.out j hju)
      have HPJ:=Lib.hid (HPS.out j hju)
      unfold WrVP at KV
      generalize ks.getD j ByteArray.empty=kj at *
      generalize encP (us.getD j (leafT 0 false ⟨#[]⟩))=pj at *
      generalize (us.getD j (leafT 0 false ⟨#[]⟩)).c=cx at KV hxx
      obtain ⟨xk,xb,xneg,xma,xmn,xmc,xe,xs,xka,xkn,xkc,xva,xvn,xvc⟩:=cx
      unfold Cel.val at KV
      obtain ⟨x0,x1,x2,x3,x4,x5,x6,x7⟩:=hxx
      try simp only at x0 x1 x2 x3 x4 x5 x6 x7
      obtain ⟨W3,hW3⟩:∃ x,wr.alloc (.cells #[.int .i64 xk,.bool xb,.bool xneg,.slice xma xmn xmc,.int .i64 xe,.string xs,.slice xka xkn xkc,.slice xva xvn xvc] 29)=x:=⟨_,rfl⟩
      have hb3:Below wr.heap.size wr W3:=by rw [← hW3];exact (Below.refl _ _).alloc (Nat.le_refl _) _
      have q3:W3.heap[wr.heap.size]? = some (.cells #[.int .i64 xk,.bool xb,.bool xneg,.slice xma xmn xmc,.int .i64 xe,.string xs,.slice xka xkn xkc,.slice xva xvn xvc] 29):=by rw [← hW3];exact heap_alloc_new wr _
      have hf3:FrC B b W W3:=HFR.out.trans (FrC.of_below hBr hb3)
      have HF3:=Lib.hid hf3;have HW3:=Lib.hid hW3
      have kw:W3.cell? ⟨kb,ko+j,none⟩=some (.string kj):=by rw [hb3.cell hkl];exact k0
      have KT:=Lib.hid (textp_any B b _ 7 kj W3 (HWR.out.on hb3) (by omega) (.inl rfl) hBb)
      have HQ3:=Lib.hid q3
      have hwb:wr.heap.size ≠ b:=by omega
      clear hrd hb3 q3 hf3 hW3
      go_wp2_with fail
      rw [HW3.out]
      go_wp2_with fail
      refine KT.out.mono ?_
      rintro r w4 ⟨rfl,t2,t3⟩
      have q4:=t3.box HQ3.out hwb
      have HF4:=Lib.hid (HF3.out.trans t3)
      have y0:=(boxC q4 0 _ rfl).1
      have y1:=(boxC q4 1 _ rfl).1
      have y2:=(boxC q4 2 _ rfl).1
      have y3:=(boxC q4 3 _ rfl).1
      have y4:=(boxC q4 4 _ rfl).1
      have y5:=(boxC q4 5 _ rfl).1
      have y6:=(boxC q4 6 _ rfl).1
      have y7:=(boxC q4 7 _ rfl).1
      have KV2:=Lib.hid (KV.out _ w4 t2 (HW.out.trans HF4.out.bel))
      clear q4 t2 t3 KT KV
      go_wp2_with fail
      refine KV2.out.mono ?_
      intro r w5 hp5
      cases hpj:pj with
      | none =>
        rw [hpj] at hp5 HPJ
        have hpn:=HPJ.out
        simp only [mbrP] at hpn
        obtain ⟨rfl,hb5⟩:=hp5
        have hcn:=catP_none (by rw [HPL.out];exact hlt) hpn
        have HZ:=Lib.hid (show EncP B b l AE W (.panicked [{ v:=.iface 32 (.int .i64 6),recovered:=false }]) w5 from by
          rw [HAE.out,hcn];exact ⟨rfl,HF4.out.bel.trans hb5⟩)
        clear hb5 KV2 hcn hpj hpn
        go_wp2
        exact ⟨rfl,HZ.out⟩
      | some p =>
        rw [hpj] at hp5 HPJ
        have hpn:=HPJ.out
        simp only [mbrP] at hpn
        obtain ⟨rfl,e2,e3⟩:=hp5
        have HF:=Lib.hid (show ArWP B b l H4 ps n W g (.int .i64 ((j:Int)+1)) w5 from ⟨j+1,q++(strP 7 kj++p),by simp,by omega,by omega,catP_take HQ.out (by rw [HPL.out];exact hlt) hpn,by simpa only [List.append_assoc] using e2,HF4.out.trans e3⟩)
        clear e2 e3 KV2 hpj hpn
        go_wp2
        go_roundg g
        case rel=>exact HF.out
        case measure=>omega
    · obtain rfl:j=n:=by omega
      have hjz:¬ (j:Int)<(j:Int):=by omega
      have hq:=HQ.out
      rw [List.take_of_length_le (by rw [HPL.out];exact Nat.le_refl _)] at hq
      have HZ:=Lib.hid (show EncP B b l AE W (.returned (.tuple #[])) wr from by
        rw [HAE.out,hq];exact ⟨rfl,HWR.out,HFR.out⟩)
      clear hq
      go_wp2_with fail
      go_end0
      exact HZ.out
theorem riseC_ok {l:List ByteArray} (h:risesB l=true):∀ s∈l,okN s=true:=by
  intro s hs
  obtain ⟨i,hi,rfl⟩:=List.getElem_of_mem hs
  have:=risesB_iff.1 h i hi
  unfold nameAt at this
  rw [Bool.and_eq_true] at this
  have e:l.getD i ByteArray.empty=l[i]:=by simp [List.getD,hi]
  rw [e] at this
  exact this.1
theorem riseC_size {l:List ByteArray} (h:risesB l=true):∀ s∈l,s.size≤2000:=by
  intro s hs
  have:=riseC_ok h s hs
  unfold okN at this
  rw [Bool.and_eq_true,decide_eq_true_eq] at this
  exact this.1
theorem valp_null (B b:Nat) (w0:World) (hBb:B≤b) (h0:w0.heap.size=B) (b0 neg:Bool) (ma:Option Addr) (mn mc:Nat) (e:Int) (s:ByteArray) (ka:Option Addr) (kn kc:Nat) (va:Option Addr) (vn vc:Nat)
    (l:List Nat) (W:World) (h:WrP B b l W) (hw:Below B w0 W) :
    Calls Tryz.prog 55 #[.pointer (some ⟨b,0,none⟩),.agg #[.int .i64 1,.bool b0,.bool neg,.slice ma mn mc,.int .i64 e,.string s,.slice ka kn kc,.slice va vn vc]] W (EncP B b l (some (mput 1 0)) W):=by
  have hbw:=h.lt
  obtain ⟨W1,hW1⟩:∃ x,W.alloc (.cells #[.int .i64 1,.bool b0,.bool neg,.slice ma mn mc,.int .i64 e,.string s,.slice ka kn kc,.slice va vn vc] 29)=x:=⟨_,rfl⟩
  have hb1:Below W.heap.size W W1:=by rw [← hW1];exact (Below.refl _ _).alloc (Nat.le_refl _) _
  have q1:W1.heap[W.heap.size]? = some (.cells #[.int .i64 1,.bool b0,.bool neg,.slice ma mn mc,.int .i64 e,.string s,.slice ka kn kc,.slice va vn vc] 29):=by rw [← hW1];exact heap_alloc_new W _
  have hf1:FrC B b W W1:=FrC.of_below (by omega) hb1
  have hw1:=h.on hb1
  have hbe:Below B w0 W1:=hw.trans hf1.bel
  have hs1:=hb1.size
  have HW1:=Lib.hid hW1;have HF1:=Lib.hid hf1;have HBE:=Lib.hid hbe;have HWR:=Lib.hid hw1
  have KP:=Lib.hid (headp_any B b l 1 0 W1 hw1 (by omega) (by decide) hBb)
  have y0:=(boxC q1 0 _ rfl).1
  have y1:=(boxC q1 1 _ rfl).1
  have y2:=(boxC q1 2 _ rfl).1
  have y3:=(boxC q1 3 _ rfl).1
  have y4:=(boxC q1 4 _ rfl).1
  have y5:=(boxC q1 5 _ rfl).1
  have y6:=(boxC q1 6 _ rfl).1
  have y7:=(boxC q1 7 _ rfl).1
  have hsB:B≤W1.heap.size:=by omega
  have HSB:=Lib.hid hsB
  clear hW1 hb1 hf1 hw1 hbe h hw q1 hsB
  go_enter Tryz.func55,Tryz.ntmps55
  go_wp2_with fail
  rw [HW1.out]
  go_wp2_with fail
  have HFX:=HF1
  refine KP.out.mono ?_
  rintro r w5 ⟨rfl,e2,e3⟩
  have HZ:=Lib.hid (PutP.pre HFX.out ⟨rfl,e2,e3⟩)
  clear e2 e3 KP
  go_wp2
  go_end0
  exact HZ.out
theorem valp_truth (B b:Nat) (w0:World) (hBb:B≤b) (h0:w0.heap.size=B) (b0 neg:Bool) (ma:Option Addr) (mn mc:Nat) (e:Int) (s:ByteArray) (ka:Option Addr) (kn kc:Nat) (va:Option Addr) (vn vc:Nat)
    (l:List Nat) (W:World) (h:WrP B b l W) (hw:Below B w0 W) :
    Calls Tryz.prog 55 #[.pointer (some ⟨b,0,none⟩),.agg #[.int .i64 2,.bool b0,.bool neg,.slice ma mn mc,.int .i64 e,.string s,.slice ka kn kc,.slice va vn vc]] W (EncP B b l (some (truthP b0)) W):=by
  have hbw:=h.lt
  obtain ⟨W1,hW1⟩:∃ x,W.alloc (.cells #[.int .i64 2,.bool b0,.bool neg,.slice ma mn mc,.int .i64 e,.string s,.slice ka kn kc,.slice va vn vc] 29)=x:=⟨_,rfl⟩
  have hb1:Below W.heap.size W W1:=by rw [← hW1];exact (Below.refl _ _).alloc (Nat.le_refl _) _
  have q1:W1.heap[W.heap.size]? = some (.cells #[.int .i64 2,.bool b0,.bool neg,.slice ma mn mc,.int .i64 e,.string s,.slice ka kn kc,.slice va vn vc] 29):=by rw [← hW1];exact heap_alloc_new W _
  have hf1:FrC B b W W1:=FrC.of_below (by omega) hb1
  have hw1:=h.on hb1
  have hbe:Below B w0 W1:=hw.trans hf1.bel
  have hs1:=hb1.size
  have HW1:=Lib.hid hW1;have HF1:=Lib.hid hf1;have HBE:=Lib.hid hbe;have HWR:=Lib.hid hw1
  have KP:=Lib.hid (truthp_any B b l b0 W1 hw1 hBb)
  have y0:=(boxC q1 0 _ rfl).1
  have y1:=(boxC q1 1 _ rfl).1
  have y2:=(boxC q1 2 _ rfl).1
  have y3:=(boxC q1 3 _ rfl).1
  have y4:=(boxC q1 4 _ rfl).1
  have y5:=(boxC q1 5 _ rfl).1
  have y6:=(boxC q1 6 _ rfl).1
  have y7:=(boxC q1 7 _ rfl).1
  have hsB:B≤W1.heap.size:=by omega
  have HSB:=Lib.hid hsB
  clear hW1 hb1 hf1 hw1 hbe h hw q1 hsB
  go_enter Tryz.func55,Tryz.ntmps55
  go_wp2_with fail
  rw [HW1.out]
  go_wp2_with fail
  have HFX:=HF1
  refine KP.out.mono ?_
  rintro r w5 ⟨rfl,e2,e3⟩
  have HZ:=Lib.hid (PutP.pre HFX.out ⟨rfl,e2,e3⟩)
  clear e2 e3 KP
  go_wp2
  go_end0
  exact HZ.out
theorem valp_num (B b:Nat) (w0:World) (hBb:B≤b) (h0:w0.heap.size=B) (b0 neg:Bool) (ma:Option Addr) (mn mc:Nat) (e:Int) (s:ByteArray) (ka:Option Addr) (kn kc:Nat) (va:Option Addr) (vn vc:Nat) (M:List Nat) (hM:M.length=mn) (hMc:mn≤mc) (hMo:Okl M) (hMr:Rd w0 ma M) (hMk:chkB neg M e=true) (hT:DB w0)
    (l:List Nat) (W:World) (h:WrP B b l W) (hw:Below B w0 W) :
    Calls Tryz.prog 55 #[.pointer (some ⟨b,0,none⟩),.agg #[.int .i64 3,.bool b0,.bool neg,.slice ma mn mc,.int .i64 e,.string s,.slice ka kn kc,.slice va vn vc]] W (EncP B b l (numP neg (val M) e) W):=by
  have hbw:=h.lt
  obtain ⟨W1,hW1⟩:∃ x,W.alloc (.cells #[.int .i64 3,.bool b0,.bool neg,.slice ma mn mc,.int .i64 e,.string s,.slice ka kn kc,.slice va vn vc] 29)=x:=⟨_,rfl⟩
  have hb1:Below W.heap.size W W1:=by rw [← hW1];exact (Below.refl _ _).alloc (Nat.le_refl _) _
  have q1:W1.heap[W.heap.size]? = some (.cells #[.int .i64 3,.bool b0,.bool neg,.slice ma mn mc,.int .i64 e,.string s,.slice ka kn kc,.slice va vn vc] 29):=by rw [← hW1];exact heap_alloc_new W _
  have hf1:FrC B b W W1:=FrC.of_below (by omega) hb1
  have hw1:=h.on hb1
  have hbe:Below B w0 W1:=hw.trans hf1.bel
  have hs1:=hb1.size
  have HW1:=Lib.hid hW1;have HF1:=Lib.hid hf1;have HBE:=Lib.hid hbe;have HWR:=Lib.hid hw1
  have hno:NumOk W1 neg ma mn mc M e:=⟨hM,hMc,hMo,hMr.below (by rw [h0];exact hbe:Below w0.heap.size w0 W1),hMk⟩
  have KP:=Lib.hid (numberp_any B b l neg ma mn mc M e W1 hw1 hno (hT.below (by rw [h0];exact hbe:Below w0.heap.size w0 W1)) hBb)
  clear hM hMc hMo hMr hMk hT hno
  generalize numP neg (val M) e=PJ at *
  have y0:=(boxC q1 0 _ rfl).1
  have y1:=(boxC q1 1 _ rfl).1
  have y2:=(boxC q1 2 _ rfl).1
  have y3:=(boxC q1 3 _ rfl).1
  have y4:=(boxC q1 4 _ rfl).1
  have y5:=(boxC q1 5 _ rfl).1
  have y6:=(boxC q1 6 _ rfl).1
  have y7:=(boxC q1 7 _ rfl).1
  have hsB:B≤W1.heap.size:=by omega
  have HSB:=Lib.hid hsB
  clear hW1 hb1 hf1 hw1 hbe h hw q1 hsB
  go_enter Tryz.func55,Tryz.ntmps55
  go_wp2_with fail
  rw [HW1.out]
  go_wp2_with fail
  have HFX:=HF1
  refine KP.out.mono ?_
  intro r w5 hp5
  cases PJ with
  | none =>
    obtain ⟨rfl,hb5⟩:=hp5
    have HZ:=Lib.hid (show Below B W w5 from HFX.out.bel.trans hb5)
    clear hb5 KP
    go_wp2
    exact ⟨rfl,rfl,HZ.out⟩
  | some p =>
    obtain ⟨rfl,e2,e3⟩:=hp5
    have HZ:=Lib.hid (show EncP B b l (some p) W (.returned (.tuple #[])) w5 from PutP.pre HFX.out ⟨rfl,e2,e3⟩)
    clear e2 e3 KP
    go_wp2
    go_end0
    exact HZ.out
theorem valp_text (B b:Nat) (w0:World) (hBb:B≤b) (h0:w0.heap.size=B) (b0 neg:Bool) (ma:Option Addr) (mn mc:Nat) (e:Int) (s:ByteArray) (ka:Option Addr) (kn kc:Nat) (va:Option Addr) (vn vc:Nat) (hz:s.size≤1000000)
    (l:List Nat) (W:World) (h:WrP B b l W) (hw:Below B w0 W) :
    Calls Tryz.prog 55 #[.pointer (some ⟨b,0,none⟩),.agg #[.int .i64 4,.bool b0,.bool neg,.slice ma mn mc,.int .i64 e,.string s,.slice ka kn kc,.slice va vn vc]] W (EncP B b l (some (strP 7 s)) W):=by
  have hbw:=h.lt
  obtain ⟨W1,hW1⟩:∃ x,W.alloc (.cells #[.int .i64 4,.bool b0,.bool neg,.slice ma mn mc,.int .i64 e,.string s,.slice ka kn kc,.slice va vn vc] 29)=x:=⟨_,rfl⟩
  have hb1:Below W.heap.size W W1:=by rw [← hW1];exact (Below.refl _ _).alloc (Nat.le_refl _) _
  have q1:W1.heap[W.heap.size]? = some (.cells #[.int .i64 4,.bool b0,.bool neg,.slice ma mn mc,.int .i64 e,.string s,.slice ka kn kc,.slice va vn vc] 29):=by rw [← hW1];exact heap_alloc_new W _
  have hf1:FrC B b W W1:=FrC.of_below (by omega) hb1
  have hw1:=h.on hb1
  have hbe:Below B w0 W1:=hw.trans hf1.bel
  have hs1:=hb1.size
  have HW1:=Lib.hid hW1;have HF1:=Lib.hid hf1;have HBE:=Lib.hid hbe;have HWR:=Lib.hid hw1
  have KP:=Lib.hid (textp_any B b l 7 s W1 hw1 hz (by omega) hBb)
  rw [show ((7:Nat):Int)=7 from rfl] at KP
  have y0:=(boxC q1 0 _ rfl).1
  have y1:=(boxC q1 1 _ rfl).1
  have y2:=(boxC q1 2 _ rfl).1
  have y3:=(boxC q1 3 _ rfl).1
  have y4:=(boxC q1 4 _ rfl).1
  have y5:=(boxC q1 5 _ rfl).1
  have y6:=(boxC q1 6 _ rfl).1
  have y7:=(boxC q1 7 _ rfl).1
  have hsB:B≤W1.heap.size:=by omega
  have HSB:=Lib.hid hsB
  clear hW1 hb1 hf1 hw1 hbe h hw q1 hsB
  go_enter Tryz.func55,Tryz.ntmps55
  go_wp2_with fail
  rw [HW1.out]
  go_wp2_with fail
  have HFX:=HF1
  refine KP.out.mono ?_
  rintro r w5 ⟨rfl,e2,e3⟩
  have HZ:=Lib.hid (PutP.pre HFX.out ⟨rfl,e2,e3⟩)
  clear e2 e3 KP
  go_wp2
  go_end0
  exact HZ.out
theorem valp_bytes (B b:Nat) (w0:World) (hBb:B≤b) (h0:w0.heap.size=B) (b0 neg:Bool) (ma:Option Addr) (mn mc:Nat) (e:Int) (s:ByteArray) (ka:Option Addr) (kn kc:Nat) (va:Option Addr) (vn vc:Nat) (hz:s.size≤1000000)
    (l:List Nat) (W:World) (h:WrP B b l W) (hw:Below B w0 W) :
    Calls Tryz.prog 55 #[.pointer (some ⟨b,0,none⟩),.agg #[.int .i64 5,.bool b0,.bool neg,.slice ma mn mc,.int .i64 e,.string s,.slice ka kn kc,.slice va vn vc]] W (EncP B b l (some (strP 8 s)) W):=by
  have hbw:=h.lt
  obtain ⟨W1,hW1⟩:∃ x,W.alloc (.cells #[.int .i64 5,.bool b0,.bool neg,.slice ma mn mc,.int .i64 e,.string s,.slice ka kn kc,.slice va vn vc] 29)=x:=⟨_,rfl⟩
  have hb1:Below W.heap.size W W1:=by rw [← hW1];exact (Below.refl _ _).alloc (Nat.le_refl _) _
  have q1:W1.heap[W.heap.size]? = some (.cells #[.int .i64 5,.bool b0,.bool neg,.slice ma mn mc,.int .i64 e,.string s,.slice ka kn kc,.slice va vn vc] 29):=by rw [← hW1];exact heap_alloc_new W _
  have hf1:FrC B b W W1:=FrC.of_below (by omega) hb1
  have hw1:=h.on hb1
  have hbe:Below B w0 W1:=hw.trans hf1.bel
  have hs1:=hb1.size
  have HW1:=Lib.hid hW1;have HF1:=Lib.hid hf1;have HBE:=Lib.hid hbe;have HWR:=Lib.hid hw1
  have KP:=Lib.hid (textp_any B b l 8 s W1 hw1 hz (by omega) hBb)
  rw [show ((8:Nat):Int)=8 from rfl] at KP
  have y0:=(boxC q1 0 _ rfl).1
  have y1:=(boxC q1 1 _ rfl).1
  have y2:=(boxC q1 2 _ rfl).1
  have y3:=(boxC q1 3 _ rfl).1
  have y4:=(boxC q1 4 _ rfl).1
  have y5:=(boxC q1 5 _ rfl).1
  have y6:=(boxC q1 6 _ rfl).1
  have y7:=(boxC q1 7 _ rfl).1
  have hsB:B≤W1.heap.size:=by omega
  have HSB:=Lib.hid hsB
  clear hW1 hb1 hf1 hw1 hbe h hw q1 hsB
  go_enter Tryz.func55,Tryz.ntmps55
  go_wp2_with fail
  rw [HW1.out]
  go_wp2_with fail
  have HFX:=HF1
  refine KP.out.mono ?_
  rintro r w5 ⟨rfl,e2,e3⟩
  have HZ:=Lib.hid (PutP.pre HFX.out ⟨rfl,e2,e3⟩)
  clear e2 e3 KP
  go_wp2
  go_end0
  exact HZ.out
theorem valp_arr (B b:Nat) (w0:World) (hBb:B≤b) (h0:w0.heap.size=B) (b0 neg:Bool) (ma:Option Addr) (mn mc:Nat) (e:Int) (s:ByteArray) (ka:Option Addr) (kn kc:Nat) (va:Option Addr) (vn vc:Nat) (us:List MT) (hn:us.length=vn) (hm:vn≤300) (hr:RdV w0 va (flat (us.map MT.c))) (hV:∀ u∈us,WrVP B b w0 u)
    (l:List Nat) (W:World) (h:WrP B b l W) (hw:Below B w0 W) :
    Calls Tryz.prog 55 #[.pointer (some ⟨b,0,none⟩),.agg #[.int .i64 6,.bool b0,.bool neg,.slice ma mn mc,.int .i64 e,.string s,.slice ka kn kc,.slice va vn vc]] W (EncP B b l (arrP vn (us.map encP)) W):=by
  have hbw:=h.lt
  obtain ⟨W1,hW1⟩:∃ x,W.alloc (.cells #[.int .i64 6,.bool b0,.bool neg,.slice ma mn mc,.int .i64 e,.string s,.slice ka kn kc,.slice va vn vc] 29)=x:=⟨_,rfl⟩
  have hb1:Below W.heap.size W W1:=by rw [← hW1];exact (Below.refl _ _).alloc (Nat.le_refl _) _
  have q1:W1.heap[W.heap.size]? = some (.cells #[.int .i64 6,.bool b0,.bool neg,.slice ma mn mc,.int .i64 e,.string s,.slice ka kn kc,.slice va vn vc] 29):=by rw [← hW1];exact heap_alloc_new W _
  have hf1:FrC B b W W1:=FrC.of_below (by omega) hb1
  have hw1:=h.on hb1
  have hbe:Below B w0 W1:=hw.trans hf1.bel
  have hs1:=hb1.size
  have HW1:=Lib.hid hW1;have HF1:=Lib.hid hf1;have HBE:=Lib.hid hbe;have HWR:=Lib.hid hw1
  have KP:=Lib.hid (arrp_any B b w0 hBb h0 us va vn vc hn hm hr hV l W1 hw1 hbe)
  clear hn hm hr hV
  generalize arrP vn (us.map encP)=PJ at *
  have y0:=(boxC q1 0 _ rfl).1
  have y1:=(boxC q1 1 _ rfl).1
  have y2:=(boxC q1 2 _ rfl).1
  have y3:=(boxC q1 3 _ rfl).1
  have y4:=(boxC q1 4 _ rfl).1
  have y5:=(boxC q1 5 _ rfl).1
  have y6:=(boxC q1 6 _ rfl).1
  have y7:=(boxC q1 7 _ rfl).1
  have hsB:B≤W1.heap.size:=by omega
  have HSB:=Lib.hid hsB
  clear hW1 hb1 hf1 hw1 hbe h hw q1 hsB
  go_enter Tryz.func55,Tryz.ntmps55
  go_wp2_with fail
  rw [HW1.out]
  go_wp2_with fail
  have HFX:=HF1
  refine KP.out.mono ?_
  intro r w5 hp5
  cases PJ with
  | none =>
    obtain ⟨rfl,hb5⟩:=hp5
    have HZ:=Lib.hid (show Below B W w5 from HFX.out.bel.trans hb5)
    clear hb5 KP
    go_wp2
    exact ⟨rfl,rfl,HZ.out⟩
  | some p =>
    obtain ⟨rfl,e2,e3⟩:=hp5
    have HZ:=Lib.hid (show EncP B b l (some p) W (.returned (.tuple #[])) w5 from PutP.pre HFX.out ⟨rfl,e2,e3⟩)
    clear e2 e3 KP
    go_wp2
    go_end0
    exact HZ.out
theorem valp_obj (B b:Nat) (w0:World) (hBb:B≤b) (h0:w0.heap.size=B) (b0 neg:Bool) (ma:Option Addr) (mn mc:Nat) (e:Int) (s:ByteArray) (ka:Option Addr) (kn kc:Nat) (va:Option Addr) (vn vc:Nat) (ks:List ByteArray) (us:List MT) (hk:ks.length=kn) (hkc:kn≤kc) (hkv:kn=vn) (hn:us.length=vn) (hm:vn≤300) (hz:∀ s∈ks,s.size≤2000) (hrk:RdV w0 ka (sv ks)) (hr:RdV w0 va (flat (us.map MT.c))) (hV:∀ u∈us,WrVP B b w0 u)
    (l:List Nat) (W:World) (h:WrP B b l W) (hw:Below B w0 W) :
    Calls Tryz.prog 55 #[.pointer (some ⟨b,0,none⟩),.agg #[.int .i64 7,.bool b0,.bool neg,.slice ma mn mc,.int .i64 e,.string s,.slice ka kn kc,.slice va vn vc]] W (EncP B b l (objP ks (us.map encP)) W):=by
  have hbw:=h.lt
  obtain ⟨W1,hW1⟩:∃ x,W.alloc (.cells #[.int .i64 7,.bool b0,.bool neg,.slice ma mn mc,.int .i64 e,.string s,.slice ka kn kc,.slice va vn vc] 29)=x:=⟨_,rfl⟩
  have hb1:Below W.heap.size W W1:=by rw [← hW1];exact (Below.refl _ _).alloc (Nat.le_refl _) _
  have q1:W1.heap[W.heap.size]? = some (.cells #[.int .i64 7,.bool b0,.bool neg,.slice ma mn mc,.int .i64 e,.string s,.slice ka kn kc,.slice va vn vc] 29):=by rw [← hW1];exact heap_alloc_new W _
  have hf1:FrC B b W W1:=FrC.of_below (by omega) hb1
  have hw1:=h.on hb1
  have hbe:Below B w0 W1:=hw.trans hf1.bel
  have hs1:=hb1.size
  have HW1:=Lib.hid hW1;have HF1:=Lib.hid hf1;have HBE:=Lib.hid hbe;have HWR:=Lib.hid hw1
  subst hkv
  have KP:=Lib.hid (objp_any B b w0 hBb h0 ks ka kc us va kn vc hk hkc hn hm hz hrk hr hV l W1 hw1 hbe)
  clear hn hm hr hV hk hkc hz hrk
  generalize objP ks (us.map encP)=PJ at *
  have y0:=(boxC q1 0 _ rfl).1
  have y1:=(boxC q1 1 _ rfl).1
  have y2:=(boxC q1 2 _ rfl).1
  have y3:=(boxC q1 3 _ rfl).1
  have y4:=(boxC q1 4 _ rfl).1
  have y5:=(boxC q1 5 _ rfl).1
  have y6:=(boxC q1 6 _ rfl).1
  have y7:=(boxC q1 7 _ rfl).1
  have hsB:B≤W1.heap.size:=by omega
  have HSB:=Lib.hid hsB
  clear hW1 hb1 hf1 hw1 hbe h hw q1 hsB
  go_enter Tryz.func55,Tryz.ntmps55
  go_wp2_with fail
  rw [HW1.out]
  go_wp2_with fail
  have HFX:=HF1
  refine KP.out.mono ?_
  intro r w5 hp5
  cases PJ with
  | none =>
    obtain ⟨rfl,hb5⟩:=hp5
    have HZ:=Lib.hid (show Below B W w5 from HFX.out.bel.trans hb5)
    clear hb5 KP
    go_wp2
    exact ⟨rfl,rfl,HZ.out⟩
  | some p =>
    obtain ⟨rfl,e2,e3⟩:=hp5
    have HZ:=Lib.hid (show EncP B b l (some p) W (.returned (.tuple #[])) w5 from PutP.pre HFX.out ⟨rfl,e2,e3⟩)
    clear e2 e3 KP
    go_wp2
    go_end0
    exact HZ.out
theorem valp_any (B b:Nat) (w0:World) (hBb:B≤b) (h0:w0.heap.size=B) (hT:DB w0) (t:MT):Rep w0 t→(∀ s,t.sub s→soundB s=true)→WrVP B b w0 t:=by
  refine MT.ind (P:=fun t=>Rep w0 t→(∀ s,t.sub s→soundB s=true)→WrVP B b w0 t) ?_ t
  intro t ih hR hS l W h hw
  have own:=hR.own
  have hV:∀ u∈t.v,WrVP B b w0 u:=fun u hu=>ih u hu (hR.part hu) (fun s hs=>hS s (MT.sub_v hu hs))
  have hs:=hS t t.sub_refl
  rw [encP_eq]
  obtain ⟨⟨k,b0,neg,ma,mn,mc,e,s,ka,kn,kc,va,vn,vc⟩,M,ks,us⟩:=t
  clear ih hS hR
  unfold soundB at hs
  simp only [MT.c,MT.m,MT.k,MT.v] at hs hV own ⊢
  unfold Cel.val
  obtain ⟨o1,o2,o3,o4,o5,o6,o7,o8,o9,o10,o11,o12,o13,o14,o15⟩:=own
  simp only [MT.c,MT.m,MT.k,MT.v] at o1 o2 o3 o4 o5 o6 o7 o8 o9 o10 o11 o12 o13
  by_cases k1:k=1
  · subst k1
    exact valp_null B b w0 hBb h0 b0 neg ma mn mc e s ka kn kc va vn vc l W h hw
  by_cases k2:k=2
  · subst k2
    exact valp_truth B b w0 hBb h0 b0 neg ma mn mc e s ka kn kc va vn vc l W h hw
  by_cases k3:k=3
  · subst k3
    simp at hs
    exact valp_num B b w0 hBb h0 b0 neg ma mn mc e s ka kn kc va vn vc M o1 o2 o3 o4 hs.1 hT l W h hw
  by_cases k4:k=4
  · subst k4
    simp at hs
    exact valp_text B b w0 hBb h0 b0 neg ma mn mc e s ka kn kc va vn vc (by have:=of_decide_eq_true hs.2.1;omega) l W h hw
  by_cases k5:k=5
  · subst k5
    simp at hs
    exact valp_bytes B b w0 hBb h0 b0 neg ma mn mc e s ka kn kc va vn vc (by have:=of_decide_eq_true hs.1;omega) l W h hw
  by_cases k7:k=7
  · subst k7
    simp at hs
    exact valp_obj B b w0 hBb h0 b0 neg ma mn mc e s ka kn kc va vn vc ks us o5 o6 (of_decide_eq_true hs.1) o8 (of_decide_eq_true hs.2.2.1) (riseC_size hs.2.1) o7 o10 hV l W h hw
  by_cases k6:k=6
  · subst k6
    simp at hs
    have:=valp_arr B b w0 hBb h0 b0 neg ma mn mc e s ka kn kc va vn vc us o8 (of_decide_eq_true hs.1) o10 hV l W h hw
    have e8:arrP us.length (us.map encP)=arrP vn (us.map encP):=by rw [o8]
    rw [← e8] at this
    exact this
  · simp [k1,k2,k3,k4,k5,k7,k6] at hs
end Go.Proofs.YtnacbakcalcgaaaGreatDoor
