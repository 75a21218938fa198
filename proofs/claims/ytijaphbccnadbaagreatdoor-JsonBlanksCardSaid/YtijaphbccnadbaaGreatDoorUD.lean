/- Texts of the claim. -/
import Derived.Test.YtijaphbccnadbaaGreatDoorUC
set_option linter.unusedVariables false
set_option linter.unusedSimpArgs false
set_option maxHeartbeats 8000000
set_option maxRecDepth 100000
namespace Go.Proofs.YtijaphbccnadbaaGreatDoor
open Go.Shelf Go.RowKit
def ObW (B b:Nat) (l:List UInt8) (ps:List (List UInt8)) (n:Nat) (w0 W:World) (g:Nat) (i:Value) (wr:World):Prop :=
  ∃ j,i=.int .i64 ((j:Nat):Int)∧j≤n∧n - j≤g∧WrJ B b (l++123::joinC (ps.take j)) wr∧(l++123::joinC (ps.take j)).length≤32768∧FrW B b W wr
theorem objw_any (B b:Nat) (w0:World) (hBb:B≤b) (h0:w0.heap.size=B) (hU:UT w0) (ks:List ByteArray) (ka:Option Addr) (kc:Nat) (us:List MT) (va:Option Addr) (n cap:Nat) (hk:ks.length=n) (hkc:n≤kc) (hn:us.length=n) (hm:n≤300) (hz:∀ s∈ks,s.size≤2000) (hrk:RdV w0 ka (sv ks)) (hr:RdV w0 va (flat (us.map MT.c))) (hV:∀ u∈us,EncC B b w0 u)
    (l:List UInt8) (W:World) (h:WrJ B b l W) (hl:l.length≤32768) (hw:Below B w0 W) (hbw:b<W.heap.size) :
    Calls Tryz.prog 64 #[.pointer (some ⟨b,0,none⟩),.slice ka n kc,.slice va n cap] W (EncW B b l (objB ks (us.map encJ)) W):=by
  have hBW:B≤W.heap.size:=by omega
  have KP:=Lib.hid (putw_any B b l ⟨#[123]⟩ W h hl (by decide) hBW)
  unfold objB
  have HV:=Lib.hid (fun j (hj:j<us.length)=>hV (us.getD j (leafT 0 false ⟨#[]⟩)) (by simp [List.getD,hj]))
  have HPS:=Lib.hid (fun j (hj:j<us.length)=>(show (List.zipWith mbrB ks (us.map encJ)).getD j []=mbrB (ks.getD j ByteArray.empty) (encJ (us.getD j (leafT 0 false ⟨#[]⟩))) by
    have hj2:j<ks.length:=by omega
    have hz:j<(List.zipWith mbrB ks (us.map encJ)).length:=by simp;omega
    rw [List.getD_eq_getElem?_getD,List.getElem?_eq_getElem hz]
    simp [List.getD,hj,hj2]))
  have HPL:=Lib.hid (show (List.zipWith mbrB ks (us.map encJ)).length=n by simp [hk,hn])
  have HLEN:=Lib.hid (joinC_le (List.zipWith mbrB ks (us.map encJ)))
  have HTAKE:=Lib.hid (joinC_take (List.zipWith mbrB ks (us.map encJ)))
  have HRD:=Lib.hid (fun W' (hw':Below B w0 W')=>hr.on (by rw [h0];exact hw':Below w0.heap.size w0 W'))
  have HRK:=Lib.hid (fun W' (hw':Below B w0 W')=>hrk.on (by rw [h0];exact hw':Below w0.heap.size w0 W'))
  have HUT:=Lib.hid (fun W' (hw':Below B w0 W')=>hU.below (by rw [h0];exact hw':Below w0.heap.size w0 W'))
  have HN:=Lib.hid hn
  have HK:=Lib.hid hk
  have HZ0:=Lib.hid hz
  have HW:=Lib.hid hw
  clear hr hV h hw hn hrk hU hk hz
  generalize List.zipWith mbrB ks (us.map encJ)=ps at *
  go_enter Tryz.func64,Tryz.ntmps64
  go_wp2_with fail
  refine KP.out.mono ?_
  intro r w1 hp
  rcases hp with ⟨h1,rfl,h2,h3⟩ | ⟨h1,rfl,h2⟩
  · have HST:=Lib.hid (show ObW B b l ps n w0 W n (.int .i64 ((0:Nat):Int)) w1 from ⟨0,rfl,Nat.zero_le _,by omega,by simpa [joinC] using h2,by simpa [joinC] using h1,h3⟩)
    clear h1 h2 h3 KP
    go_wp2
    go_loopg [12] n (fun g i wr=>ObW B b l ps n w0 W g i wr)
    case atStart=>exact HST.out
    case round =>
      clear HST
      obtain ⟨j,rfl,hjn,hgj,hwr,hlen,hfr⟩:=hrel
      have HWR:=Lib.hid hwr;have HFR:=Lib.hid hfr;have HLJ:=Lib.hid hlen
      clear hwr hfr hlen
      by_cases hlt:j<n
      · obtain ⟨g,rfl⟩:∃ g,gk=g+1:=⟨gk - 1,by omega⟩
        have hltz:(j:Int)<(n:Int):=by omega
        have hju:j<us.length:=by have:=HN.out;omega
        have hjk:j<ks.length:=by have:=HK.out;omega
        have hj6:(j:Int)≤300:=by omega
        have hrd:=HRD.out wr (HW.out.trans HFR.out.bel)
        obtain ⟨xbk,xo,rfl,hxl⟩:=hrd.shape (by rw [flat_len,List.length_map];omega)
        have hxx:=flat_at hrd j (by rw [List.length_map];omega) (c:=(us.getD j (leafT 0 false ⟨#[]⟩)).c) (getD_mapc hju _)
        have hrk:=HRK.out wr (HW.out.trans HFR.out.bel)
        obtain ⟨kb,ko,rfl,hkl⟩:=hrk.shape (by rw [sv_len];omega)
        have HRK2:=Lib.hid (fun W' (hw':Below B w0 W')=>(show W'.cell? ⟨kb,ko+j,none⟩=some (.string (ks.getD j ByteArray.empty)) from by
          obtain ⟨b',o',e',_,hc⟩:=HRK.out W' hw' j (by rw [sv_len];exact hjk)
          cases e'
          rw [hc,sv_get _ _ hjk]))
        have hksz:(ks.getD j ByteArray.empty).size≤2000:=HZ0.out _ (by simp [List.getD,hjk])
        have KV:=Lib.hid (HV.out j hju)
        have HT:=Lib.hid (HTAKE.out j (by have:=HPL.out;omega))
        have hT:=HT.out
        rw [HPS.out j hju] at hT
        unfold mbrB at hT
        have hle:=HLEN.out (n - (j+1)) (j+1) (by have:=HPL.out;omega)
        rw [hT] at hle
        have HTT:=Lib.hid hT
        have HLE:=Lib.hid hle
        unfold EncC at KV
        clear hT hle HT
        generalize encJ (us.getD j (leafT 0 false ⟨#[]⟩))=pj at *
        generalize ks.getD j ByteArray.empty=kj at *
        generalize (us.getD j (leafT 0 false ⟨#[]⟩)).c=cx at KV hxx
        obtain ⟨xk,xb,xneg,xma,xmn,xmc,xe,xs,xka,xkn,xkc,xva,xvn,xvc⟩:=cx
        unfold Cel.val at KV
        obtain ⟨x0,x1,x2,x3,x4,x5,x6,x7⟩:=hxx
        try simp only at x0 x1 x2 x3 x4 x5 x6 x7
        obtain ⟨W3,hW3⟩:∃ x,wr.alloc (.cells #[.int .i64 xk,.bool xb,.bool xneg,.slice xma xmn xmc,.int .i64 xe,.string xs,.slice xka xkn xkc,.slice xva xvn xvc] 28)=x:=⟨_,rfl⟩
        have hb3:Below wr.heap.size wr W3:=by rw [← hW3];exact (Below.refl _ _).alloc (Nat.le_refl _) _
        have q3:W3.heap[wr.heap.size]? = some (.cells #[.int .i64 xk,.bool xb,.bool xneg,.slice xma xmn xmc,.int .i64 xe,.string xs,.slice xka xkn xkc,.slice xva xvn xvc] 28):=by rw [← hW3];exact heap_alloc_new wr _
        have hbr:b<wr.heap.size:=Nat.lt_of_lt_of_le hbw HFR.out.size
        have hf3:FrW B b W W3:=HFR.out.trans (FrW.of_below (by omega) hb3)
        have hs3:=hb3.size
        have KC:=Lib.hid (comma_any B b j _ W3 (HWR.out.on hb3) HLJ.out (by omega) (by omega))
        have HF3:=Lib.hid hf3;have HQ3:=Lib.hid q3;have HW3:=Lib.hid hW3
        have hneb:wr.heap.size ≠ b:=by omega
        clear hrd hb3 q3 hf3 hW3 hrk
        go_wp2_with fail
        rw [HW3.out]
        go_wp2_with fail
        refine KC.out.mono ?_
        intro r w4 hp4
        rcases hp4 with ⟨e1,rfl,e2,e3⟩ | ⟨e1,rfl,e2⟩
        · have q4:=e3.box HQ3.out hneb
          have HQ4:=Lib.hid q4
          have HF4:=Lib.hid (HF3.out.trans e3)
          have HE4:=Lib.hid e2
          have hl4:((l++123::joinC (ps.take j))++cmaL j).length≤32768:=by rw [List.length_append];exact e1
          have hs4:=e3.size
          have kn:=HRK2.out w4 (HW.out.trans HF4.out.bel)
          have KQ:=Lib.hid (quote_any kj w4 (by omega) (HUT.out w4 (HW.out.trans HF4.out.bel)))
          have HB4:=Lib.hid (show B≤w4.heap.size by omega)
          clear q4 e1 e2 e3 KC
          go_wp2_with fail
          refine KQ.out.mono ?_
          rintro r w5 ⟨rfl,hb5⟩
          have q5:=(hb5.block _ (Array.getElem?_eq_some_iff.1 HQ4.out).1).trans HQ4.out
          have hf5:=HF4.out.trans (FrW.of_below HB4.out hb5)
          have hs5:=hb5.size
          have h8:kj.data.toList.length=kj.size:=by rw [Array.length_toList];rfl
          have hqs:(⟨(quoteL kj.data.toList).toArray⟩:ByteArray).size≤1000000:=by rw [str_size];have h9:=quoteL_len kj.data.toList;omega
          have KP5:=Lib.hid (putw_any B b _ ⟨(quoteL kj.data.toList).toArray⟩ w5 (HE4.out.on hb5) hl4 hqs (by omega))
          have HQ5:=Lib.hid q5;have HF5:=Lib.hid hf5
          clear q5 hf5 hb5 kn KQ hl4 h8 hqs
          go_wp2_with fail
          refine KP5.out.mono ?_
          intro r w6 hp6
          rcases hp6 with ⟨e1,rfl,e2,e3⟩ | ⟨e1,rfl,e2⟩
          · have q6:=e3.box HQ5.out hneb
            have HQ6:=Lib.hid q6
            have HF6:=Lib.hid (HF5.out.trans e3)
            have hl6:=e1
            have hs6:=e3.size
            have KP6:=Lib.hid (putw_any B b _ ⟨#[58]⟩ w6 e2 (by rw [List.length_append];exact e1) (by decide) (by omega))
            clear q6 e1 e2 e3 KP5
            go_wp2_with fail
            refine KP6.out.mono ?_
            intro r w7 hp7
            rcases hp7 with ⟨e1,rfl,e2,e3⟩ | ⟨e1,rfl,e2⟩
            · have q7:=e3.box HQ6.out hneb
              have HF7:=Lib.hid (HF6.out.trans e3)
              have KV2:=Lib.hid (KV.out _ w7 e2 (by rw [List.length_append];exact e1) (HW.out.trans HF7.out.bel) (by have:=e3.size;omega))
              have y0:=(box_cellsJ q7 0 _ rfl).1
              have y1:=(box_cellsJ q7 1 _ rfl).1
              have y2:=(box_cellsJ q7 2 _ rfl).1
              have y3:=(box_cellsJ q7 3 _ rfl).1
              have y4:=(box_cellsJ q7 4 _ rfl).1
              have y5:=(box_cellsJ q7 5 _ rfl).1
              have y6:=(box_cellsJ q7 6 _ rfl).1
              have y7:=(box_cellsJ q7 7 _ rfl).1
              clear q7 e1 e2 e3 KP6 KV hl6
              go_wp2_with fail
              refine KV2.out.mono ?_
              intro r w8 hp8
              rcases hp8 with ⟨e1,rfl,e2,e3⟩ | ⟨e1,rfl,e2⟩
              · have hT:=HTT.out
                have HF:=Lib.hid (show ObW B b l ps n w0 W g (.int .i64 ((j:Int)+1)) w8 from ⟨j+1,by simp,by omega,by omega,by rw [hT];simpa using e2,by rw [hT];simp only [List.length_append,List.length_cons] at e1 ⊢;simp at e1 ⊢;omega,HF7.out.trans e3⟩)
                clear e1 e2 e3 KV2 hT
                go_wp2
                go_roundg g
                case rel=>exact HF.out
                case measure=>omega
              · have HZ:=Lib.hid (EncW.bad (B:=B) (b:=b) (l:=l) (p:=123::(joinC ps++[125])) e1 (by have hle:=HLE.out;simp only [List.length_append,List.length_cons] at hle ⊢;simp at hle ⊢;omega) (HF7.out.bel.trans e2))
                clear e1 e2 KV2
                go_wp2
                exact ⟨rfl,HZ.out⟩
            · have HZ:=Lib.hid (EncW.bad (B:=B) (b:=b) (l:=l) (p:=123::(joinC ps++[125])) e1 (by have hle:=HLE.out;simp only [List.length_append,List.length_cons] at hle ⊢;simp at hle ⊢;omega) (HF6.out.bel.trans e2))
              clear e1 e2 KP6 KV
              go_wp2
              exact ⟨rfl,HZ.out⟩
          · have HZ:=Lib.hid (EncW.bad (B:=B) (b:=b) (l:=l) (p:=123::(joinC ps++[125])) e1 (by have hle:=HLE.out;simp only [List.length_append,List.length_cons] at hle ⊢;simp at hle ⊢;omega) (HF5.out.bel.trans e2))
            clear e1 e2 KP5 KV
            go_wp2
            exact ⟨rfl,HZ.out⟩
        · have HZ:=Lib.hid (EncW.bad (B:=B) (b:=b) (l:=l) (p:=123::(joinC ps++[125])) e1 (by have hle:=HLE.out;simp only [List.length_append,List.length_cons] at hle ⊢;simp at hle ⊢;omega) (HF3.out.bel.trans e2))
          clear e1 e2 KC KV
          go_wp2
          exact ⟨rfl,HZ.out⟩
      · obtain rfl:j=n:=by omega
        have hjz:¬ (j:Int)<(j:Int):=by omega
        have hbr:b<wr.heap.size:=Nat.lt_of_lt_of_le hbw HFR.out.size
        have KP:=Lib.hid (putw_any B b _ ⟨#[125]⟩ wr HWR.out HLJ.out (by decide) (by omega))
        have hall:ps.take j=ps:=List.take_of_length_le (by have:=HPL.out;omega)
        go_wp2_with fail
        refine KP.out.mono ?_
        intro r w5 hp5
        rw [hall] at hp5
        rcases hp5 with ⟨e1,rfl,e2,e3⟩ | ⟨e1,rfl,e2⟩
        · have HZ:=Lib.hid (show EncW B b l (123::(joinC ps++[125])) W (.returned (.tuple #[])) w5 from .inl ⟨by simp only [List.length_append,List.length_cons] at e1 ⊢;simp at e1 ⊢;omega,rfl,by simpa using e2,HFR.out.trans e3⟩)
          clear e1 e2 e3 KP
          go_wp2
          go_end0
          exact HZ.out
        · have HZ:=Lib.hid (EncW.bad (B:=B) (b:=b) (l:=l) (p:=123::(joinC ps++[125])) e1 (by simp only [List.length_append,List.length_cons];simp;omega) (HFR.out.bel.trans e2))
          clear e1 e2 KP
          go_wp2
          exact ⟨rfl,HZ.out⟩
  · have HZ:=Lib.hid (EncW.bad (B:=B) (b:=b) (l:=l) (p:=123::(joinC ps++[125])) h1 (by simp) h2)
    clear h1 h2 KP
    go_wp2
    exact ⟨rfl,HZ.out⟩
end Go.Proofs.YtijaphbccnadbaaGreatDoor
