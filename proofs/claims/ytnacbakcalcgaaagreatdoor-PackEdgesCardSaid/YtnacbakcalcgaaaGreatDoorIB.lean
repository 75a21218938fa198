/- Texts of the claim. -/
import Derived.Test.YtnacbakcalcgaaaGreatDoorIA
set_option linter.unusedVariables false
set_option linter.unusedSimpArgs false
set_option maxHeartbeats 8000000
set_option maxRecDepth 100000
namespace Go.Proofs.YtnacbakcalcgaaaGreatDoor
open Go.RowKit Go.Lib Go.Sort
theorem ValP.on {w0:World} {g d d0 n0:Nat} {l:List Nat} {r:RC MT} {w w1 w':World} {e:Ending} (h:StP w0 g l d0 n0 w w1) (hs:w.heap.size≤w1.heap.size) (h2:ValP w0 g d r w1 e w'):ValP w0 g d r w e w':=by
  unfold ValP at *
  cases r with
  | inr x=>exact ThrowP.on h h2
  | inl p =>
    obtain ⟨t',h3,h4,h5,h6⟩:=h2
    exact ⟨t',h3,h4,h5.to (Nat.le_refl _) (fun _ _ _=>rfl) (fun k _ (h:k<w.heap.size)=>Nat.lt_of_lt_of_le h hs) (fun _ h=>h),h.trans h6⟩
theorem ValN.valP {w0:World} {g d n:Nat} {l:List Nat} {r:MT ⊕ Int} {w w':World} {e:Ending} (hr:RdP w0 g l d n w) (h:ValN w r e w'):ValP w0 g d (liftN n l r) w e w':=by
  unfold ValN at h
  unfold ValP
  cases r with
  | inr x=>exact ⟨h.1,_,_,_,StP.of_below hr h.2⟩
  | inl t =>
    obtain ⟨t',h3,h4,h5,h6⟩:=h
    exact ⟨t',h3,h4,h5,StP.of_below hr h6⟩
def txtW (kd:Int) (n:Nat):(List Nat × List Nat) ⊕ Int→RC MT
  | .inr x=>.inr x
  | .inl (s,r)=>.inl (leafT kd false (strB s),r,n)
structure BhP (w0:World) (g d n:Nat) (l:List Nat) (m k:Nat) (w W1:World):Prop where
  st:StP w0 g l d n w W1
  g:g<w.heap.size
  low:w0.heap.size≤w.heap.size
  q0:W1.heap[w.heap.size]? = some (.cells #[.int .i64 (m:Int),.int .u64 (k:Int)] 129)
  q1:W1.heap[w.heap.size+1]? = some (.cells #[.int .i64 0,.bool false,.bool false,.slice none 0 0,.int .i64 0,.string ⟨#[]⟩,.slice none 0 0,.slice none 0 0] 29)
  sz:W1.heap.size=w.heap.size+2
theorem bhP_new {w0:World} {g d n:Nat} {l:List Nat} {w:World} (hr:RdP w0 g l d n w) (m k:Nat):BhP w0 g d n l m k w ((w.alloc (.cells #[.int .i64 (m:Int),.int .u64 (k:Int)] 129)).alloc (.cells #[.int .i64 0,.bool false,.bool false,.slice none 0 0,.int .i64 0,.string ⟨#[]⟩,.slice none 0 0,.slice none 0 0] 29)):=by
  refine ⟨StP.of_below hr (((Below.refl _ _).alloc (Nat.le_refl _) _).alloc (by simp) _),hr.lt,hr.env.size,(Below.heap_alloc _ _ _ (by simp)).trans (heap_alloc_new w _),?_,by simp⟩
  have:=heap_alloc_new (w.alloc (.cells #[.int .i64 (m:Int),.int .u64 (k:Int)] 129)) (.cells #[.int .i64 0,.bool false,.bool false,.slice none 0 0,.int .i64 0,.string ⟨#[]⟩,.slice none 0 0,.slice none 0 0] 29)
  simpa using this
theorem behind_nil {w0:World} {g d:Nat} {l:List Nat} {n:Nat} {w:World} (hr:RdP w0 g l d n w) (k:Nat) :
    Calls Tryz.prog 98 #[.pointer (some ⟨g,0,none⟩),hmV (1,k)] w (ValP w0 g d (.inl (leafT 1 false ⟨#[]⟩,l,n)) w):=by
  obtain ⟨W1,hW1⟩:∃ x,(w.alloc (.cells #[.int .i64 1,.int .u64 (k:Int)] 129)).alloc (.cells #[.int .i64 0,.bool false,.bool false,.slice none 0 0,.int .i64 0,.string ⟨#[]⟩,.slice none 0 0,.slice none 0 0] 29)=x:=⟨_,rfl⟩
  have HB:=Lib.hid (show BhP w0 g d n l 1 k w W1 by rw [← hW1];exact bhP_new hr 1 k)
  have HW1:=Lib.hid hW1
  have x0:W1.cell? ⟨w.heap.size,0,none⟩=some (.int .i64 1):=cellOf HB.out.q0 0 rfl
  have x1:W1.cell? ⟨w.heap.size,1,none⟩=some (.int .u64 (k:Int)):=cellOf HB.out.q0 1 rfl
  have HGN:=Lib.hid (show w.heap.size+1 ≠ g by have:=HB.out.g;omega)
  have HFIN:=Lib.hid (val_finP HB.out.st (t':=leafT 1 false ⟨#[]⟩) (b:=w.heap.size+1) (z:=w.heap.size+2) (by omega) HGN.out (by have:=HB.out.low;omega) (by omega) (fun W _ _=>leafT_rep W 1 false ⟨#[]⟩ (by decide) (by decide)) (.int .i64 1) (.bool false) (.bool false) (.slice none 0 0) (.int .i64 0) (.string ⟨#[]⟩) (.slice none 0 0) (.slice none 0 0))
  have hq1:=HB.out.q1
  have y0:W1.cell? ⟨w.heap.size+1,0,none⟩=some (.int .i64 0):=cellOf hq1 0 rfl
  have z0:=freeOf hq1 0
  have y1:W1.cell? ⟨w.heap.size+1,1,none⟩=some (.bool false):=cellOf hq1 1 rfl
  have z1:=freeOf hq1 1
  have y2:W1.cell? ⟨w.heap.size+1,2,none⟩=some (.bool false):=cellOf hq1 2 rfl
  have z2:=freeOf hq1 2
  have y3:W1.cell? ⟨w.heap.size+1,3,none⟩=some (.slice none 0 0):=cellOf hq1 3 rfl
  have z3:=freeOf hq1 3
  have y4:W1.cell? ⟨w.heap.size+1,4,none⟩=some (.int .i64 0):=cellOf hq1 4 rfl
  have z4:=freeOf hq1 4
  have y5:W1.cell? ⟨w.heap.size+1,5,none⟩=some (.string ⟨#[]⟩):=cellOf hq1 5 rfl
  have z5:=freeOf hq1 5
  have y6:W1.cell? ⟨w.heap.size+1,6,none⟩=some (.slice none 0 0):=cellOf hq1 6 rfl
  have z6:=freeOf hq1 6
  have y7:W1.cell? ⟨w.heap.size+1,7,none⟩=some (.slice none 0 0):=cellOf hq1 7 rfl
  have z7:=freeOf hq1 7
  clear hq1
  clear hr hW1
  change Calls _ _ #[.pointer (some ⟨g,0,none⟩),.agg #[.int .i64 1,.int .u64 (k:Int)]] _ _
  go_enter Tryz.func98,Tryz.ntmps98
  go_upto_region 1 with fail
  rw [HW1.out]
  go_wp2_with fail
  refine bodyPost_ret (v:=.agg #[.int .i64 1,.bool false,.bool false,.slice none 0 0,.int .i64 0,.string ⟨#[]⟩,.slice none 0 0,.slice none 0 0]) (by simp [results,Tryz.results98,go_sem,y0,y1,y2,y3,y4,y5,y6,y7]) rfl ?_
  exact ValP.yes (leafT 1 false ⟨#[]⟩) rfl rfl (by rw [MT.bare_eq];rfl) HFIN.out.1 HFIN.out.2
theorem behind_false {w0:World} {g d:Nat} {l:List Nat} {n:Nat} {w:World} (hr:RdP w0 g l d n w) (k:Nat) :
    Calls Tryz.prog 98 #[.pointer (some ⟨g,0,none⟩),hmV (2,k)] w (ValP w0 g d (.inl (leafT 2 false ⟨#[]⟩,l,n)) w):=by
  obtain ⟨W1,hW1⟩:∃ x,(w.alloc (.cells #[.int .i64 2,.int .u64 (k:Int)] 129)).alloc (.cells #[.int .i64 0,.bool false,.bool false,.slice none 0 0,.int .i64 0,.string ⟨#[]⟩,.slice none 0 0,.slice none 0 0] 29)=x:=⟨_,rfl⟩
  have HB:=Lib.hid (show BhP w0 g d n l 2 k w W1 by rw [← hW1];exact bhP_new hr 2 k)
  have HW1:=Lib.hid hW1
  have x0:W1.cell? ⟨w.heap.size,0,none⟩=some (.int .i64 2):=cellOf HB.out.q0 0 rfl
  have x1:W1.cell? ⟨w.heap.size,1,none⟩=some (.int .u64 (k:Int)):=cellOf HB.out.q0 1 rfl
  have HGN:=Lib.hid (show w.heap.size+1 ≠ g by have:=HB.out.g;omega)
  have HFIN:=Lib.hid (val_finP HB.out.st (t':=leafT 2 false ⟨#[]⟩) (b:=w.heap.size+1) (z:=w.heap.size+2) (by omega) HGN.out (by have:=HB.out.low;omega) (by omega) (fun W _ _=>leafT_rep W 2 false ⟨#[]⟩ (by decide) (by decide)) (.int .i64 2) (.bool false) (.bool false) (.slice none 0 0) (.int .i64 0) (.string ⟨#[]⟩) (.slice none 0 0) (.slice none 0 0))
  have hq1:=HB.out.q1
  have y0:W1.cell? ⟨w.heap.size+1,0,none⟩=some (.int .i64 0):=cellOf hq1 0 rfl
  have z0:=freeOf hq1 0
  have y1:W1.cell? ⟨w.heap.size+1,1,none⟩=some (.bool false):=cellOf hq1 1 rfl
  have z1:=freeOf hq1 1
  have y2:W1.cell? ⟨w.heap.size+1,2,none⟩=some (.bool false):=cellOf hq1 2 rfl
  have z2:=freeOf hq1 2
  have y3:W1.cell? ⟨w.heap.size+1,3,none⟩=some (.slice none 0 0):=cellOf hq1 3 rfl
  have z3:=freeOf hq1 3
  have y4:W1.cell? ⟨w.heap.size+1,4,none⟩=some (.int .i64 0):=cellOf hq1 4 rfl
  have z4:=freeOf hq1 4
  have y5:W1.cell? ⟨w.heap.size+1,5,none⟩=some (.string ⟨#[]⟩):=cellOf hq1 5 rfl
  have z5:=freeOf hq1 5
  have y6:W1.cell? ⟨w.heap.size+1,6,none⟩=some (.slice none 0 0):=cellOf hq1 6 rfl
  have z6:=freeOf hq1 6
  have y7:W1.cell? ⟨w.heap.size+1,7,none⟩=some (.slice none 0 0):=cellOf hq1 7 rfl
  have z7:=freeOf hq1 7
  clear hq1
  clear hr hW1
  change Calls _ _ #[.pointer (some ⟨g,0,none⟩),.agg #[.int .i64 2,.int .u64 (k:Int)]] _ _
  go_enter Tryz.func98,Tryz.ntmps98
  go_upto_region 1 with fail
  rw [HW1.out]
  go_wp2_with fail
  refine bodyPost_ret (v:=.agg #[.int .i64 2,.bool false,.bool false,.slice none 0 0,.int .i64 0,.string ⟨#[]⟩,.slice none 0 0,.slice none 0 0]) (by simp [results,Tryz.results98,go_sem,y0,y1,y2,y3,y4,y5,y6,y7]) rfl ?_
  exact ValP.yes (leafT 2 false ⟨#[]⟩) rfl rfl (by rw [MT.bare_eq];rfl) HFIN.out.1 HFIN.out.2
theorem behind_true {w0:World} {g d:Nat} {l:List Nat} {n:Nat} {w:World} (hr:RdP w0 g l d n w) (k:Nat) :
    Calls Tryz.prog 98 #[.pointer (some ⟨g,0,none⟩),hmV (3,k)] w (ValP w0 g d (.inl (leafT 2 true ⟨#[]⟩,l,n)) w):=by
  obtain ⟨W1,hW1⟩:∃ x,(w.alloc (.cells #[.int .i64 3,.int .u64 (k:Int)] 129)).alloc (.cells #[.int .i64 0,.bool false,.bool false,.slice none 0 0,.int .i64 0,.string ⟨#[]⟩,.slice none 0 0,.slice none 0 0] 29)=x:=⟨_,rfl⟩
  have HB:=Lib.hid (show BhP w0 g d n l 3 k w W1 by rw [← hW1];exact bhP_new hr 3 k)
  have HW1:=Lib.hid hW1
  have x0:W1.cell? ⟨w.heap.size,0,none⟩=some (.int .i64 3):=cellOf HB.out.q0 0 rfl
  have x1:W1.cell? ⟨w.heap.size,1,none⟩=some (.int .u64 (k:Int)):=cellOf HB.out.q0 1 rfl
  have HGN:=Lib.hid (show w.heap.size+1 ≠ g by have:=HB.out.g;omega)
  have HFIN:=Lib.hid (val_finP HB.out.st (t':=leafT 2 true ⟨#[]⟩) (b:=w.heap.size+1) (z:=w.heap.size+2) (by omega) HGN.out (by have:=HB.out.low;omega) (by omega) (fun W _ _=>leafT_rep W 2 true ⟨#[]⟩ (by decide) (by decide)) (.int .i64 2) (.bool true) (.bool false) (.slice none 0 0) (.int .i64 0) (.string ⟨#[]⟩) (.slice none 0 0) (.slice none 0 0))
  have hq1:=HB.out.q1
  have y0:W1.cell? ⟨w.heap.size+1,0,none⟩=some (.int .i64 0):=cellOf hq1 0 rfl
  have z0:=freeOf hq1 0
  have y1:W1.cell? ⟨w.heap.size+1,1,none⟩=some (.bool false):=cellOf hq1 1 rfl
  have z1:=freeOf hq1 1
  have y2:W1.cell? ⟨w.heap.size+1,2,none⟩=some (.bool false):=cellOf hq1 2 rfl
  have z2:=freeOf hq1 2
  have y3:W1.cell? ⟨w.heap.size+1,3,none⟩=some (.slice none 0 0):=cellOf hq1 3 rfl
  have z3:=freeOf hq1 3
  have y4:W1.cell? ⟨w.heap.size+1,4,none⟩=some (.int .i64 0):=cellOf hq1 4 rfl
  have z4:=freeOf hq1 4
  have y5:W1.cell? ⟨w.heap.size+1,5,none⟩=some (.string ⟨#[]⟩):=cellOf hq1 5 rfl
  have z5:=freeOf hq1 5
  have y6:W1.cell? ⟨w.heap.size+1,6,none⟩=some (.slice none 0 0):=cellOf hq1 6 rfl
  have z6:=freeOf hq1 6
  have y7:W1.cell? ⟨w.heap.size+1,7,none⟩=some (.slice none 0 0):=cellOf hq1 7 rfl
  have z7:=freeOf hq1 7
  clear hq1
  clear hr hW1
  change Calls _ _ #[.pointer (some ⟨g,0,none⟩),.agg #[.int .i64 3,.int .u64 (k:Int)]] _ _
  go_enter Tryz.func98,Tryz.ntmps98
  go_upto_region 1 with fail
  rw [HW1.out]
  go_wp2_with fail
  refine bodyPost_ret (v:=.agg #[.int .i64 2,.bool true,.bool false,.slice none 0 0,.int .i64 0,.string ⟨#[]⟩,.slice none 0 0,.slice none 0 0]) (by simp [results,Tryz.results98,go_sem,y0,y1,y2,y3,y4,y5,y6,y7]) rfl ?_
  exact ValP.yes (leafT 2 true ⟨#[]⟩) rfl rfl (by rw [MT.bare_eq];rfl) HFIN.out.1 HFIN.out.2
theorem behind_uint {w0:World} {g d:Nat} {l:List Nat} {n:Nat} {w:World} (hr:RdP w0 g l d n w) (k:Nat) (hk:k<18446744073709551616) (R:RC MT) (hRR:liftN n l (.inl (pkNum false k))=R) :
    Calls Tryz.prog 98 #[.pointer (some ⟨g,0,none⟩),hmV (4,k)] w (ValP w0 g d R w):=by
  have HRR:=Lib.hid hRR
  clear hRR
  obtain ⟨W1,hW1⟩:∃ x,(w.alloc (.cells #[.int .i64 4,.int .u64 (k:Int)] 129)).alloc (.cells #[.int .i64 0,.bool false,.bool false,.slice none 0 0,.int .i64 0,.string ⟨#[]⟩,.slice none 0 0,.slice none 0 0] 29)=x:=⟨_,rfl⟩
  have HB:=Lib.hid (show BhP w0 g d n l 4 k w W1 by rw [← hW1];exact bhP_new hr 4 k)
  have HW1:=Lib.hid hW1
  have y0:W1.cell? ⟨w.heap.size,0,none⟩=some (.int .i64 4):=cellOf HB.out.q0 0 rfl
  have y1:W1.cell? ⟨w.heap.size,1,none⟩=some (.int .u64 (k:Int)):=cellOf HB.out.q0 1 rfl
  have HGN:=Lib.hid (show w.heap.size+1 ≠ g by have:=HB.out.g;omega)
  have KV:=Lib.hid (((whole_pk false k hk W1:Calls Tryz.prog _ _ W1 (ValN W1 (.inl (pkNum false k))))).mono (fun _ _ h=>ValN.valP (d:=d) HB.out.st.rd h))
  rw [HRR.out] at KV
  clear hr hW1
  change Calls _ _ #[.pointer (some ⟨g,0,none⟩),.agg #[.int .i64 4,.int .u64 (k:Int)]] _ _
  go_enter Tryz.func98,Tryz.ntmps98
  go_upto_region 1 with fail
  rw [HW1.out]
  go_wp2_with fail
  refine KV.out.mono ?_
  intro r w2 hp
  cases R with
  | inr x =>
    obtain ⟨rfl,l',d',n',h2⟩:=hp
    have H3:=Lib.hid (HB.out.st.trans h2)
    clear h2 KV
    go_wp2_with fail
    exact ⟨rfl,ValP.no rfl (ThrowP.mk H3.out)⟩
  | inl q =>
    obtain ⟨t,l2,n2⟩:=q
    obtain ⟨t',rfl,hbare,hind,h2⟩:=hp
    have HST:=Lib.hid (HB.out.st.trans h2)
    have HBX:=Lib.hid ((h2.oth.block (w.heap.size+1) (by have:=HB.out.sz;omega) HGN.out).trans HB.out.q1)
    have HIN:=Lib.hid hind
    have HBA:=Lib.hid hbare
    have HZ:=Lib.hid (show w.heap.size+1<W1.heap.size by have:=HB.out.sz;omega)
    have HLO:=Lib.hid HB.out.low
    clear h2 hind hbare KV
    generalize hc:t'.c=c at *
    obtain ⟨k0,b0,ng,ma,mn,mc,ex,st,ka,kn,kc,va,vn,vc⟩:=c
    have HC:=Lib.hid hc
    clear hc
    unfold Cel.val
    have hq:=HBX.out
    clear y0 y1
    have y0:w2.cell? ⟨w.heap.size+1,0,none⟩=some (.int .i64 0):=cellOf hq 0 rfl
    have z0:=freeOf hq 0
    have y1:w2.cell? ⟨w.heap.size+1,1,none⟩=some (.bool false):=cellOf hq 1 rfl
    have z1:=freeOf hq 1
    have y2:w2.cell? ⟨w.heap.size+1,2,none⟩=some (.bool false):=cellOf hq 2 rfl
    have z2:=freeOf hq 2
    have y3:w2.cell? ⟨w.heap.size+1,3,none⟩=some (.slice none 0 0):=cellOf hq 3 rfl
    have z3:=freeOf hq 3
    have y4:w2.cell? ⟨w.heap.size+1,4,none⟩=some (.int .i64 0):=cellOf hq 4 rfl
    have z4:=freeOf hq 4
    have y5:w2.cell? ⟨w.heap.size+1,5,none⟩=some (.string ⟨#[]⟩):=cellOf hq 5 rfl
    have z5:=freeOf hq 5
    have y6:w2.cell? ⟨w.heap.size+1,6,none⟩=some (.slice none 0 0):=cellOf hq 6 rfl
    have z6:=freeOf hq 6
    have y7:w2.cell? ⟨w.heap.size+1,7,none⟩=some (.slice none 0 0):=cellOf hq 7 rfl
    have z7:=freeOf hq 7
    have HFIN:=Lib.hid (val_finP HST.out (b:=w.heap.size+1) (by omega) HGN.out (by have:=HLO.out;omega) HZ.out HIN.out (.int .i64 k0) (.bool b0) (.bool ng) (.slice ma mn mc) (.int .i64 ex) (.string st) (.slice ka kn kc) (.slice va vn vc))
    clear hq
    go_wp2_with fail
    refine bodyPost_ret (v:=.agg #[.int .i64 k0,.bool b0,.bool ng,.slice ma mn mc,.int .i64 ex,.string st,.slice ka kn kc,.slice va vn vc]) (by simp [results,Tryz.results98,go_sem,y0,y1,y2,y3,y4,y5,y6,y7]) rfl ?_
    exact ValP.yes t' rfl (by rw [HC.out];rfl) HBA.out HFIN.out.1 HFIN.out.2
theorem behind_int {w0:World} {g d:Nat} {l:List Nat} {n:Nat} {w:World} (hr:RdP w0 g l d n w) (k:Nat) (hk:k<18446744073709551616) (R:RC MT) (hRR:liftN n l (.inl (pkSigned k))=R) :
    Calls Tryz.prog 98 #[.pointer (some ⟨g,0,none⟩),hmV (5,k)] w (ValP w0 g d R w):=by
  have HRR:=Lib.hid hRR
  clear hRR
  obtain ⟨W1,hW1⟩:∃ x,(w.alloc (.cells #[.int .i64 5,.int .u64 (k:Int)] 129)).alloc (.cells #[.int .i64 0,.bool false,.bool false,.slice none 0 0,.int .i64 0,.string ⟨#[]⟩,.slice none 0 0,.slice none 0 0] 29)=x:=⟨_,rfl⟩
  have HB:=Lib.hid (show BhP w0 g d n l 5 k w W1 by rw [← hW1];exact bhP_new hr 5 k)
  have HW1:=Lib.hid hW1
  have y0:W1.cell? ⟨w.heap.size,0,none⟩=some (.int .i64 5):=cellOf HB.out.q0 0 rfl
  have y1:W1.cell? ⟨w.heap.size,1,none⟩=some (.int .u64 (k:Int)):=cellOf HB.out.q0 1 rfl
  have HGN:=Lib.hid (show w.heap.size+1 ≠ g by have:=HB.out.g;omega)
  have KV:=Lib.hid (((signed_pk k hk W1:Calls Tryz.prog _ _ W1 (ValN W1 (.inl (pkSigned k))))).mono (fun _ _ h=>ValN.valP (d:=d) HB.out.st.rd h))
  rw [HRR.out] at KV
  clear hr hW1
  change Calls _ _ #[.pointer (some ⟨g,0,none⟩),.agg #[.int .i64 5,.int .u64 (k:Int)]] _ _
  go_enter Tryz.func98,Tryz.ntmps98
  go_upto_region 1 with fail
  rw [HW1.out]
  go_wp2_with fail
  refine KV.out.mono ?_
  intro r w2 hp
  cases R with
  | inr x =>
    obtain ⟨rfl,l',d',n',h2⟩:=hp
    have H3:=Lib.hid (HB.out.st.trans h2)
    clear h2 KV
    go_wp2_with fail
    exact ⟨rfl,ValP.no rfl (ThrowP.mk H3.out)⟩
  | inl q =>
    obtain ⟨t,l2,n2⟩:=q
    obtain ⟨t',rfl,hbare,hind,h2⟩:=hp
    have HST:=Lib.hid (HB.out.st.trans h2)
    have HBX:=Lib.hid ((h2.oth.block (w.heap.size+1) (by have:=HB.out.sz;omega) HGN.out).trans HB.out.q1)
    have HIN:=Lib.hid hind
    have HBA:=Lib.hid hbare
    have HZ:=Lib.hid (show w.heap.size+1<W1.heap.size by have:=HB.out.sz;omega)
    have HLO:=Lib.hid HB.out.low
    clear h2 hind hbare KV
    generalize hc:t'.c=c at *
    obtain ⟨k0,b0,ng,ma,mn,mc,ex,st,ka,kn,kc,va,vn,vc⟩:=c
    have HC:=Lib.hid hc
    clear hc
    unfold Cel.val
    have hq:=HBX.out
    clear y0 y1
    have y0:w2.cell? ⟨w.heap.size+1,0,none⟩=some (.int .i64 0):=cellOf hq 0 rfl
    have z0:=freeOf hq 0
    have y1:w2.cell? ⟨w.heap.size+1,1,none⟩=some (.bool false):=cellOf hq 1 rfl
    have z1:=freeOf hq 1
    have y2:w2.cell? ⟨w.heap.size+1,2,none⟩=some (.bool false):=cellOf hq 2 rfl
    have z2:=freeOf hq 2
    have y3:w2.cell? ⟨w.heap.size+1,3,none⟩=some (.slice none 0 0):=cellOf hq 3 rfl
    have z3:=freeOf hq 3
    have y4:w2.cell? ⟨w.heap.size+1,4,none⟩=some (.int .i64 0):=cellOf hq 4 rfl
    have z4:=freeOf hq 4
    have y5:w2.cell? ⟨w.heap.size+1,5,none⟩=some (.string ⟨#[]⟩):=cellOf hq 5 rfl
    have z5:=freeOf hq 5
    have y6:w2.cell? ⟨w.heap.size+1,6,none⟩=some (.slice none 0 0):=cellOf hq 6 rfl
    have z6:=freeOf hq 6
    have y7:w2.cell? ⟨w.heap.size+1,7,none⟩=some (.slice none 0 0):=cellOf hq 7 rfl
    have z7:=freeOf hq 7
    have HFIN:=Lib.hid (val_finP HST.out (b:=w.heap.size+1) (by omega) HGN.out (by have:=HLO.out;omega) HZ.out HIN.out (.int .i64 k0) (.bool b0) (.bool ng) (.slice ma mn mc) (.int .i64 ex) (.string st) (.slice ka kn kc) (.slice va vn vc))
    clear hq
    go_wp2_with fail
    refine bodyPost_ret (v:=.agg #[.int .i64 k0,.bool b0,.bool ng,.slice ma mn mc,.int .i64 ex,.string st,.slice ka kn kc,.slice va vn vc]) (by simp [results,Tryz.results98,go_sem,y0,y1,y2,y3,y4,y5,y6,y7]) rfl ?_
    exact ValP.yes t' rfl (by rw [HC.out];rfl) HBA.out HFIN.out.1 HFIN.out.2
theorem behind_half {w0:World} {g d:Nat} {l:List Nat} {n:Nat} {w:World} (hr:RdP w0 g l d n w) (k:Nat) (hk:k<18446744073709551616) (R:RC MT) (hRR:liftN n l (pkFloat 32 k)=R) :
    Calls Tryz.prog 98 #[.pointer (some ⟨g,0,none⟩),hmV (12,k)] w (ValP w0 g d R w):=by
  have HRR:=Lib.hid hRR
  clear hRR
  obtain ⟨W1,hW1⟩:∃ x,(w.alloc (.cells #[.int .i64 12,.int .u64 (k:Int)] 129)).alloc (.cells #[.int .i64 0,.bool false,.bool false,.slice none 0 0,.int .i64 0,.string ⟨#[]⟩,.slice none 0 0,.slice none 0 0] 29)=x:=⟨_,rfl⟩
  have HB:=Lib.hid (show BhP w0 g d n l 12 k w W1 by rw [← hW1];exact bhP_new hr 12 k)
  have HW1:=Lib.hid hW1
  have y0:W1.cell? ⟨w.heap.size,0,none⟩=some (.int .i64 12):=cellOf HB.out.q0 0 rfl
  have y1:W1.cell? ⟨w.heap.size,1,none⟩=some (.int .u64 (k:Int)):=cellOf HB.out.q0 1 rfl
  have HGN:=Lib.hid (show w.heap.size+1 ≠ g by have:=HB.out.g;omega)
  have KV:=Lib.hid (((float_pk 32 k hk W1:Calls Tryz.prog _ _ W1 (ValN W1 (pkFloat 32 k)))).mono (fun _ _ h=>ValN.valP (d:=d) HB.out.st.rd h))
  rw [HRR.out] at KV
  clear hr hW1
  change Calls _ _ #[.pointer (some ⟨g,0,none⟩),.agg #[.int .i64 12,.int .u64 (k:Int)]] _ _
  go_enter Tryz.func98,Tryz.ntmps98
  go_upto_region 1 with fail
  rw [HW1.out]
  go_wp2_with fail
  refine KV.out.mono ?_
  intro r w2 hp
  cases R with
  | inr x =>
    obtain ⟨rfl,l',d',n',h2⟩:=hp
    have H3:=Lib.hid (HB.out.st.trans h2)
    clear h2 KV
    go_wp2_with fail
    exact ⟨rfl,ValP.no rfl (ThrowP.mk H3.out)⟩
  | inl q =>
    obtain ⟨t,l2,n2⟩:=q
    obtain ⟨t',rfl,hbare,hind,h2⟩:=hp
    have HST:=Lib.hid (HB.out.st.trans h2)
    have HBX:=Lib.hid ((h2.oth.block (w.heap.size+1) (by have:=HB.out.sz;omega) HGN.out).trans HB.out.q1)
    have HIN:=Lib.hid hind
    have HBA:=Lib.hid hbare
    have HZ:=Lib.hid (show w.heap.size+1<W1.heap.size by have:=HB.out.sz;omega)
    have HLO:=Lib.hid HB.out.low
    clear h2 hind hbare KV
    generalize hc:t'.c=c at *
    obtain ⟨k0,b0,ng,ma,mn,mc,ex,st,ka,kn,kc,va,vn,vc⟩:=c
    have HC:=Lib.hid hc
    clear hc
    unfold Cel.val
    have hq:=HBX.out
    clear y0 y1
    have y0:w2.cell? ⟨w.heap.size+1,0,none⟩=some (.int .i64 0):=cellOf hq 0 rfl
    have z0:=freeOf hq 0
    have y1:w2.cell? ⟨w.heap.size+1,1,none⟩=some (.bool false):=cellOf hq 1 rfl
    have z1:=freeOf hq 1
    have y2:w2.cell? ⟨w.heap.size+1,2,none⟩=some (.bool false):=cellOf hq 2 rfl
    have z2:=freeOf hq 2
    have y3:w2.cell? ⟨w.heap.size+1,3,none⟩=some (.slice none 0 0):=cellOf hq 3 rfl
    have z3:=freeOf hq 3
    have y4:w2.cell? ⟨w.heap.size+1,4,none⟩=some (.int .i64 0):=cellOf hq 4 rfl
    have z4:=freeOf hq 4
    have y5:w2.cell? ⟨w.heap.size+1,5,none⟩=some (.string ⟨#[]⟩):=cellOf hq 5 rfl
    have z5:=freeOf hq 5
    have y6:w2.cell? ⟨w.heap.size+1,6,none⟩=some (.slice none 0 0):=cellOf hq 6 rfl
    have z6:=freeOf hq 6
    have y7:w2.cell? ⟨w.heap.size+1,7,none⟩=some (.slice none 0 0):=cellOf hq 7 rfl
    have z7:=freeOf hq 7
    have HFIN:=Lib.hid (val_finP HST.out (b:=w.heap.size+1) (by omega) HGN.out (by have:=HLO.out;omega) HZ.out HIN.out (.int .i64 k0) (.bool b0) (.bool ng) (.slice ma mn mc) (.int .i64 ex) (.string st) (.slice ka kn kc) (.slice va vn vc))
    clear hq
    go_wp2_with fail
    refine bodyPost_ret (v:=.agg #[.int .i64 k0,.bool b0,.bool ng,.slice ma mn mc,.int .i64 ex,.string st,.slice ka kn kc,.slice va vn vc]) (by simp [results,Tryz.results98,go_sem,y0,y1,y2,y3,y4,y5,y6,y7]) rfl ?_
    exact ValP.yes t' rfl (by rw [HC.out];rfl) HBA.out HFIN.out.1 HFIN.out.2
theorem behind_float {w0:World} {g d:Nat} {l:List Nat} {n:Nat} {w:World} (hr:RdP w0 g l d n w) (k:Nat) (hk:k<18446744073709551616) (R:RC MT) (hRR:liftN n l (pkFloat 64 k)=R) :
    Calls Tryz.prog 98 #[.pointer (some ⟨g,0,none⟩),hmV (6,k)] w (ValP w0 g d R w):=by
  have HRR:=Lib.hid hRR
  clear hRR
  obtain ⟨W1,hW1⟩:∃ x,(w.alloc (.cells #[.int .i64 6,.int .u64 (k:Int)] 129)).alloc (.cells #[.int .i64 0,.bool false,.bool false,.slice none 0 0,.int .i64 0,.string ⟨#[]⟩,.slice none 0 0,.slice none 0 0] 29)=x:=⟨_,rfl⟩
  have HB:=Lib.hid (show BhP w0 g d n l 6 k w W1 by rw [← hW1];exact bhP_new hr 6 k)
  have HW1:=Lib.hid hW1
  have y0:W1.cell? ⟨w.heap.size,0,none⟩=some (.int .i64 6):=cellOf HB.out.q0 0 rfl
  have y1:W1.cell? ⟨w.heap.size,1,none⟩=some (.int .u64 (k:Int)):=cellOf HB.out.q0 1 rfl
  have HGN:=Lib.hid (show w.heap.size+1 ≠ g by have:=HB.out.g;omega)
  have KV:=Lib.hid (((float_pk 64 k hk W1:Calls Tryz.prog _ _ W1 (ValN W1 (pkFloat 64 k)))).mono (fun _ _ h=>ValN.valP (d:=d) HB.out.st.rd h))
  rw [HRR.out] at KV
  clear hr hW1
  change Calls _ _ #[.pointer (some ⟨g,0,none⟩),.agg #[.int .i64 6,.int .u64 (k:Int)]] _ _
  go_enter Tryz.func98,Tryz.ntmps98
  go_upto_region 1 with fail
  rw [HW1.out]
  go_wp2_with fail
  refine KV.out.mono ?_
  intro r w2 hp
  cases R with
  | inr x =>
    obtain ⟨rfl,l',d',n',h2⟩:=hp
    have H3:=Lib.hid (HB.out.st.trans h2)
    clear h2 KV
    go_wp2_with fail
    exact ⟨rfl,ValP.no rfl (ThrowP.mk H3.out)⟩
  | inl q =>
    obtain ⟨t,l2,n2⟩:=q
    obtain ⟨t',rfl,hbare,hind,h2⟩:=hp
    have HST:=Lib.hid (HB.out.st.trans h2)
    have HBX:=Lib.hid ((h2.oth.block (w.heap.size+1) (by have:=HB.out.sz;omega) HGN.out).trans HB.out.q1)
    have HIN:=Lib.hid hind
    have HBA:=Lib.hid hbare
    have HZ:=Lib.hid (show w.heap.size+1<W1.heap.size by have:=HB.out.sz;omega)
    have HLO:=Lib.hid HB.out.low
    clear h2 hind hbare KV
    generalize hc:t'.c=c at *
    obtain ⟨k0,b0,ng,ma,mn,mc,ex,st,ka,kn,kc,va,vn,vc⟩:=c
    have HC:=Lib.hid hc
    clear hc
    unfold Cel.val
    have hq:=HBX.out
    clear y0 y1
    have y0:w2.cell? ⟨w.heap.size+1,0,none⟩=some (.int .i64 0):=cellOf hq 0 rfl
    have z0:=freeOf hq 0
    have y1:w2.cell? ⟨w.heap.size+1,1,none⟩=some (.bool false):=cellOf hq 1 rfl
    have z1:=freeOf hq 1
    have y2:w2.cell? ⟨w.heap.size+1,2,none⟩=some (.bool false):=cellOf hq 2 rfl
    have z2:=freeOf hq 2
    have y3:w2.cell? ⟨w.heap.size+1,3,none⟩=some (.slice none 0 0):=cellOf hq 3 rfl
    have z3:=freeOf hq 3
    have y4:w2.cell? ⟨w.heap.size+1,4,none⟩=some (.int .i64 0):=cellOf hq 4 rfl
    have z4:=freeOf hq 4
    have y5:w2.cell? ⟨w.heap.size+1,5,none⟩=some (.string ⟨#[]⟩):=cellOf hq 5 rfl
    have z5:=freeOf hq 5
    have y6:w2.cell? ⟨w.heap.size+1,6,none⟩=some (.slice none 0 0):=cellOf hq 6 rfl
    have z6:=freeOf hq 6
    have y7:w2.cell? ⟨w.heap.size+1,7,none⟩=some (.slice none 0 0):=cellOf hq 7 rfl
    have z7:=freeOf hq 7
    have HFIN:=Lib.hid (val_finP HST.out (b:=w.heap.size+1) (by omega) HGN.out (by have:=HLO.out;omega) HZ.out HIN.out (.int .i64 k0) (.bool b0) (.bool ng) (.slice ma mn mc) (.int .i64 ex) (.string st) (.slice ka kn kc) (.slice va vn vc))
    clear hq
    go_wp2_with fail
    refine bodyPost_ret (v:=.agg #[.int .i64 k0,.bool b0,.bool ng,.slice ma mn mc,.int .i64 ex,.string st,.slice ka kn kc,.slice va vn vc]) (by simp [results,Tryz.results98,go_sem,y0,y1,y2,y3,y4,y5,y6,y7]) rfl ?_
    exact ValP.yes t' rfl (by rw [HC.out];rfl) HBA.out HFIN.out.1 HFIN.out.2
theorem behind_array {w0:World} {g d:Nat} {l:List Nat} {n:Nat} {w:World} (hr:RdP w0 g l d n w) (k:Nat) (hk:k<18446744073709551616) (V:List Nat→Nat→RC MT) (hV:ValPC w0 g d V) (hN:NdC V) (hn:n≤2000) (R:RC MT) (hRR:pkArr V k l n=R) :
    Calls Tryz.prog 98 #[.pointer (some ⟨g,0,none⟩),hmV (9,k)] w (ValP w0 g d R w):=by
  have HRR:=Lib.hid hRR
  clear hRR
  obtain ⟨W1,hW1⟩:∃ x,(w.alloc (.cells #[.int .i64 9,.int .u64 (k:Int)] 129)).alloc (.cells #[.int .i64 0,.bool false,.bool false,.slice none 0 0,.int .i64 0,.string ⟨#[]⟩,.slice none 0 0,.slice none 0 0] 29)=x:=⟨_,rfl⟩
  have HB:=Lib.hid (show BhP w0 g d n l 9 k w W1 by rw [← hW1];exact bhP_new hr 9 k)
  have HW1:=Lib.hid hW1
  have y0:W1.cell? ⟨w.heap.size,0,none⟩=some (.int .i64 9):=cellOf HB.out.q0 0 rfl
  have y1:W1.cell? ⟨w.heap.size,1,none⟩=some (.int .u64 (k:Int)):=cellOf HB.out.q0 1 rfl
  have HGN:=Lib.hid (show w.heap.size+1 ≠ g by have:=HB.out.g;omega)
  have KV:=Lib.hid (array_pk V hV hN HB.out.st.rd 9 k hk hn)
  rw [HRR.out] at KV
  clear hr hW1
  change Calls _ _ #[.pointer (some ⟨g,0,none⟩),.agg #[.int .i64 9,.int .u64 (k:Int)]] _ _
  go_enter Tryz.func98,Tryz.ntmps98
  go_upto_region 1 with fail
  rw [HW1.out]
  go_wp2_with fail
  refine KV.out.mono ?_
  intro r w2 hp
  cases R with
  | inr x =>
    obtain ⟨rfl,l',d',n',h2⟩:=hp
    have H3:=Lib.hid (HB.out.st.trans h2)
    clear h2 KV
    go_wp2_with fail
    exact ⟨rfl,ValP.no rfl (ThrowP.mk H3.out)⟩
  | inl q =>
    obtain ⟨t,l2,n2⟩:=q
    obtain ⟨t',rfl,hbare,hind,h2⟩:=hp
    have HST:=Lib.hid (HB.out.st.trans h2)
    have HBX:=Lib.hid ((h2.oth.block (w.heap.size+1) (by have:=HB.out.sz;omega) HGN.out).trans HB.out.q1)
    have HIN:=Lib.hid hind
    have HBA:=Lib.hid hbare
    have HZ:=Lib.hid (show w.heap.size+1<W1.heap.size by have:=HB.out.sz;omega)
    have HLO:=Lib.hid HB.out.low
    clear h2 hind hbare KV
    generalize hc:t'.c=c at *
    obtain ⟨k0,b0,ng,ma,mn,mc,ex,st,ka,kn,kc,va,vn,vc⟩:=c
    have HC:=Lib.hid hc
    clear hc
    unfold Cel.val
    have hq:=HBX.out
    clear y0 y1
    have y0:w2.cell? ⟨w.heap.size+1,0,none⟩=some (.int .i64 0):=cellOf hq 0 rfl
    have z0:=freeOf hq 0
    have y1:w2.cell? ⟨w.heap.size+1,1,none⟩=some (.bool false):=cellOf hq 1 rfl
    have z1:=freeOf hq 1
    have y2:w2.cell? ⟨w.heap.size+1,2,none⟩=some (.bool false):=cellOf hq 2 rfl
    have z2:=freeOf hq 2
    have y3:w2.cell? ⟨w.heap.size+1,3,none⟩=some (.slice none 0 0):=cellOf hq 3 rfl
    have z3:=freeOf hq 3
    have y4:w2.cell? ⟨w.heap.size+1,4,none⟩=some (.int .i64 0):=cellOf hq 4 rfl
    have z4:=freeOf hq 4
    have y5:w2.cell? ⟨w.heap.size+1,5,none⟩=some (.string ⟨#[]⟩):=cellOf hq 5 rfl
    have z5:=freeOf hq 5
    have y6:w2.cell? ⟨w.heap.size+1,6,none⟩=some (.slice none 0 0):=cellOf hq 6 rfl
    have z6:=freeOf hq 6
    have y7:w2.cell? ⟨w.heap.size+1,7,none⟩=some (.slice none 0 0):=cellOf hq 7 rfl
    have z7:=freeOf hq 7
    have HFIN:=Lib.hid (val_finP HST.out (b:=w.heap.size+1) (by omega) HGN.out (by have:=HLO.out;omega) HZ.out HIN.out (.int .i64 k0) (.bool b0) (.bool ng) (.slice ma mn mc) (.int .i64 ex) (.string st) (.slice ka kn kc) (.slice va vn vc))
    clear hq
    go_wp2_with fail
    refine bodyPost_ret (v:=.agg #[.int .i64 k0,.bool b0,.bool ng,.slice ma mn mc,.int .i64 ex,.string st,.slice ka kn kc,.slice va vn vc]) (by simp [results,Tryz.results98,go_sem,y0,y1,y2,y3,y4,y5,y6,y7]) rfl ?_
    exact ValP.yes t' rfl (by rw [HC.out];rfl) HBA.out HFIN.out.1 HFIN.out.2
theorem behind_map {w0:World} {g d:Nat} {l:List Nat} {n:Nat} {w:World} (hr:RdP w0 g l d n w) (k:Nat) (hU:UT w0) (hk:k<18446744073709551616) (V:List Nat→Nat→RC MT) (hV:ValPC w0 g d V) (hN:NdC V) (hn:n≤2000) (R:RC MT) (hRR:pkObj V k l n=R) :
    Calls Tryz.prog 98 #[.pointer (some ⟨g,0,none⟩),hmV (10,k)] w (ValP w0 g d R w):=by
  have HRR:=Lib.hid hRR
  clear hRR
  obtain ⟨W1,hW1⟩:∃ x,(w.alloc (.cells #[.int .i64 10,.int .u64 (k:Int)] 129)).alloc (.cells #[.int .i64 0,.bool false,.bool false,.slice none 0 0,.int .i64 0,.string ⟨#[]⟩,.slice none 0 0,.slice none 0 0] 29)=x:=⟨_,rfl⟩
  have HB:=Lib.hid (show BhP w0 g d n l 10 k w W1 by rw [← hW1];exact bhP_new hr 10 k)
  have HW1:=Lib.hid hW1
  have y0:W1.cell? ⟨w.heap.size,0,none⟩=some (.int .i64 10):=cellOf HB.out.q0 0 rfl
  have y1:W1.cell? ⟨w.heap.size,1,none⟩=some (.int .u64 (k:Int)):=cellOf HB.out.q0 1 rfl
  have HGN:=Lib.hid (show w.heap.size+1 ≠ g by have:=HB.out.g;omega)
  have KV:=Lib.hid (object_pk hU V hV hN HB.out.st.rd 10 k hk hn)
  rw [HRR.out] at KV
  clear hr hW1
  change Calls _ _ #[.pointer (some ⟨g,0,none⟩),.agg #[.int .i64 10,.int .u64 (k:Int)]] _ _
  go_enter Tryz.func98,Tryz.ntmps98
  go_upto_region 1 with fail
  rw [HW1.out]
  go_wp2_with fail
  refine KV.out.mono ?_
  intro r w2 hp
  cases R with
  | inr x =>
    obtain ⟨rfl,l',d',n',h2⟩:=hp
    have H3:=Lib.hid (HB.out.st.trans h2)
    clear h2 KV
    go_wp2_with fail
    exact ⟨rfl,ValP.no rfl (ThrowP.mk H3.out)⟩
  | inl q =>
    obtain ⟨t,l2,n2⟩:=q
    obtain ⟨t',rfl,hbare,hind,h2⟩:=hp
    have HST:=Lib.hid (HB.out.st.trans h2)
    have HBX:=Lib.hid ((h2.oth.block (w.heap.size+1) (by have:=HB.out.sz;omega) HGN.out).trans HB.out.q1)
    have HIN:=Lib.hid hind
    have HBA:=Lib.hid hbare
    have HZ:=Lib.hid (show w.heap.size+1<W1.heap.size by have:=HB.out.sz;omega)
    have HLO:=Lib.hid HB.out.low
    clear h2 hind hbare KV
    generalize hc:t'.c=c at *
    obtain ⟨k0,b0,ng,ma,mn,mc,ex,st,ka,kn,kc,va,vn,vc⟩:=c
    have HC:=Lib.hid hc
    clear hc
    unfold Cel.val
    have hq:=HBX.out
    clear y0 y1
    have y0:w2.cell? ⟨w.heap.size+1,0,none⟩=some (.int .i64 0):=cellOf hq 0 rfl
    have z0:=freeOf hq 0
    have y1:w2.cell? ⟨w.heap.size+1,1,none⟩=some (.bool false):=cellOf hq 1 rfl
    have z1:=freeOf hq 1
    have y2:w2.cell? ⟨w.heap.size+1,2,none⟩=some (.bool false):=cellOf hq 2 rfl
    have z2:=freeOf hq 2
    have y3:w2.cell? ⟨w.heap.size+1,3,none⟩=some (.slice none 0 0):=cellOf hq 3 rfl
    have z3:=freeOf hq 3
    have y4:w2.cell? ⟨w.heap.size+1,4,none⟩=some (.int .i64 0):=cellOf hq 4 rfl
    have z4:=freeOf hq 4
    have y5:w2.cell? ⟨w.heap.size+1,5,none⟩=some (.string ⟨#[]⟩):=cellOf hq 5 rfl
    have z5:=freeOf hq 5
    have y6:w2.cell? ⟨w.heap.size+1,6,none⟩=some (.slice none 0 0):=cellOf hq 6 rfl
    have z6:=freeOf hq 6
    have y7:w2.cell? ⟨w.heap.size+1,7,none⟩=some (.slice none 0 0):=cellOf hq 7 rfl
    have z7:=freeOf hq 7
    have HFIN:=Lib.hid (val_finP HST.out (b:=w.heap.size+1) (by omega) HGN.out (by have:=HLO.out;omega) HZ.out HIN.out (.int .i64 k0) (.bool b0) (.bool ng) (.slice ma mn mc) (.int .i64 ex) (.string st) (.slice ka kn kc) (.slice va vn vc))
    clear hq
    go_wp2_with fail
    refine bodyPost_ret (v:=.agg #[.int .i64 k0,.bool b0,.bool ng,.slice ma mn mc,.int .i64 ex,.string st,.slice ka kn kc,.slice va vn vc]) (by simp [results,Tryz.results98,go_sem,y0,y1,y2,y3,y4,y5,y6,y7]) rfl ?_
    exact ValP.yes t' rfl (by rw [HC.out];rfl) HBA.out HFIN.out.1 HFIN.out.2
theorem behind_text {w0:World} {g d:Nat} {l:List Nat} {n:Nat} {w:World} (hr:RdP w0 g l d n w) (k:Nat) (hU:UT w0) (hk:k<18446744073709551616) :
    Calls Tryz.prog 98 #[.pointer (some ⟨g,0,none⟩),hmV (7,k)] w (ValP w0 g d (txtW 4 n (pkText k l)) w):=by
  obtain ⟨W1,hW1⟩:∃ x,(w.alloc (.cells #[.int .i64 7,.int .u64 (k:Int)] 129)).alloc (.cells #[.int .i64 0,.bool false,.bool false,.slice none 0 0,.int .i64 0,.string ⟨#[]⟩,.slice none 0 0,.slice none 0 0] 29)=x:=⟨_,rfl⟩
  have HB:=Lib.hid (show BhP w0 g d n l 7 k w W1 by rw [← hW1];exact bhP_new hr 7 k)
  have HW1:=Lib.hid hW1
  have y0:W1.cell? ⟨w.heap.size,0,none⟩=some (.int .i64 7):=cellOf HB.out.q0 0 rfl
  have y1:W1.cell? ⟨w.heap.size,1,none⟩=some (.int .u64 (k:Int)):=cellOf HB.out.q0 1 rfl
  have HGN:=Lib.hid (show w.heap.size+1 ≠ g by have:=HB.out.g;omega)
  have KV:=Lib.hid (text_pk hU HB.out.st.rd 7 k hk)
  have HLEN:=Lib.hid (fun s r h=>pkText_le (k:=k) (l:=l) (s:=s) (r:=r) h)
  clear hr hW1
  change Calls _ _ #[.pointer (some ⟨g,0,none⟩),.agg #[.int .i64 7,.int .u64 (k:Int)]] _ _
  go_enter Tryz.func98,Tryz.ntmps98
  go_upto_region 1 with fail
  rw [HW1.out]
  go_wp2_with fail
  refine KV.out.mono ?_
  intro r w2 hp
  generalize pkText k l=Q at *
  cases Q with
  | inr x =>
    obtain ⟨rfl,l',d',n',h2⟩:=hp
    have H3:=Lib.hid (HB.out.st.trans h2)
    clear h2 KV
    go_wp2_with fail
    exact ⟨rfl,ValP.no rfl (ThrowP.mk H3.out)⟩
  | inl q =>
    obtain ⟨s,l2⟩:=q
    obtain ⟨rfl,h2⟩:=hp
    have HST:=Lib.hid (HB.out.st.trans h2)
    have HBX:=Lib.hid ((h2.oth.block (w.heap.size+1) (by have:=HB.out.sz;omega) HGN.out).trans HB.out.q1)
    have HSL:=Lib.hid (show (strB s).size≤maxLen by rw [strB_size];have:=HLEN.out s l2 rfl;unfold maxLen;omega)
    have HLO:=Lib.hid HB.out.low
    dsimp only [strV]
    clear h2 KV
    generalize hsb:strB s=sb at *
    have HSB:=Lib.hid hsb
    clear hsb
    have HFIN:=Lib.hid (val_finP HST.out (t':=leafT 4 false sb) (b:=w.heap.size+1) (z:=w.heap.size+2) (by omega) HGN.out (by have:=HLO.out;omega) (by omega) (fun W _ _=>leafT_rep W 4 false sb (by decide) HSL.out) (.int .i64 4) (.bool false) (.bool false) (.slice none 0 0) (.int .i64 0) (.string sb) (.slice none 0 0) (.slice none 0 0))
    have hq:=HBX.out
    clear y0 y1
    have y0:w2.cell? ⟨w.heap.size+1,0,none⟩=some (.int .i64 0):=cellOf hq 0 rfl
    have z0:=freeOf hq 0
    have y1:w2.cell? ⟨w.heap.size+1,1,none⟩=some (.bool false):=cellOf hq 1 rfl
    have z1:=freeOf hq 1
    have y2:w2.cell? ⟨w.heap.size+1,2,none⟩=some (.bool false):=cellOf hq 2 rfl
    have z2:=freeOf hq 2
    have y3:w2.cell? ⟨w.heap.size+1,3,none⟩=some (.slice none 0 0):=cellOf hq 3 rfl
    have z3:=freeOf hq 3
    have y4:w2.cell? ⟨w.heap.size+1,4,none⟩=some (.int .i64 0):=cellOf hq 4 rfl
    have z4:=freeOf hq 4
    have y5:w2.cell? ⟨w.heap.size+1,5,none⟩=some (.string ⟨#[]⟩):=cellOf hq 5 rfl
    have z5:=freeOf hq 5
    have y6:w2.cell? ⟨w.heap.size+1,6,none⟩=some (.slice none 0 0):=cellOf hq 6 rfl
    have z6:=freeOf hq 6
    have y7:w2.cell? ⟨w.heap.size+1,7,none⟩=some (.slice none 0 0):=cellOf hq 7 rfl
    have z7:=freeOf hq 7
    clear hq
    go_wp2_with fail
    refine bodyPost_ret (v:=.agg #[.int .i64 4,.bool false,.bool false,.slice none 0 0,.int .i64 0,.string sb,.slice none 0 0,.slice none 0 0]) (by simp [results,Tryz.results98,go_sem,y0,y1,y2,y3,y4,y5,y6,y7]) rfl ?_
    exact ValP.yes (leafT 4 false sb) rfl rfl (by rw [MT.bare_eq,HSB.out];rfl) HFIN.out.1 HFIN.out.2
theorem behind_bytes {w0:World} {g d:Nat} {l:List Nat} {n:Nat} {w:World} (hr:RdP w0 g l d n w) (k:Nat) (hk:k<18446744073709551616) :
    Calls Tryz.prog 98 #[.pointer (some ⟨g,0,none⟩),hmV (8,k)] w (ValP w0 g d (txtW 5 n (pkBytes k l)) w):=by
  obtain ⟨W1,hW1⟩:∃ x,(w.alloc (.cells #[.int .i64 8,.int .u64 (k:Int)] 129)).alloc (.cells #[.int .i64 0,.bool false,.bool false,.slice none 0 0,.int .i64 0,.string ⟨#[]⟩,.slice none 0 0,.slice none 0 0] 29)=x:=⟨_,rfl⟩
  have HB:=Lib.hid (show BhP w0 g d n l 8 k w W1 by rw [← hW1];exact bhP_new hr 8 k)
  have HW1:=Lib.hid hW1
  have y0:W1.cell? ⟨w.heap.size,0,none⟩=some (.int .i64 8):=cellOf HB.out.q0 0 rfl
  have y1:W1.cell? ⟨w.heap.size,1,none⟩=some (.int .u64 (k:Int)):=cellOf HB.out.q0 1 rfl
  have HGN:=Lib.hid (show w.heap.size+1 ≠ g by have:=HB.out.g;omega)
  have KV:=Lib.hid (bytes_pk HB.out.st.rd 8 k hk)
  have HLEN:=Lib.hid (fun s r h=>pkBytes_le (k:=k) (l:=l) (s:=s) (r:=r) h)
  clear hr hW1
  change Calls _ _ #[.pointer (some ⟨g,0,none⟩),.agg #[.int .i64 8,.int .u64 (k:Int)]] _ _
  go_enter Tryz.func98,Tryz.ntmps98
  go_upto_region 1 with fail
  rw [HW1.out]
  go_wp2_with fail
  refine KV.out.mono ?_
  intro r w2 hp
  generalize pkBytes k l=Q at *
  cases Q with
  | inr x =>
    obtain ⟨rfl,l',d',n',h2⟩:=hp
    have H3:=Lib.hid (HB.out.st.trans h2)
    clear h2 KV
    go_wp2_with fail
    exact ⟨rfl,ValP.no rfl (ThrowP.mk H3.out)⟩
  | inl q =>
    obtain ⟨s,l2⟩:=q
    obtain ⟨rfl,h2⟩:=hp
    have HST:=Lib.hid (HB.out.st.trans h2)
    have HBX:=Lib.hid ((h2.oth.block (w.heap.size+1) (by have:=HB.out.sz;omega) HGN.out).trans HB.out.q1)
    have HSL:=Lib.hid (show (strB s).size≤maxLen by rw [strB_size];have:=HLEN.out s l2 rfl;unfold maxLen;omega)
    have HLO:=Lib.hid HB.out.low
    dsimp only [strV]
    clear h2 KV
    generalize hsb:strB s=sb at *
    have HSB:=Lib.hid hsb
    clear hsb
    have HFIN:=Lib.hid (val_finP HST.out (t':=leafT 5 false sb) (b:=w.heap.size+1) (z:=w.heap.size+2) (by omega) HGN.out (by have:=HLO.out;omega) (by omega) (fun W _ _=>leafT_rep W 5 false sb (by decide) HSL.out) (.int .i64 5) (.bool false) (.bool false) (.slice none 0 0) (.int .i64 0) (.string sb) (.slice none 0 0) (.slice none 0 0))
    have hq:=HBX.out
    clear y0 y1
    have y0:w2.cell? ⟨w.heap.size+1,0,none⟩=some (.int .i64 0):=cellOf hq 0 rfl
    have z0:=freeOf hq 0
    have y1:w2.cell? ⟨w.heap.size+1,1,none⟩=some (.bool false):=cellOf hq 1 rfl
    have z1:=freeOf hq 1
    have y2:w2.cell? ⟨w.heap.size+1,2,none⟩=some (.bool false):=cellOf hq 2 rfl
    have z2:=freeOf hq 2
    have y3:w2.cell? ⟨w.heap.size+1,3,none⟩=some (.slice none 0 0):=cellOf hq 3 rfl
    have z3:=freeOf hq 3
    have y4:w2.cell? ⟨w.heap.size+1,4,none⟩=some (.int .i64 0):=cellOf hq 4 rfl
    have z4:=freeOf hq 4
    have y5:w2.cell? ⟨w.heap.size+1,5,none⟩=some (.string ⟨#[]⟩):=cellOf hq 5 rfl
    have z5:=freeOf hq 5
    have y6:w2.cell? ⟨w.heap.size+1,6,none⟩=some (.slice none 0 0):=cellOf hq 6 rfl
    have z6:=freeOf hq 6
    have y7:w2.cell? ⟨w.heap.size+1,7,none⟩=some (.slice none 0 0):=cellOf hq 7 rfl
    have z7:=freeOf hq 7
    clear hq
    go_wp2_with fail
    refine bodyPost_ret (v:=.agg #[.int .i64 5,.bool false,.bool false,.slice none 0 0,.int .i64 0,.string sb,.slice none 0 0,.slice none 0 0]) (by simp [results,Tryz.results98,go_sem,y0,y1,y2,y3,y4,y5,y6,y7]) rfl ?_
    exact ValP.yes (leafT 5 false sb) rfl rfl (by rw [MT.bare_eq,HSB.out];rfl) HFIN.out.1 HFIN.out.2
theorem behind_none0 {w0:World} {g d:Nat} {l:List Nat} {n:Nat} {w:World} (hr:RdP w0 g l d n w) (k:Nat) :
    Calls Tryz.prog 98 #[.pointer (some ⟨g,0,none⟩),hmV (0,k)] w (ValP w0 g d (.inr 3) w):=by
  obtain ⟨W1,hW1⟩:∃ x,(w.alloc (.cells #[.int .i64 0,.int .u64 (k:Int)] 129)).alloc (.cells #[.int .i64 0,.bool false,.bool false,.slice none 0 0,.int .i64 0,.string ⟨#[]⟩,.slice none 0 0,.slice none 0 0] 29)=x:=⟨_,rfl⟩
  have HB:=Lib.hid (show BhP w0 g d n l 0 k w W1 by rw [← hW1];exact bhP_new hr 0 k)
  have HW1:=Lib.hid hW1
  have y0:W1.cell? ⟨w.heap.size,0,none⟩=some (.int .i64 0):=cellOf HB.out.q0 0 rfl
  have y1:W1.cell? ⟨w.heap.size,1,none⟩=some (.int .u64 (k:Int)):=cellOf HB.out.q0 1 rfl
  have HGN:=Lib.hid (show w.heap.size+1 ≠ g by have:=HB.out.g;omega)
  clear hr hW1
  change Calls _ _ #[.pointer (some ⟨g,0,none⟩),.agg #[.int .i64 0,.int .u64 (k:Int)]] _ _
  go_enter Tryz.func98,Tryz.ntmps98
  go_upto_region 1 with fail
  rw [HW1.out]
  go_wp2_with fail
  exact ⟨rfl,ValP.no rfl (ThrowP.mk HB.out.st)⟩
theorem behind_none11 {w0:World} {g d:Nat} {l:List Nat} {n:Nat} {w:World} (hr:RdP w0 g l d n w) (k:Nat) :
    Calls Tryz.prog 98 #[.pointer (some ⟨g,0,none⟩),hmV (11,k)] w (ValP w0 g d (.inr 3) w):=by
  obtain ⟨W1,hW1⟩:∃ x,(w.alloc (.cells #[.int .i64 11,.int .u64 (k:Int)] 129)).alloc (.cells #[.int .i64 0,.bool false,.bool false,.slice none 0 0,.int .i64 0,.string ⟨#[]⟩,.slice none 0 0,.slice none 0 0] 29)=x:=⟨_,rfl⟩
  have HB:=Lib.hid (show BhP w0 g d n l 11 k w W1 by rw [← hW1];exact bhP_new hr 11 k)
  have HW1:=Lib.hid hW1
  have y0:W1.cell? ⟨w.heap.size,0,none⟩=some (.int .i64 11):=cellOf HB.out.q0 0 rfl
  have y1:W1.cell? ⟨w.heap.size,1,none⟩=some (.int .u64 (k:Int)):=cellOf HB.out.q0 1 rfl
  have HGN:=Lib.hid (show w.heap.size+1 ≠ g by have:=HB.out.g;omega)
  clear hr hW1
  change Calls _ _ #[.pointer (some ⟨g,0,none⟩),.agg #[.int .i64 11,.int .u64 (k:Int)]] _ _
  go_enter Tryz.func98,Tryz.ntmps98
  go_upto_region 1 with fail
  rw [HW1.out]
  go_wp2_with fail
  exact ⟨rfl,ValP.no rfl (ThrowP.mk HB.out.st)⟩
theorem behind_pk {w0:World} (hU:UT w0) {g d:Nat} (V:List Nat→Nat→RC MT) (hV:ValPC w0 g d V) (hN:NdC V) {l:List Nat} {n:Nat} {w:World} (hr:RdP w0 g l d n w) (m k:Nat) (hm:m<13) (hk:k<18446744073709551616) (hn:n≤2000) :
    Calls Tryz.prog 98 #[.pointer (some ⟨g,0,none⟩),hmV (m,k)] w (ValP w0 g d (pkBehind V (m,k) l n) w):=by
  have:m=0∨m=1∨m=2∨m=3∨m=4∨m=5∨m=6∨m=7∨m=8∨m=9∨m=10∨m=11∨m=12:=by omega
  rcases this with rfl | rfl | rfl | rfl | rfl | rfl | rfl | rfl | rfl | rfl | rfl | rfl | rfl
  · exact behind_none0 hr k
  · exact behind_nil hr k
  · exact behind_false hr k
  · exact behind_true hr k
  · exact behind_uint hr k hk _ rfl
  · exact behind_int hr k hk _ rfl
  · have h:liftN n l (pkFloat 64 k)=pkBehind V (6,k) l n:=by
      unfold pkBehind
      cases pkFloat 64 k <;> rfl
    exact behind_float hr k hk _ h
  · have h:txtW 4 n (pkText k l)=pkBehind V (7,k) l n:=by
      unfold pkBehind
      cases pkText k l <;> rfl
    rw [← h];exact behind_text hr k hU hk
  · have h:txtW 5 n (pkBytes k l)=pkBehind V (8,k) l n:=by
      unfold pkBehind
      cases pkBytes k l <;> rfl
    rw [← h];exact behind_bytes hr k hk
  · exact behind_array hr k hk V hV hN hn _ rfl
  · exact behind_map hr k hU hk V hV hN hn _ rfl
  · exact behind_none11 hr k
  · have h:liftN n l (pkFloat 32 k)=pkBehind V (12,k) l n:=by
      unfold pkBehind
      cases pkFloat 32 k <;> rfl
    exact behind_half hr k hk _ h
theorem pkV_head {f n:Nat} {l:List Nat} {x:Int} (h:pkHead l=.inr x):pkValue (f+1) l n=.inr x:=by rw [pkValue,h]
theorem pkV_limit {f n:Nat} {l r:List Nat} {h0:HdM} (h:pkHead l=.inl (h0,r)) (h2:n=2000∨f=0):pkValue (f+1) l n=.inr 4:=by rw [pkValue,h];simp only;rw [if_pos h2]
theorem pkV_on {f n:Nat} {l r:List Nat} {h0:HdM} (h:pkHead l=.inl (h0,r)) (h2:¬ (n=2000∨f=0)):pkValue (f+1) l n=pkBehind (pkValue f) h0 r (n+1):=by rw [pkValue,h];simp only;rw [if_neg h2]
theorem nd_itemsP {V:List Nat→Nat→RC MT} (hN:NdC V):∀ (f:Nat) (us:List MT) (l:List Nat) (n:Nat) (p:List MT × List Nat × Nat),n≤2000→pkItems V f us l n=.inl p→p.2.2≤2000:=by
  intro f
  induction f with
  | zero=>intro us l n p hn e;simp only [pkItems,Sum.inl.injEq] at e;rw [← e];exact hn
  | succ f ih =>
    intro us l n p hn e
    rw [pkItems] at e
    split at e
    · cases e
    · rename_i t r n2 hv
      exact ih _ _ _ _ (hN _ _ _ hn hv) e
theorem nd_membersP {V:List Nat→Nat→RC MT} (hN:NdC V):∀ (f:Nat) (ks:List ByteArray) (us:List MT) (l:List Nat) (n:Nat) (p:(List ByteArray × List MT) × List Nat × Nat),n≤2000→pkMembers V f ks us l n=.inl p→p.2.2≤2000:=by
  intro f
  induction f with
  | zero=>intro ks us l n p hn e;simp only [pkMembers,Sum.inl.injEq] at e;rw [← e];exact hn
  | succ f ih =>
    intro ks us l n p hn e
    rw [pkMembers] at e
    split at e
    · cases e
    · split at e
      · cases e
      · rename_i t r n2 hv
        exact ih _ _ _ _ _ (hN _ _ _ hn hv) e
theorem nd_behindP {V:List Nat→Nat→RC MT} (hN:NdC V) (h:HdM) (l:List Nat) (n:Nat) (p:MT × List Nat × Nat) (hn:n≤2000) (e:pkBehind V h l n=.inl p):p.2.2≤2000:=by
  unfold pkBehind at e
  split at e
  · cases e;exact hn
  split at e
  · cases e;exact hn
  split at e
  · cases e;exact hn
  split at e
  · cases e;exact hn
  split at e
  · cases e;exact hn
  split at e
  · split at e
    · cases e
    · cases e;exact hn
  split at e
  · split at e
    · cases e
    · cases e;exact hn
  split at e
  · split at e
    · cases e
    · cases e;exact hn
  split at e
  · split at e
    · cases e
    · cases e;exact hn
  split at e
  · unfold pkArr at e
    split at e
    · cases e
    · split at e
      · cases e
      · rename_i hi
        cases e
        exact nd_itemsP hN _ _ _ _ _ hn hi
  split at e
  · unfold pkObj at e
    split at e
    · cases e
    · split at e
      · cases e
      · rename_i hi
        split at e
        · cases e
          exact nd_membersP hN _ _ _ _ _ _ hn hi
        · cases e
  · cases e
theorem nd_valueP:∀ f,NdC (pkValue f):=by
  intro f
  induction f with
  | zero=>intro l n p _ e;cases e
  | succ f ih =>
    intro l n p hn e
    rw [pkValue] at e
    split at e
    · cases e
    · split at e
      · cases e
      · rename_i hnf
        exact nd_behindP ih _ _ _ _ (by omega) e
theorem value_pk {w0:World} (hU:UT w0) {g d f:Nat} (hdf:d+f=64) (hV:f ≠ 0→ValPC w0 g (d+1) (pkValue f)):ValPC w0 g d (pkValue (f+1)):=by
  intro w l n hn hr
  have hg:=hr.lt
  have hlow:=hr.env.size
  have hne2:¬ w.heap.size=g:=by omega
  obtain ⟨W1,hW1⟩:∃ V,w.alloc (.cells #[.int .i64 0,.bool false,.bool false,.slice none 0 0,.int .i64 0,.string ⟨#[]⟩,.slice none 0 0,.slice none 0 0] 29)=V:=⟨_,rfl⟩
  have hb1:Below w.heap.size w W1:=by rw [← hW1];exact (Below.refl _ _).alloc (Nat.le_refl _) _
  have H1:=Lib.hid (StP.of_below hr hb1)
  have HN1:=Lib.hid (show W1.heap[w.heap.size]? = some (.cells #[.int .i64 0,.bool false,.bool false,.slice none 0 0,.int .i64 0,.string ⟨#[]⟩,.slice none 0 0,.slice none 0 0] 29) by rw [← hW1];exact heap_alloc_new w _)
  have HS1:=Lib.hid (show w.heap.size<W1.heap.size by rw [← hW1];simp)
  have HW1:=Lib.hid hW1
  have KH:=Lib.hid (head_pk H1.out.rd)
  have HV:=Lib.hid hV
  have HU:=Lib.hid hU
  obtain ⟨R,hR⟩:∃ R,pkValue (f+1) l n=R:=⟨_,rfl⟩
  rw [hR]
  have HR:=Lib.hid hR
  clear hr hb1 hV hR hW1 hU
  go_enter Tryz.func57,Tryz.ntmps57
  go_wp2_with fail
  rw [HW1.out]
  refine KH.out.mono ?_
  intro r w1 hp
  cases hh:pkHead l with
  | inr x =>
    rw [hh] at hp
    obtain ⟨rfl,l',d',n',h1⟩:=hp
    have H2:=Lib.hid (H1.out.trans h1)
    have HE:=Lib.hid (HR.out.symm.trans (pkV_head hh))
    clear h1 hh KH
    go_wp2_with fail
    exact ⟨rfl,ValP.no HE.out (ThrowP.mk H2.out)⟩
  | inl q =>
    obtain ⟨⟨m,k⟩,r2⟩:=q
    rw [hh] at hp
    obtain ⟨rfl,h1⟩:=hp
    have hok:=pkHead_ok H1.out.rd.ok hh
    have HM:=Lib.hid hok.k;have HKB:=Lib.hid hok.n
    have HBX1:=Lib.hid ((h1.oth.block w.heap.size HS1.out hne2).trans HN1.out)
    have HS2:=Lib.hid (Nat.lt_of_lt_of_le HS1.out h1.oth.size)
    obtain ⟨W2,hW2⟩:∃ V,w1.alloc (.cells #[.int .i64 (m:Int),.int .u64 (k:Int)] 129)=V:=⟨_,rfl⟩
    have hb2:Below w1.heap.size w1 W2:=by rw [← hW2];exact (Below.refl _ _).alloc (Nat.le_refl _) _
    have hq2:W2.heap[w1.heap.size]? = some (.cells #[.int .i64 (m:Int),.int .u64 (k:Int)] 129):=by rw [← hW2];exact heap_alloc_new w1 _
    have h2:=(H1.out.trans h1).more hb2
    have H2:=Lib.hid h2
    have HBX2:=Lib.hid ((hb2.block _ HS2.out).trans HBX1.out)
    have hg1:g<w1.heap.size:=h1.rd.lt
    have c1:=h2.rd.c1
    have c2:=h2.rd.c2
    have f1:=h2.rd.fz 1
    have f2:=h2.rd.fz 2
    have HW2:=Lib.hid hW2
    have hmv:hmV (m,k)=.agg #[.int .i64 (m:Int),.int .u64 (k:Int)]:=rfl
    rw [hmv]
    clear hok KH h1 hb2 h2 hW2 hmv
    go_upto_region 2 with fail
    rw [HW2.out]
    by_cases hn2:n=2000
    · have e2:((n:Int) == 2000)=true:=by rw [beq_iff_eq];omega
      have HE:=Lib.hid (HR.out.symm.trans (pkV_limit hh (.inl hn2)))
      clear hn2 hh
      go_wp2_with fail
      exact ⟨rfl,ValP.no HE.out (ThrowP.mk H2.out)⟩
    · have e2:((n:Int) == 2000)=false:=by rw [beq_eq_false_iff_ne];omega
      by_cases hf:f=0
      · have e3:((d:Int) == 64)=true:=by rw [beq_iff_eq];omega
        have HE:=Lib.hid (HR.out.symm.trans (pkV_limit hh (.inr hf)))
        clear hn2 hf hh
        go_wp2_with fail
        exact ⟨rfl,ValP.no HE.out (ThrowP.mk H2.out)⟩
      · have e3:((d:Int) == 64)=false:=by rw [beq_eq_false_iff_ne];omega
        have hnf:¬ (n=2000∨f=0):=fun h=>h.elim hn2 hf
        have HE0:=Lib.hid (HR.out.symm.trans (pkV_on hh hnf))
        obtain ⟨W3,hW3⟩:∃ V,(W2.setCell ⟨g,2,none⟩ (.int .i64 ((n:Int)+1))).setCell ⟨g,1,none⟩ (.int .i64 ((d:Int)+1))=V:=⟨_,rfl⟩
        have H3:Hid (StP w0 g r2 (d+1) (n+1) W2 W3):=Lib.hid (by rw [← hW3];exact ((StP.refl H2.out.rd).nodes (n+1) (by simp)).depth (d+1) (by simp))
        have c1b:(W2.setCell ⟨g,2,none⟩ (.int .i64 ((n:Int)+1))).cell? ⟨g,1,none⟩=some (.int .i64 (d:Int)):=by rw [World.cell?_setCell_other (h:=by simp)];exact c1
        have f1b:(W2.setCell ⟨g,2,none⟩ (.int .i64 ((n:Int)+1))).frozen? ⟨g,1,none⟩=false:=by rw [World.frozen?_setCell];exact f1
        have hbz:W3.heap[w.heap.size]? = some (.cells #[.int .i64 0,.bool false,.bool false,.slice none 0 0,.int .i64 0,.string ⟨#[]⟩,.slice none 0 0,.slice none 0 0] 29):=by rw [← hW3,set_otherC hne2,set_otherC hne2];exact HBX2.out
        have hbh:W3.heap[w1.heap.size]? = some (.cells #[.int .i64 (m:Int),.int .u64 (k:Int)] 129):=by
          have hx:w1.heap.size ≠ g:=by omega
          rw [← hW3,set_otherC hx,set_otherC hx];exact hq2
        have HBX3:=Lib.hid hbz
        have x0:W3.cell? ⟨w1.heap.size,0,none⟩=some (.int .i64 (m:Int)):=cellOf hbh 0 rfl
        have x1:W3.cell? ⟨w1.heap.size,1,none⟩=some (.int .u64 (k:Int)):=cellOf hbh 1 rfl
        have KB:=Lib.hid (behind_pk HU.out (pkValue f) (HV.out hf) (nd_valueP f) H3.out.rd m k HM.out HKB.out (by omega))
        rw [← HE0.out] at KB
        have s1:IntKind.i64.wrap ((n:Int)+1)=(n:Int)+1:=IntWalk.i64_in _ (by omega)
        have s2:IntKind.i64.wrap ((d:Int)+1)=(d:Int)+1:=IntWalk.i64_in _ (by omega)
        have s3:IntKind.i64.wrap ((d:Int)+1 - 1)=(d:Int):=by rw [show (d:Int)+1 - 1=(d:Int) by omega];exact IntWalk.i64_in _ (by omega)
        have HW3:=Lib.hid hW3
        clear hn2 hf hnf hbz hbh hW3 hh
        go_upto_region 6 with fail
        rw [HW3.out]
        unfold hmV at KB
        go_wp2_with fail
        refine KB.out.mono ?_
        intro r4 w4 hp
        clear HR HE0 KB
        cases R with
        | inr x =>
          obtain ⟨rfl,l',d',n',h4⟩:=hp
          have H5:=Lib.hid ((H2.out.trans H3.out).trans h4)
          clear h4
          go_wp2_with fail
          exact ⟨rfl,ValP.no rfl (ThrowP.mk H5.out)⟩
        | inl q =>
          obtain ⟨t,r5,n5⟩:=q
          obtain ⟨t',rfl,hbare,hin,h4⟩:=hp
          have HBR:=Lib.hid hbare
          have HIN:=Lib.hid hin
          generalize hc:t'.c=c at *
          obtain ⟨k0,b0,ng,ma,mn,mc,ex,st,ka,kn,kc,va,vn,vc⟩:=c
          have HC:=Lib.hid hc
          obtain ⟨W5,hW5⟩:∃ V,w4.alloc (.cells #[.int .i64 k0,.bool b0,.bool ng,.slice ma mn mc,.int .i64 ex,.string st,.slice ka kn kc,.slice va vn vc] 29)=V:=⟨_,rfl⟩
          have h5:Below w4.heap.size w4 W5:=by rw [← hW5];exact (Below.refl _ _).alloc (Nat.le_refl _) _
          have hq5:W5.heap[w4.heap.size]? = some (.cells #[.int .i64 k0,.bool b0,.bool ng,.slice ma mn mc,.int .i64 ex,.string st,.slice ka kn kc,.slice va vn vc] 29):=by rw [← hW5];exact heap_alloc_new w4 _
          have hst5:=(H2.out.trans H3.out).trans h4 |>.more h5
          have hbx4:=(h4.oth.block w.heap.size (Array.getElem?_eq_some_iff.1 HBX3.out).1 hne2).trans HBX3.out
          have hbx5:=(h5.block w.heap.size (Array.getElem?_eq_some_iff.1 hbx4).1).trans hbx4
          have hzz:w.heap.size<W3.heap.size:=(Array.getElem?_eq_some_iff.1 HBX3.out).1
          have hg3:g<W3.heap.size:=H3.out.rd.lt
          have hng:¬ w4.heap.size=g:=by have:=h4.rd.lt;omega
          have hgn:¬ g=w4.heap.size:=fun e=>hng e.symm
          have c1d:=hst5.rd.c1
          have f1d:=hst5.rd.fz 1
          obtain ⟨W6,hW6⟩:∃ V,W5.setCell ⟨g,1,none⟩ (.int .i64 (d:Int))=V:=⟨_,rfl⟩
          have H6:=Lib.hid (show StP w0 g r5 d n5 w W6 by rw [← hW6];exact hst5.depth d rfl)
          have hbx6:W6.heap[w.heap.size]? = some (.cells #[.int .i64 0,.bool false,.bool false,.slice none 0 0,.int .i64 0,.string ⟨#[]⟩,.slice none 0 0,.slice none 0 0] 29):=by rw [← hW6,set_otherC hne2];exact hbx5
          have hbn:W6.heap[w4.heap.size]? = some (.cells #[.int .i64 k0,.bool b0,.bool ng,.slice ma mn mc,.int .i64 ex,.string st,.slice ka kn kc,.slice va vn vc] 29):=by rw [← hW6,set_otherC hng];exact hq5
          have hin6:Ind (fun k=>k<W3.heap.size) W6 (fun W=>Rep W t'):=HIN.out.to (by rw [← hW6];simp only [World.setCell,Array.size_modify];exact h5.size) (fun q hq hx=>by
            have:q ≠ g:=by omega
            rw [← hW6,set_otherC this];exact h5.block q hq) (fun _ _ h=>h) (fun _ h=>h)
          have HFIN:=Lib.hid (val_finP H6.out (b:=w.heap.size) (Nat.le_refl _) hne2 hlow hzz hin6 (.int .i64 k0) (.bool b0) (.bool ng) (.slice ma mn mc) (.int .i64 ex) (.string st) (.slice ka kn kc) (.slice va vn vc))
          have x0:W6.cell? ⟨w4.heap.size,0,none⟩=some (.int .i64 k0):=cellOf hbn 0 rfl
          have x1:W6.cell? ⟨w4.heap.size,1,none⟩=some (.bool b0):=cellOf hbn 1 rfl
          have x2:W6.cell? ⟨w4.heap.size,2,none⟩=some (.bool ng):=cellOf hbn 2 rfl
          have x3:W6.cell? ⟨w4.heap.size,3,none⟩=some (.slice ma mn mc):=cellOf hbn 3 rfl
          have x4:W6.cell? ⟨w4.heap.size,4,none⟩=some (.int .i64 ex):=cellOf hbn 4 rfl
          have x5:W6.cell? ⟨w4.heap.size,5,none⟩=some (.string st):=cellOf hbn 5 rfl
          have x6:W6.cell? ⟨w4.heap.size,6,none⟩=some (.slice ka kn kc):=cellOf hbn 6 rfl
          have x7:W6.cell? ⟨w4.heap.size,7,none⟩=some (.slice va vn vc):=cellOf hbn 7 rfl
          have y0:W6.cell? ⟨w.heap.size,0,none⟩=some (.int .i64 0):=cellOf hbx6 0 rfl
          have z0:=freeOf hbx6 0
          have y1:W6.cell? ⟨w.heap.size,1,none⟩=some (.bool false):=cellOf hbx6 1 rfl
          have z1:=freeOf hbx6 1
          have y2:W6.cell? ⟨w.heap.size,2,none⟩=some (.bool false):=cellOf hbx6 2 rfl
          have z2:=freeOf hbx6 2
          have y3:W6.cell? ⟨w.heap.size,3,none⟩=some (.slice none 0 0):=cellOf hbx6 3 rfl
          have z3:=freeOf hbx6 3
          have y4:W6.cell? ⟨w.heap.size,4,none⟩=some (.int .i64 0):=cellOf hbx6 4 rfl
          have z4:=freeOf hbx6 4
          have y5:W6.cell? ⟨w.heap.size,5,none⟩=some (.string ⟨#[]⟩):=cellOf hbx6 5 rfl
          have z5:=freeOf hbx6 5
          have y6:W6.cell? ⟨w.heap.size,6,none⟩=some (.slice none 0 0):=cellOf hbx6 6 rfl
          have z6:=freeOf hbx6 6
          have y7:W6.cell? ⟨w.heap.size,7,none⟩=some (.slice none 0 0):=cellOf hbx6 7 rfl
          have z7:=freeOf hbx6 7
          have hn8:¬ w4.heap.size=w.heap.size:=by have:=h4.oth.size;omega
          have hn9:¬ w.heap.size=w4.heap.size:=fun e=>hn8 e.symm
          have HW5:=Lib.hid hW5;have HW6:=Lib.hid hW6
          unfold Cel.val
          clear h4 h5 hst5 hbx4 hbx5 hbx6 hin6 hbn hq5 hin hbare c1 c2 f1 f2 c1b f1b hW5 hW6 hc
          go_upto_region 7 with fail
          rw [HW5.out]
          go_upto_region 8 with fail
          rw [HW6.out]
          go_wp2_with fail
          refine bodyPost_ret (v:=.agg #[.int .i64 k0,.bool b0,.bool ng,.slice ma mn mc,.int .i64 ex,.string st,.slice ka kn kc,.slice va vn vc]) (by simp [results,Tryz.results57,go_sem,y0,y1,y2,y3,y4,y5,y6,y7]) rfl ?_
          exact ValP.yes t' rfl (by rw [HC.out];rfl) HBR.out HFIN.out.1 HFIN.out.2
theorem value_allP {w0:World} (hU:UT w0) {g:Nat}:∀ f d,d+f=64→ValPC w0 g d (pkValue (f+1)):=by
  intro f
  induction f with
  | zero=>intro d h;exact value_pk hU h (fun h=>absurd rfl h)
  | succ f ih=>intro d h;exact value_pk hU h (fun _=>ih (d+1) (by omega))
/-- The closure that catches: what was thrown becomes the answer. -/
theorem catch_thrownP (g h : Nat) (v0 v1 v2 v3 v4 v5 v6 v7 u : Value) (x : Int) (older : List PanicEntry) (w : World) (n1 : g ≠ h)
    (c0 : w.cell? ⟨g, 0, none⟩ = some v0) (f0 : w.frozen? ⟨g, 0, none⟩ = false)
    (c1 : w.cell? ⟨g, 1, none⟩ = some v1) (f1 : w.frozen? ⟨g, 1, none⟩ = false)
    (c2 : w.cell? ⟨g, 2, none⟩ = some v2) (f2 : w.frozen? ⟨g, 2, none⟩ = false)
    (c3 : w.cell? ⟨g, 3, none⟩ = some v3) (f3 : w.frozen? ⟨g, 3, none⟩ = false)
    (c4 : w.cell? ⟨g, 4, none⟩ = some v4) (f4 : w.frozen? ⟨g, 4, none⟩ = false)
    (c5 : w.cell? ⟨g, 5, none⟩ = some v5) (f5 : w.frozen? ⟨g, 5, none⟩ = false)
    (c6 : w.cell? ⟨g, 6, none⟩ = some v6) (f6 : w.frozen? ⟨g, 6, none⟩ = false)
    (c7 : w.cell? ⟨g, 7, none⟩ = some v7) (f7 : w.frozen? ⟨g, 7, none⟩ = false)
    (ch : w.cell? ⟨h, 0, none⟩ = some u) (fh : w.frozen? ⟨h, 0, none⟩ = false) :
    CallsD Tryz.prog 56 #[.pointer (some ⟨g, 0, none⟩), .pointer (some ⟨h, 0, none⟩)] (.panicking ({ v := .iface 32 (.int .i64 x), recovered := false } :: older)) w fun e u' w' =>
      e = .returned (.tuple #[]) ∧ u' = .panicking ({ v := .iface 32 (.int .i64 x), recovered := true } :: older) ∧
        w' = (((((((((w.setCell ⟨g, 0, none⟩ (.int .i64 0)).setCell ⟨g, 1, none⟩ (.bool false)).setCell ⟨g, 2, none⟩ (.bool false)).setCell ⟨g, 3, none⟩ (.slice none 0 0)).setCell ⟨g, 4, none⟩ (.int .i64 0)).setCell ⟨g, 5, none⟩ (.string ⟨#[]⟩)).setCell ⟨g, 6, none⟩ (.slice none 0 0)).setCell ⟨g, 7, none⟩ (.slice none 0 0)).setCell ⟨h, 0, none⟩ (.int .i64 x)).drew := by
  refine callsD_of_wpS Tryz.func56 rfl fun c₀ cs hu => ?_
  apply wpS_seq
  apply wpS_region
  simp [wpOpsS, go_sem, recoverD, hu, Tryz.ntmps56, Exit.thenS]
  apply wpS_seq
  apply wpS_region
  simp [wpOpsS, go_sem, Exit.thenS]
  refine wpS_cond (t := true) (by simp [Act.eval, Array.replicate]) ?_
  simp only [if_true]
  refine wpS_of_wp ?_
  change Code.wp _ _ _ { tmps := #[.pointer (some ⟨g, 0, none⟩), .pointer (some ⟨h, 0, none⟩), .iface 32 (.int .i64 x), .iface 32 (.int .i64 x), .iface 32 (.int .i64 x), .bool true, undef, undef, undef], defers := [] } w
  have hne1 : ¬ h = g := fun hh => n1 hh.symm
  have hta := assert_errnoC x
  go_region
  exact ⟨rfl, _, rfl, .tuple #[], by simp [results, Tryz.results56, go_sem], rfl, rfl, rfl⟩
theorem catch_idleP (p q:Addr) (w:World) :
    CallsD Tryz.prog 56 #[.pointer (some p),.pointer (some q)] .returning w fun e u' w'=>e=.returned (.tuple #[])∧u'=.returning∧w'=w:=by
  refine callsD_of_wpS Tryz.func56 rfl fun c₀ cs hu=>?_
  apply wpS_seq
  apply wpS_region
  simp [wpOpsS,go_sem,recoverD,hu,Tryz.ntmps56,Exit.thenS]
  apply wpS_seq
  apply wpS_region
  simp [wpOpsS,go_sem,Exit.thenS]
  refine wpS_cond (t:=false) (by simp [Act.eval,Array.replicate]) ?_
  simp only [Bool.false_eq_true,if_false]
  refine wpS_of_wp (wp_skip ?_)
  cases c₀
  simp_all [bodyPostS,results,Tryz.results56]
theorem decode_longP (ad:Option Addr) (n cap:Nat) (w:World) (hbig:32768<n) :
    Calls Tryz.prog 27 #[.slice ad n cap] w (DecC (.inr 4) w):=by
  have hmf:∀ (fn:Fn) (first cap:Array Value) (w:World),(Instr.makeFunc fn first cap).run Tryz.prog w=.ok (.func fn first cap) w:=fun _ _ _ _=>rfl
  generalize hW:(w.alloc (.cells #[.int .i64 0,.bool false,.bool false,.slice none 0 0,.int .i64 0,.string ⟨#[]⟩,.slice none 0 0,.slice none 0 0] 29)).alloc (.cells #[.int .i64 0] 32)=W
  have hb0:Below w.heap.size w W:=by
    rw [← hW];exact ((Below.refl _ _).alloc (Nat.le_refl _) _).alloc (by simp) _
  have q0:W.heap[w.heap.size]? = some (.cells #[.int .i64 0,.bool false,.bool false,.slice none 0 0,.int .i64 0,.string ⟨#[]⟩,.slice none 0 0,.slice none 0 0] 29):=by rw [← hW];exact (Below.heap_alloc _ _ _ (by simp)).trans (heap_alloc_new w _)
  have q1:W.heap[w.heap.size+1]? = some (.cells #[.int .i64 0] 32):=by
    rw [← hW];have:=heap_alloc_new (w.alloc (.cells #[.int .i64 0,.bool false,.bool false,.slice none 0 0,.int .i64 0,.string ⟨#[]⟩,.slice none 0 0,.slice none 0 0] 29)) (.cells #[.int .i64 0] 32);simpa using this
  have a0:World.cell? W ⟨w.heap.size,0,none⟩=some (.int .i64 0):=cellOf q0 0 rfl
  have af0:=freeOf q0 0
  have a1:World.cell? W ⟨w.heap.size,1,none⟩=some (.bool false):=cellOf q0 1 rfl
  have af1:=freeOf q0 1
  have a2:World.cell? W ⟨w.heap.size,2,none⟩=some (.bool false):=cellOf q0 2 rfl
  have af2:=freeOf q0 2
  have a3:World.cell? W ⟨w.heap.size,3,none⟩=some (.slice none 0 0):=cellOf q0 3 rfl
  have af3:=freeOf q0 3
  have a4:World.cell? W ⟨w.heap.size,4,none⟩=some (.int .i64 0):=cellOf q0 4 rfl
  have af4:=freeOf q0 4
  have a5:World.cell? W ⟨w.heap.size,5,none⟩=some (.string ⟨#[]⟩):=cellOf q0 5 rfl
  have af5:=freeOf q0 5
  have a6:World.cell? W ⟨w.heap.size,6,none⟩=some (.slice none 0 0):=cellOf q0 6 rfl
  have af6:=freeOf q0 6
  have a7:World.cell? W ⟨w.heap.size,7,none⟩=some (.slice none 0 0):=cellOf q0 7 rfl
  have af7:=freeOf q0 7
  have b0:W.cell? ⟨w.heap.size+1,0,none⟩=some (.int .i64 0):=cellOf q1 0 rfl
  have bf0:=freeOf q1 0
  have hgt:decide ((32768:Int)<(n:Int))=true:=decide_eq_true (by omega)
  have HB:=Lib.hid hb0
  have hW2:=Lib.hid hW
  clear hW hb0 q0 q1
  go_enter_defers Tryz.func27,Tryz.ntmps27
  go_wp2_with fail
  rw [hW2.out]
  go_wp2
  refine leaves_cons (f:=56) (args:=#[.pointer (some ⟨w.heap.size,0,none⟩),.pointer (some ⟨w.heap.size+1,0,none⟩)]) (by simp) (by simp [go_sem]) ?_
  refine (catch_thrownP w.heap.size (w.heap.size+1) _ _ _ _ _ _ _ _ _ 4 [] _ (by omega) a0 af0 a1 af1 a2 af2 a3 af3 a4 af4 a5 af5 a6 af6 a7 af7 b0 bf0).mono ?_
  rintro e u' w'' ⟨rfl,rfl,rfl⟩
  simp [Leaves,settle,results,Tryz.results27,go_sem,a0,a1,a2,a3,a4,a5,a6,a7,b0]
  exact DecC.no rfl rfl ((((((((((HB.out.setCell (by simp) _).setCell (by simp) _).setCell (by simp) _).setCell (by simp) _).setCell (by simp) _).setCell (by simp) _).setCell (by simp) _).setCell (by simp) _).setCell (by simp) _).drew)
theorem decode_shortP (ad:Option Addr) (n cap:Nat) (l:List Nat) (w:World) (hln:l.length=n) (hl:n≤32768) (hc:n≤cap) (hok:Okb l) (hr:RdV w ad (bc l)) (hsh:Shp ad cap) (R:RC MT)
    (hV:∀ W,RdP w (w.heap.size+1+1) l 0 0 W→Calls Tryz.prog 57 #[.pointer (some ⟨(w.heap.size+1+1),0,none⟩)] W (ValP w (w.heap.size+1+1) 0 R W)) :
    Calls Tryz.prog 27 #[.slice ad n cap] w (DecC (finC R) w):=by
  have hmf:∀ (fn:Fn) (first cap:Array Value) (w:World),(Instr.makeFunc fn first cap).run Tryz.prog w=.ok (.func fn first cap) w:=fun _ _ _ _=>rfl
  generalize hW:((w.alloc (.cells #[.int .i64 0,.bool false,.bool false,.slice none 0 0,.int .i64 0,.string ⟨#[]⟩,.slice none 0 0,.slice none 0 0] 29)).alloc (.cells #[.int .i64 0] 32)).alloc (.cells #[.slice ad n cap,.int .i64 0,.int .i64 0] 89)=W
  have hb0:Below w.heap.size w W:=by
    rw [← hW];exact (((Below.refl _ _).alloc (Nat.le_refl _) _).alloc (by simp) _).alloc (by simp;omega) _
  have hsW:W.heap.size=w.heap.size+3:=by rw [← hW];simp
  have q0:W.heap[w.heap.size]? = some (.cells #[.int .i64 0,.bool false,.bool false,.slice none 0 0,.int .i64 0,.string ⟨#[]⟩,.slice none 0 0,.slice none 0 0] 29):=by
    rw [← hW];exact ((Below.heap_alloc _ _ _ (by simp;omega)).trans (Below.heap_alloc _ _ _ (by simp))).trans (heap_alloc_new w _)
  have q1:W.heap[w.heap.size+1]? = some (.cells #[.int .i64 0] 32):=by
    rw [← hW]
    refine (Below.heap_alloc _ _ _ (by simp)).trans ?_
    have:=heap_alloc_new (w.alloc (.cells #[.int .i64 0,.bool false,.bool false,.slice none 0 0,.int .i64 0,.string ⟨#[]⟩,.slice none 0 0,.slice none 0 0] 29)) (.cells #[.int .i64 0] 32);simpa using this
  have q2:RdP w (w.heap.size+1+1) l 0 0 W:=by
    refine ⟨by omega,hb0,hok,by omega,ad,cap,?_,by omega,hr,hsh⟩
    rw [← hW,hln]
    have:=heap_alloc_new ((w.alloc (.cells #[.int .i64 0,.bool false,.bool false,.slice none 0 0,.int .i64 0,.string ⟨#[]⟩,.slice none 0 0,.slice none 0 0] 29)).alloc (.cells #[.int .i64 0] 32)) (.cells #[.slice ad n cap,.int .i64 0,.int .i64 0] 89)
    simpa using this
  have KV:=Lib.hid (hV W q2)
  have hgt:¬ 32768<n:=by omega
  have HB:=Lib.hid hb0
  have Q0:=Lib.hid q0;have Q1:=Lib.hid q1
  have hW2:=Lib.hid hW
  clear hW hb0 q0 q1 q2 hV hr hsh hok hln
  go_enter_defers Tryz.func27,Tryz.ntmps27
  go_wp2_with fail
  rw [hW2.out]
  refine KV.out.mono ?_
  intro r w1 hp
  unfold ValP at hp
  cases R with
  | inr y =>
    obtain ⟨rfl,la,da,na,h2⟩:=hp
    have p0:=(h2.oth.block w.heap.size (by omega) (by omega)).trans Q0.out
    have p1:=(h2.oth.block (w.heap.size+1) (by omega) (by omega)).trans Q1.out
    have HB1:Hid (Below w.heap.size w w1):=Lib.hid (HB.out.trans (h2.oth.below (by omega) (by omega)))
    have a0:World.cell? w1 ⟨w.heap.size,0,none⟩=some (.int .i64 0):=cellOf p0 0 rfl
    have af0:=freeOf p0 0
    have a1:World.cell? w1 ⟨w.heap.size,1,none⟩=some (.bool false):=cellOf p0 1 rfl
    have af1:=freeOf p0 1
    have a2:World.cell? w1 ⟨w.heap.size,2,none⟩=some (.bool false):=cellOf p0 2 rfl
    have af2:=freeOf p0 2
    have a3:World.cell? w1 ⟨w.heap.size,3,none⟩=some (.slice none 0 0):=cellOf p0 3 rfl
    have af3:=freeOf p0 3
    have a4:World.cell? w1 ⟨w.heap.size,4,none⟩=some (.int .i64 0):=cellOf p0 4 rfl
    have af4:=freeOf p0 4
    have a5:World.cell? w1 ⟨w.heap.size,5,none⟩=some (.string ⟨#[]⟩):=cellOf p0 5 rfl
    have af5:=freeOf p0 5
    have a6:World.cell? w1 ⟨w.heap.size,6,none⟩=some (.slice none 0 0):=cellOf p0 6 rfl
    have af6:=freeOf p0 6
    have a7:World.cell? w1 ⟨w.heap.size,7,none⟩=some (.slice none 0 0):=cellOf p0 7 rfl
    have af7:=freeOf p0 7
    have b0:w1.cell? ⟨w.heap.size+1,0,none⟩=some (.int .i64 0):=cellOf p1 0 rfl
    have bf0:=freeOf p1 0
    clear p0 p1 h2 KV
    go_wp2
    refine leaves_cons (f:=56) (args:=#[.pointer (some ⟨w.heap.size,0,none⟩),.pointer (some ⟨w.heap.size+1,0,none⟩)]) (by simp) (by simp [go_sem]) ?_
    refine (catch_thrownP w.heap.size (w.heap.size+1) _ _ _ _ _ _ _ _ _ y [] _ (by omega) a0 af0 a1 af1 a2 af2 a3 af3 a4 af4 a5 af5 a6 af6 a7 af7 b0 bf0).mono ?_
    rintro e u' w'' ⟨rfl,rfl,rfl⟩
    simp [Leaves,settle,results,Tryz.results27,go_sem,a0,a1,a2,a3,a4,a5,a6,a7,b0]
    exact DecC.no rfl rfl ((((((((((HB1.out.setCell (by simp) _).setCell (by simp) _).setCell (by simp) _).setCell (by simp) _).setCell (by simp) _).setCell (by simp) _).setCell (by simp) _).setCell (by simp) _).setCell (by simp) _).drew)
  | inl p =>
    obtain ⟨t,l2,n2⟩:=p
    obtain ⟨t',rfl,hbare,hi,h2⟩:=hp
    have p0:=(h2.oth.block w.heap.size (by omega) (by omega)).trans Q0.out
    have p1:=(h2.oth.block (w.heap.size+1) (by omega) (by omega)).trans Q1.out
    have HS:Hid (StP w (w.heap.size+1+1) l2 0 n2 w w1):=Lib.hid ⟨(But.of_below HB.out).trans h2.oth,h2.rd⟩
    have HM:=Lib.hid hbare
    obtain ⟨⟨k,b,neg,ma,mn,mc,x,s,ka,kn,kc,va,vn,vc⟩,M,K,V⟩:=t'
    dsimp only [MT.c,Cel.val]
    have a0:World.cell? w1 ⟨w.heap.size,0,none⟩=some (.int .i64 0):=cellOf p0 0 rfl
    have af0:=freeOf p0 0
    have a1:World.cell? w1 ⟨w.heap.size,1,none⟩=some (.bool false):=cellOf p0 1 rfl
    have af1:=freeOf p0 1
    have a2:World.cell? w1 ⟨w.heap.size,2,none⟩=some (.bool false):=cellOf p0 2 rfl
    have af2:=freeOf p0 2
    have a3:World.cell? w1 ⟨w.heap.size,3,none⟩=some (.slice none 0 0):=cellOf p0 3 rfl
    have af3:=freeOf p0 3
    have a4:World.cell? w1 ⟨w.heap.size,4,none⟩=some (.int .i64 0):=cellOf p0 4 rfl
    have af4:=freeOf p0 4
    have a5:World.cell? w1 ⟨w.heap.size,5,none⟩=some (.string ⟨#[]⟩):=cellOf p0 5 rfl
    have af5:=freeOf p0 5
    have a6:World.cell? w1 ⟨w.heap.size,6,none⟩=some (.slice none 0 0):=cellOf p0 6 rfl
    have af6:=freeOf p0 6
    have a7:World.cell? w1 ⟨w.heap.size,7,none⟩=some (.slice none 0 0):=cellOf p0 7 rfl
    have af7:=freeOf p0 7
    have HS8:Hid (StP w (w.heap.size+1+1) l2 0 n2 w ((((((((w1.setCell ⟨w.heap.size,0,none⟩ (.int .i64 k)).setCell ⟨w.heap.size,1,none⟩ (.bool b)).setCell ⟨w.heap.size,2,none⟩ (.bool neg)).setCell ⟨w.heap.size,3,none⟩ (.slice ma mn mc)).setCell ⟨w.heap.size,4,none⟩ (.int .i64 x)).setCell ⟨w.heap.size,5,none⟩ (.string s)).setCell ⟨w.heap.size,6,none⟩ (.slice ka kn kc)).setCell ⟨w.heap.size,7,none⟩ (.slice va vn vc))):=Lib.hid ((((((((HS.out.fresh (Nat.le_refl _) (by omega) (Nat.le_refl _) _ _).fresh (Nat.le_refl _) (by omega) (Nat.le_refl _) _ _).fresh (Nat.le_refl _) (by omega) (Nat.le_refl _) _ _).fresh (Nat.le_refl _) (by omega) (Nat.le_refl _) _ _).fresh (Nat.le_refl _) (by omega) (Nat.le_refl _) _ _).fresh (Nat.le_refl _) (by omega) (Nat.le_refl _) _ _).fresh (Nat.le_refl _) (by omega) (Nat.le_refl _) _ _).fresh (Nat.le_refl _) (by omega) (Nat.le_refl _) _ _)
    have hP0:((((((((w1.setCell ⟨w.heap.size,0,none⟩ (.int .i64 k)).setCell ⟨w.heap.size,1,none⟩ (.bool b)).setCell ⟨w.heap.size,2,none⟩ (.bool neg)).setCell ⟨w.heap.size,3,none⟩ (.slice ma mn mc)).setCell ⟨w.heap.size,4,none⟩ (.int .i64 x)).setCell ⟨w.heap.size,5,none⟩ (.string s)).setCell ⟨w.heap.size,6,none⟩ (.slice ka kn kc)).setCell ⟨w.heap.size,7,none⟩ (.slice va vn vc)).heap[w.heap.size]? = some (.cells #[.int .i64 k,.bool b,.bool neg,.slice ma mn mc,.int .i64 x,.string s,.slice ka kn kc,.slice va vn vc] 29):=by simp [World.setCell,Array.getElem?_modify,p0]
    have hP1:((((((((w1.setCell ⟨w.heap.size,0,none⟩ (.int .i64 k)).setCell ⟨w.heap.size,1,none⟩ (.bool b)).setCell ⟨w.heap.size,2,none⟩ (.bool neg)).setCell ⟨w.heap.size,3,none⟩ (.slice ma mn mc)).setCell ⟨w.heap.size,4,none⟩ (.int .i64 x)).setCell ⟨w.heap.size,5,none⟩ (.string s)).setCell ⟨w.heap.size,6,none⟩ (.slice ka kn kc)).setCell ⟨w.heap.size,7,none⟩ (.slice va vn vc)).heap[w.heap.size+1]? = some (.cells #[.int .i64 0] 32):=by
      have hne:w.heap.size+1 ≠ w.heap.size:=by omega
      rw [set_otherC hne,set_otherC hne,set_otherC hne,set_otherC hne,set_otherC hne,set_otherC hne,set_otherC hne,set_otherC hne];exact p1
    have HI8:Hid (Ind (fun k=>k<W.heap.size) ((((((((w1.setCell ⟨w.heap.size,0,none⟩ (.int .i64 k)).setCell ⟨w.heap.size,1,none⟩ (.bool b)).setCell ⟨w.heap.size,2,none⟩ (.bool neg)).setCell ⟨w.heap.size,3,none⟩ (.slice ma mn mc)).setCell ⟨w.heap.size,4,none⟩ (.int .i64 x)).setCell ⟨w.heap.size,5,none⟩ (.string s)).setCell ⟨w.heap.size,6,none⟩ (.slice ka kn kc)).setCell ⟨w.heap.size,7,none⟩ (.slice va vn vc)) (fun W=>Rep W (.mk ⟨k,b,neg,ma,mn,mc,x,s,ka,kn,kc,va,vn,vc⟩ M K V))):=Lib.hid (hi.to (by simp [World.setCell]) (fun j hj hx=>by
      have hx':¬ j<W.heap.size:=hx
      have hne:j ≠ w.heap.size:=by omega
      rw [set_otherC hne,set_otherC hne,set_otherC hne,set_otherC hne,set_otherC hne,set_otherC hne,set_otherC hne,set_otherC hne]) (fun _ _ h=>h) (fun _ h=>h))
    obtain ⟨ad2,cap2,c0,_,_,_⟩:=HS8.out.rd.cell
    replace c0:=cellOf c0 0 rfl
    obtain ⟨ln2,hln2⟩:∃ ln2,l2.length=ln2:=⟨_,rfl⟩
    rw [hln2] at c0
    have HL2:=Lib.hid hln2
    have HP0:=Lib.hid hP0;have HP1:=Lib.hid hP1;have HQ0:=Lib.hid p0
    clear h2 KV hi hbare HS hln2 hP0 hP1 p0 p1
    clear a0 a1 a2 a3 a4 a5 a6 a7 af0 af1 af2 af3 af4 af5 af6 af7
    have a0:World.cell? w1 ⟨w.heap.size,0,none⟩=some (.int .i64 0):=cellOf HQ0.out 0 rfl
    have af0:=freeOf HQ0.out 0
    have a1:World.cell? w1 ⟨w.heap.size,1,none⟩=some (.bool false):=cellOf HQ0.out 1 rfl
    have af1:=freeOf HQ0.out 1
    have a2:World.cell? w1 ⟨w.heap.size,2,none⟩=some (.bool false):=cellOf HQ0.out 2 rfl
    have af2:=freeOf HQ0.out 2
    have a3:World.cell? w1 ⟨w.heap.size,3,none⟩=some (.slice none 0 0):=cellOf HQ0.out 3 rfl
    have af3:=freeOf HQ0.out 3
    have a4:World.cell? w1 ⟨w.heap.size,4,none⟩=some (.int .i64 0):=cellOf HQ0.out 4 rfl
    have af4:=freeOf HQ0.out 4
    have a5:World.cell? w1 ⟨w.heap.size,5,none⟩=some (.string ⟨#[]⟩):=cellOf HQ0.out 5 rfl
    have af5:=freeOf HQ0.out 5
    have a6:World.cell? w1 ⟨w.heap.size,6,none⟩=some (.slice none 0 0):=cellOf HQ0.out 6 rfl
    have af6:=freeOf HQ0.out 6
    have a7:World.cell? w1 ⟨w.heap.size,7,none⟩=some (.slice none 0 0):=cellOf HQ0.out 7 rfl
    have af7:=freeOf HQ0.out 7
    go_upto_region 6 with fail
    generalize ((((((((w1.setCell ⟨w.heap.size,0,none⟩ (.int .i64 k)).setCell ⟨w.heap.size,1,none⟩ (.bool b)).setCell ⟨w.heap.size,2,none⟩ (.bool neg)).setCell ⟨w.heap.size,3,none⟩ (.slice ma mn mc)).setCell ⟨w.heap.size,4,none⟩ (.int .i64 x)).setCell ⟨w.heap.size,5,none⟩ (.string s)).setCell ⟨w.heap.size,6,none⟩ (.slice ka kn kc)).setCell ⟨w.heap.size,7,none⟩ (.slice va vn vc))=w2 at *
    clear a0 a1 a2 a3 a4 a5 a6 a7 af0 af1 af2 af3 af4 af5 af6 af7
    have a0:World.cell? w2 ⟨w.heap.size,0,none⟩=some (.int .i64 k):=cellOf HP0.out 0 rfl
    have af0:=freeOf HP0.out 0
    have a1:World.cell? w2 ⟨w.heap.size,1,none⟩=some (.bool b):=cellOf HP0.out 1 rfl
    have af1:=freeOf HP0.out 1
    have a2:World.cell? w2 ⟨w.heap.size,2,none⟩=some (.bool neg):=cellOf HP0.out 2 rfl
    have af2:=freeOf HP0.out 2
    have a3:World.cell? w2 ⟨w.heap.size,3,none⟩=some (.slice ma mn mc):=cellOf HP0.out 3 rfl
    have af3:=freeOf HP0.out 3
    have a4:World.cell? w2 ⟨w.heap.size,4,none⟩=some (.int .i64 x):=cellOf HP0.out 4 rfl
    have af4:=freeOf HP0.out 4
    have a5:World.cell? w2 ⟨w.heap.size,5,none⟩=some (.string s):=cellOf HP0.out 5 rfl
    have af5:=freeOf HP0.out 5
    have a6:World.cell? w2 ⟨w.heap.size,6,none⟩=some (.slice ka kn kc):=cellOf HP0.out 6 rfl
    have af6:=freeOf HP0.out 6
    have a7:World.cell? w2 ⟨w.heap.size,7,none⟩=some (.slice va vn vc):=cellOf HP0.out 7 rfl
    have af7:=freeOf HP0.out 7
    have b0:w2.cell? ⟨w.heap.size+1,0,none⟩=some (.int .i64 0):=cellOf HP1.out 0 rfl
    have bf0:=freeOf HP1.out 0
    have n1:¬ w.heap.size+1=w.heap.size:=by omega
    by_cases h0:ln2=0
    · have HS:Hid (l2=[]):=Lib.hid (List.eq_nil_of_length_eq_zero (by rw [HL2.out];exact h0))
      have e0:¬ 0<ln2:=by omega
      clear h0
      go_wp2
      refine leaves_cons (f:=56) (args:=#[.pointer (some ⟨w.heap.size,0,none⟩),.pointer (some ⟨w.heap.size+1,0,none⟩)]) (by simp) (by simp [go_sem]) ?_
      refine (catch_idleP _ _ _).mono ?_
      rintro e u' w'' ⟨rfl,rfl,rfl⟩
      simp [Leaves,settle,results,Tryz.results27,go_sem,a0,a1,a2,a3,a4,a5,a6,a7,b0]
      rw [show finC (.inl (t,l2,n2))=.inl t from by unfold finC;simp [HS.out]]
      refine ⟨.mk ⟨k,b,neg,ma,mn,mc,x,s,ka,kn,kc,va,vn,vc⟩ M K V,rfl,HM.out,HI8.out _ (by simp [World.setCell]) (fun j hj hx=>?_),((((((((((HS8.out.oth.below (by omega) (Nat.le_refl _)).setCell (by simp) _).setCell (by simp) _).setCell (by simp) _).setCell (by simp) _).setCell (by simp) _).setCell (by simp) _).setCell (by simp) _).setCell (by simp) _).setCell (by simp) _)⟩
      have hx':¬ j<W.heap.size:=hx
      have hne:j ≠ w.heap.size:=by omega
      have hne2:j ≠ w.heap.size+1:=by omega
      rw [set_otherC hne2,set_otherC hne,set_otherC hne,set_otherC hne,set_otherC hne,set_otherC hne,set_otherC hne,set_otherC hne,set_otherC hne]
    · have HS:Hid (¬ l2=[]):=Lib.hid (fun h=>h0 (by rw [← HL2.out,h];rfl))
      have e0:0<ln2:=by omega
      clear h0
      go_wp2
      refine leaves_cons (f:=56) (args:=#[.pointer (some ⟨w.heap.size,0,none⟩),.pointer (some ⟨w.heap.size+1,0,none⟩)]) (by simp) (by simp [go_sem]) ?_
      refine (catch_thrownP w.heap.size (w.heap.size+1) _ _ _ _ _ _ _ _ _ 2 [] _ (by omega) a0 af0 a1 af1 a2 af2 a3 af3 a4 af4 a5 af5 a6 af6 a7 af7 b0 bf0).mono ?_
      rintro e u' w'' ⟨rfl,rfl,rfl⟩
      simp [Leaves,settle,results,Tryz.results27,go_sem,a0,a1,a2,a3,a4,a5,a6,a7,b0]
      exact DecC.no (by unfold finC;simp [HS.out]) rfl (((((((((((HS8.out.oth.below (by omega) (Nat.le_refl _)).setCell (by simp) _).setCell (by simp) _).setCell (by simp) _).setCell (by simp) _).setCell (by simp) _).setCell (by simp) _).setCell (by simp) _).setCell (by simp) _).setCell (by simp) _).drew)
theorem decode_pk (ad:Option Addr) (n cap:Nat) (l:List Nat) (w:World) (hU:UT w) (hln:l.length=n) (hc:n≤cap) (hok:Okb l) (hr:RdV w ad (bc l)) (hsh:Shp ad cap) :
    Calls Tryz.prog 27 #[.slice ad n cap] w (DecC (pkDecode l) w):=by
  unfold pkDecode
  rw [hln]
  by_cases h:32768<n
  · rw [if_pos h];exact decode_longP ad n cap w h
  · rw [if_neg h]
    have:=decode_shortP ad n cap l w hln (by omega) hc hok hr hsh (pkValue 65 l 0) (fun W hW=>value_allP hU 64 0 rfl W l 0 (by omega) hW)
    unfold finC at this
    cases hv:pkValue 65 l 0 with
    | inr x=>rw [hv] at this;exact this
    | inl p=>obtain ⟨t,r,k⟩:=p;rw [hv] at this;exact this
end Go.Proofs.YtnacbakcalcgaaaGreatDoor
