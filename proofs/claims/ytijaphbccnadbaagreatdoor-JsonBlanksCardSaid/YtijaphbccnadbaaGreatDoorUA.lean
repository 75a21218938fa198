/- Texts of the claim. -/
import Derived.Test.YtijaphbccnadbaaGreatDoorUw
import Derived.Test.YtijaphbccnadbaaGreatDoorUz
import Derived.Test.YtijaphbccnadbaaGreatDoorUl
set_option linter.unusedVariables false
set_option linter.unusedSimpArgs false
set_option maxHeartbeats 8000000
set_option maxRecDepth 100000
namespace Go.Proofs.YtijaphbccnadbaaGreatDoor
open Go.RowKit Go.Shelf Go.Lib
theorem rl_cutS {P:Program} (w:World) (ev:Operand→Value) (o:Oper) (t:TypeId) (x y:Operand) (s:ByteArray) (j:Nat) (ho:o.op=.slice t x none (some y) none) (hx:ev x=.string s) (hy:ev y=.int .i64 (j:Int))
    (hu:P.underlying t=some .string) (hj:j≤s.size):(execOp ev o).run P w=.ok (.value (.string (s.extract 0 j))) w:=by
  have hb:Sem.run P (Instr.sliceBound (Value.int IntKind.i64 (j:Int)) s.size BoundsCode.sliceAlen) w=.ok j w:=by
    have h2:(0:Int)≤(j:Int)∧(j:Int)≤(s.size:Int):=by omega
    simp [Instr.sliceBound,go_sem,asIntOf,h2]
  simp [execOp,ho,hx,hy,Instr.sliceAt,Instr.slice,Instr.sliceBounds,Sem.run_bind,run_underlying hu,Result.andThen,hb]
theorem box3_there {W:World} {gb:Nat} {t:TypeId} {v0 v1 v2:Value} (h:W.heap[gb]? = some (.cells #[v0,v1,v2] t)) {u0 u1 u2:Value}:∀ j,j<(#[u0,u1,u2]:Array Value).size→(W.cell? ⟨gb,0+j,none⟩).isSome=true∧W.frozen? ⟨gb,0+j,none⟩=false:=by
  intro j hj
  have hj:j<3:=hj
  match j,hj with
  | 0,_=>simp [World.cell?,World.frozen?,h]
  | 1,_=>simp [World.cell?,World.frozen?,h]
  | 2,_=>simp [World.cell?,World.frozen?,h]
theorem parseN_err {l:List Nat} {x:Int} (h:parseN l=.inr x):x=2∨x=4:=by
  unfold parseN at h
  split at h
  · simp at h;omega
  · split at h
    · simp at h;omega
    · split at h
      · simp at h;omega
      · cases h
theorem set3_out {W:World} {gb k:Nat} {u0 u1 u2:Value} (h:k ≠ gb):(W.setCells gb 0 [u0,u1,u2]).heap[k]? = W.heap[k]?:=by
  simp only [World.setCells]
  rw [set_other h,set_other h,set_other h]
theorem set3_size {W:World} {gb:Nat} {u0 u1 u2:Value}:(W.setCells gb 0 [u0,u1,u2]).heap.size=W.heap.size:=by simp [World.setCells,World.setCell]
theorem set3_in {W:World} {gb:Nat} {t:TypeId} {v0 v1 v2 u0 u1 u2:Value} (h:W.heap[gb]? = some (.cells #[v0,v1,v2] t)):(W.setCells gb 0 [u0,u1,u2]).heap[gb]? = some (.cells #[u0,u1,u2] t):=by
  simp [World.setCells,World.setCell,Array.getElem?_modify,h]
theorem StJ.set3 {g:Nat} {l:List UInt8} {d n:Nat} {w W:World} (h:StJ g l d n w W) {gb:Nat} (hb:w.heap.size≤gb) (hg:gb ≠ g) (u0 u1 u2:Value):StJ g l d n w (W.setCells gb 0 [u0,u1,u2]):=by
  simp only [World.setCells]
  exact ((h.fresh hb hg _ _).fresh hb hg _ _).fresh hb hg _ _
theorem NumJ.yes {g d n:Nat} {r:((Bool × Nat × Int) × List UInt8) ⊕ Int} {p:Bool × Nat × Int} {l:List UInt8} {w w':World} {ad:Option Addr} {k cap:Nat} (h:r=.inl (p,l)) (hk:(limbs p.2.1).length=k) (hi:Ind (fun k=>k<w.heap.size) w' (fun W=>Rep W (numT p.1 ad k cap p.2.2 (limbs p.2.1)))) (hs:StJ g l d n w w'):NumJ g d n r w (.returned (.agg #[.bool p.1,.slice ad k cap,.int .i64 p.2.2])) w':=by
  subst h;subst hk;exact ⟨ad,cap,rfl,hi,hs⟩
theorem NumJ.no {g d n:Nat} {r:((Bool × Nat × Int) × List UInt8) ⊕ Int} {x:Int} {w w':World} {e:Ending} (h:r=.inr x) (ht:ThrowJ x g w e w'):NumJ g d n r w e w':=by
  subst h;exact ht
def NumCutJ (g d n : Nat) (l : List UInt8) (r : (Bool × Nat × Int) ⊕ Int) (w : World) (s4 s5 : Value) (W : World) : Prop :=
  ∃ gb, s4 = .pointer (some ⟨gb, 0, none⟩) ∧ w.heap.size < gb ∧ StJ g l d n w W ∧ W.heap[w.heap.size]? = some (.cells #[.bool false, .slice none 0 0, .int .i64 0] 24) ∧
    match r with
    | .inl p => s5 = .int .i64 0 ∧ ∃ ad cap, W.heap[gb]? = some (.cells #[.bool p.1, .slice ad (limbs p.2.1).length cap, .int .i64 p.2.2] 24) ∧ (limbs p.2.1).length ≤ cap ∧ Ind (fun k => k ≤ w.heap.size) W (fun W => Rd W ad (limbs p.2.1))
    | .inr x => s5 = .int .i64 x ∧ (x = 2 ∨ x = 4)
theorem NumCutJ.yes {g d n gb:Nat} {l:List UInt8} {p:Bool × Nat × Int} {w W:World} {ad:Option Addr} {cap:Nat} (hg:g<w.heap.size) (hgb:w.heap.size<gb) (hbx:W.heap[gb]? = some (.cells #[.bool false,.slice none 0 0,.int .i64 0] 24)) (hst:StJ g l d n w W)
    (hb0:W.heap[w.heap.size]? = some (.cells #[.bool false,.slice none 0 0,.int .i64 0] 24)) (hcap:(limbs p.2.1).length≤cap) (hi:Ind (fun k=>k=gb∨k≤w.heap.size) W (fun W=>Rd W ad (limbs p.2.1))) :
    NumCutJ g d n l (.inl p) w (.pointer (some ⟨gb,0,none⟩)) (.int .i64 0) (W.setCells gb 0 [.bool p.1,.slice ad (limbs p.2.1).length cap,.int .i64 p.2.2]) :=
  ⟨gb,rfl,hgb,hst.set3 (Nat.le_of_lt hgb) (by omega) _ _ _,(set3_out (by omega)).trans hb0,rfl,ad,cap,set3_in hbx,hcap,
    hi.to (Nat.le_of_eq set3_size.symm) (fun k _ hk=>set3_out (fun e=>hk (.inl e))) (fun k _ hk=>.inr hk) (fun _ h=>h)⟩
theorem NumCutJ.no {g d n gb:Nat} {l:List UInt8} {x:Int} {w W:World} (hg:g<w.heap.size) (hgb:w.heap.size<gb) (hst:StJ g l d n w W)
    (hb0:W.heap[w.heap.size]? = some (.cells #[.bool false,.slice none 0 0,.int .i64 0] 24)) (hx:x=2∨x=4) (u0 u1 u2:Value) :
    NumCutJ g d n l (.inr x) w (.pointer (some ⟨gb,0,none⟩)) (.int .i64 x) (W.setCells gb 0 [u0,u1,u2]) :=
  ⟨gb,rfl,hgb,hst.set3 (Nat.le_of_lt hgb) (by omega) _ _ _,(set3_out (by omega)).trans hb0,rfl,hx⟩
theorem cell_sl {g:Nat} {l:List UInt8} {d n:Nat} {w W:World} (h:StJ g l d n w W) {sl:ByteArray} (e:(⟨l.toArray⟩:ByteArray)=sl):W.cell? ⟨g,0,none⟩=some (.string sl):=by rw [h.rd.c0,e]
theorem txt_map (l:List UInt8):txt (l.map UInt8.toNat)=⟨l.toArray⟩:=by
  unfold txt
  rw [List.map_map]
  congr 2
  rw [List.map_congr_left (g:=id) (fun x _=>by simp),List.map_id]
theorem okb_map (l:List UInt8):Okb (l.map UInt8.toNat):=fun x hx=>by
  obtain ⟨y,_,rfl⟩:=List.mem_map.1 hx
  exact y.toNat_lt
theorem trim_le (s cs:List UInt8):(Lib.trimLeftS s cs).length≤s.length:=by
  unfold Lib.trimLeftS;exact (List.dropWhile_sublist _).length_le
theorem str_take (l:List UInt8) (k:Nat):({ data:=l.toArray }:ByteArray).extract 0 k = { data:=(l.take k).toArray }:=by
  apply ByteArray.ext
  apply Array.ext'
  simp [ByteArray.data_extract]
theorem signs_ascii:∀ (j:Nat) b,(⟨#[48,49,50,51,52,53,54,55,56,57,43,45,46,101,69]⟩:ByteArray).data.toList[j]? = some b→b.toNat<128:=by
  intro j b hb
  have h:∀ b∈([48,49,50,51,52,53,54,55,56,57,43,45,46,101,69]:List UInt8),b.toNat<128:=by decide
  exact h b (List.mem_of_getElem? hb)
theorem number_anyj (g d n:Nat) (l:List UInt8) (w:World) (hl:l.length≤1000000) (hr:RdJ g l d n w) :
    Calls Tryz.prog 47 #[.pointer (some ⟨g,0,none⟩)] w (NumJ g d n (numL l) w):=by
  have hg:=hr.lt
  have hb1:Below w.heap.size w (w.alloc (.cells #[.bool false,.slice none 0 0,.int .i64 0] 24)):=(Below.refl _ _).alloc (Nat.le_refl _) _
  have hn1:(w.alloc (.cells #[.bool false,.slice none 0 0,.int .i64 0] 24)).heap[w.heap.size]? = some (.cells #[.bool false,.slice none 0 0,.int .i64 0] 24):=heap_alloc_new w _
  have K:Hid (Calls Tryz.prog 51 #[.string ⟨l.toArray⟩,.string ⟨#[48,49,50,51,52,53,54,55,56,57,43,45,46,101,69]⟩] (w.alloc (.cells #[.bool false,.slice none 0 0,.int .i64 0] 24)) fun e w'=>e=.returned (.string ⟨(Lib.trimLeftS l signsL).toArray⟩)∧Below (w.alloc (.cells #[.bool false,.slice none 0 0,.int .i64 0] 24)).heap.size (w.alloc (.cells #[.bool false,.slice none 0 0,.int .i64 0] 24)) w'):=Lib.hid (trimJ ⟨l.toArray⟩ ⟨#[48,49,50,51,52,53,54,55,56,57,43,45,46,101,69]⟩ (w.alloc (.cells #[.bool false,.slice none 0 0,.int .i64 0] 24)) (by decide) signs_ascii)
  have HS0:=Lib.hid (StJ.of_below hr hb1)
  have HN1:=Lib.hid hn1
  have HG:=Lib.hid hg
  have c0:=(hr.on hb1).c0
  have f0:=(hr.on hb1).fz 0
  have hbl:=trim_le l signsL
  have hls:=str_size l
  have hbs:=str_size (Lib.trimLeftS l signsL)
  obtain ⟨nt,hnt⟩:∃ nt,l.length - (Lib.trimLeftS l signsL).length=nt:=⟨_,rfl⟩
  have hcut:=str_take l nt
  have KP:∀ W,Calls Tryz.prog 74 #[.string ⟨(l.take nt).toArray⟩] W (NewP W (parseN ((l.take nt).map UInt8.toNat))):=fun W=>by
    have:=numParse_new ((l.take nt).map UInt8.toNat) (okb_map _) W
    rwa [txt_map] at this
  have HNL:Hid (nt≤(⟨l.toArray⟩:ByteArray).size):=Lib.hid (by rw [hls];omega)
  have HNT:Hid ((((⟨l.toArray⟩:ByteArray).size:Nat):Int) - (((⟨(Lib.trimLeftS l signsL).toArray⟩:ByteArray).size:Nat):Int)=(nt:Int)):=Lib.hid (by rw [hls,hbs];omega)
  have hnt2:nt≤1000000:=by omega
  have HNUM:Hid (numL l=match parseN ((l.take nt).map UInt8.toNat) with | .inr x=>.inr x | .inl r=>.inl (r,Lib.trimLeftS l signsL)):=Lib.hid (by unfold numL;rw [hnt];cases parseN ((l.take nt).map UInt8.toNat) <;> rfl)
  clear hr hb1 hn1 hg hl hbl hls hbs hnt
  generalize hR:parseN ((l.take nt).map UInt8.toNat)=R at *
  have HR:=Lib.hid hR
  clear hR
  have KP:=Lib.hid KP
  have HST:=Lib.hid hcut
  clear hcut
  go_enter Tryz.func47,Tryz.ntmps47
  go_wp2_with fail
  refine K.out.mono ?_
  rintro r w1 ⟨rfl,hb⟩
  have HB:=Lib.hid hb
  clear hb c0 f0 K
  have hst1:=(HS0.out.trans (StJ.of_below HS0.out.rd HB.out))
  have HS1:=Lib.hid hst1
  have HB0:=Lib.hid ((HB.out.block _ (Array.getElem?_eq_some_iff.1 HN1.out).1).trans HN1.out)
  have HW1:=Lib.hid (Array.getElem?_eq_some_iff.1 HB0.out).1
  clear hst1 HS0 HN1 HB
  generalize hsb:(⟨(Lib.trimLeftS l signsL).toArray⟩:ByteArray)=sb at *
  generalize hst:(⟨(l.take nt).toArray⟩:ByteArray)=st at *
  generalize hsl:(⟨l.toArray⟩:ByteArray)=sl at *
  have HSL:=Lib.hid hsl
  have HSB:=Lib.hid hsb
  clear hst hsl hsb
  go_upto_region 2 with fail
  go_cut [4,5] from 11 to 27 (fun p q W=>NumCutJ g d n l R w p q W)
  case first =>
    rename_i J K hJ hK
    have HJ:=Lib.hid hJ
    refine rc_first J hK ?_
    clear hJ hK
    refine rl_start (S:=fun _ W=>W.cell? ⟨g,0,none⟩=some (.string sl)) (by kernel_rfl) (cell_sl HS1.out.drew HSL.out) (fun hC hS=>?_)
    have hst:=HS1.out.drew
    have hb0:=HB0.out
    change w1.drew.heap[w.heap.size]? = _ at hb0
    cases hRR:R with
    | inl p =>
      rw [hRR] at KP HR
      have HRR:=Lib.hid hRR
      clear hRR
      refine rl_pure 0 _ (.pointer (some ⟨g,0,none⟩)) (some 12) rfl (by kernel_rfl) (by kernel_rfl) (by kernel_rfl) (by kernel_rfl) (fun _ _ _ h=>h) (fun _ _=>Iff.rfl) (by kernel_rfl) (fun w=>by kernel_rfl) hC hS (fun hC hS=>?_)
      refine rl_pure 1 _ (.pointer (some ⟨g,0,none⟩)) (some 13) rfl (by kernel_rfl) (by kernel_rfl) (by kernel_rfl) (by kernel_rfl) (fun _ _ _ h=>h) (fun _ _=>Iff.rfl) (by kernel_rfl) (fun w=>by kernel_rfl) hC hS (fun hC hS=>?_)
      refine rl_pure 2 _ (.pointer (some ⟨g,0,none⟩)) (some 14) rfl (by kernel_rfl) (by kernel_rfl) (by kernel_rfl) (by kernel_rfl) (fun _ _ _ h=>h) (fun _ _=>Iff.rfl) (by kernel_rfl) (fun w=>by kernel_rfl) hC hS (fun hC hS=>?_)
      refine rl_load1 3 _ 9 (.tmp 14) ⟨g,0,none⟩ (.string sl) _ (some 15) rfl (by kernel_rfl) (by kernel_rfl) (by kernel_rfl) (by kernel_rfl) (fun _ _ _ h=>h) (fun _ _=>Iff.rfl) (by kernel_rfl) rfl (by kernel_rfl) Tryz.underlying9 rfl (fun L W hC h1 hS=>hS) hC hS (fun hC hS=>?_)
      refine rl_pure 4 _ (.pointer (some ⟨g,0,none⟩)) (some 16) rfl (by kernel_rfl) (by kernel_rfl) (by kernel_rfl) (by kernel_rfl) (fun _ _ _ h=>h) (fun _ _=>Iff.rfl) (by kernel_rfl) (fun w=>by kernel_rfl) hC hS (fun hC hS=>?_)
      refine rl_pure 5 _ (.pointer (some ⟨g,0,none⟩)) (some 17) rfl (by kernel_rfl) (by kernel_rfl) (by kernel_rfl) (by kernel_rfl) (fun _ _ _ h=>h) (fun _ _=>Iff.rfl) (by kernel_rfl) (fun w=>by kernel_rfl) hC hS (fun hC hS=>?_)
      refine rl_pure 6 _ (.pointer (some ⟨g,0,none⟩)) (some 18) rfl (by kernel_rfl) (by kernel_rfl) (by kernel_rfl) (by kernel_rfl) (fun _ _ _ h=>h) (fun _ _=>Iff.rfl) (by kernel_rfl) (fun w=>by kernel_rfl) hC hS (fun hC hS=>?_)
      refine rl_load1 7 _ 9 (.tmp 18) ⟨g,0,none⟩ (.string sl) _ (some 19) rfl (by kernel_rfl) (by kernel_rfl) (by kernel_rfl) (by kernel_rfl) (fun _ _ _ h=>h) (fun _ _=>Iff.rfl) (by kernel_rfl) rfl (by kernel_rfl) Tryz.underlying9 rfl (fun L W hC h1 hS=>hS) hC hS (fun hC hS=>?_)
      refine rl_pure 8 _ (.int .i64 ((sl.size:Nat):Int)) (some 20) rfl (by kernel_rfl) (by kernel_rfl) (by kernel_rfl) (by kernel_rfl) (fun _ _ _ h=>h) (fun _ _=>Iff.rfl) (by kernel_rfl) (fun w=>by kernel_rfl) hC hS (fun hC hS=>?_)
      refine rl_pure 9 _ (.string sb) (some 21) rfl (by kernel_rfl) (by kernel_rfl) (by kernel_rfl) (by kernel_rfl) (fun _ _ _ h=>h) (fun _ _=>Iff.rfl) (by kernel_rfl) (fun w=>by kernel_rfl) hC hS (fun hC hS=>?_)
      refine rl_pure 10 _ (.int .i64 ((sb.size:Nat):Int)) (some 22) rfl (by kernel_rfl) (by kernel_rfl) (by kernel_rfl) (by kernel_rfl) (fun _ _ _ h=>h) (fun _ _=>Iff.rfl) (by kernel_rfl) (fun w=>by kernel_rfl) hC hS (fun hC hS=>?_)
      refine rl_pure 11 _ (.int .i64 ((nt:Nat):Int)) (some 23) rfl (by kernel_rfl) (by kernel_rfl) (by kernel_rfl) (by kernel_rfl) (fun _ _ _ h=>h) (fun _ _=>Iff.rfl) (by kernel_rfl) (fun w=>rd_sub w _ _ _ _ _ _ ((sl.size:Nat):Int) ((sb.size:Nat):Int) (nt:Int) rfl (by kernel_rfl) (by kernel_rfl) HNT.out (by omega) (by omega)) hC hS (fun hC hS=>?_)
      refine rl_pure 12 _ (.string st) (some 24) rfl (by kernel_rfl) (by kernel_rfl) (by kernel_rfl) (by kernel_rfl) (fun _ _ _ h=>h) (fun _ _=>Iff.rfl) (by kernel_rfl) (fun w=>by rw [← HST.out];exact rl_cutS w _ _ _ _ _ sl nt rfl (by kernel_rfl) (by kernel_rfl) Tryz.underlying9 HNL.out) hC hS (fun hC hS=>?_)
      refine rl_all [13,17] (by kernel_rfl) (by simp) hC (rl_two _ _ ?_ ?_)
      · skip
        refine rc_call 13 _ 74 _ _ _ _ #[.string st] (some 25) rfl (by kernel_rfl) (by kernel_rfl) rfl (by kernel_rfl) Tryz.func74 (by kernel_rfl) (by kernel_rfl) (by kernel_rfl) (KP.out w1.drew) ?_
        rintro r' W1 ⟨ad,cap,rfl,hcap,hrd,hloc,hb⟩
        replace hst:=hst.trans (StJ.of_below hst.rd hb)
        replace hb0:=(hb.block _ (Array.getElem?_eq_some_iff.1 hb0).1).trans hb0
        refine ⟨_,rfl,?_⟩
        refine rl_and (cell_sl hst HSL.out) (fun hS hC=>?_)
        refine rl_pure 14 _ (.tuple #[.agg #[.bool p.1,.slice ad (limbs p.2.1).length cap,.int .i64 p.2.2],.int .i64 0]) (some 11) rfl (by kernel_rfl) (by kernel_rfl) (by kernel_rfl) (by kernel_rfl) (fun _ _ _ h=>h) (fun _ _=>Iff.rfl) (by kernel_rfl) (fun w=>by kernel_rfl) hC hS (fun hC hS=>?_)
        refine rl_pure 15 _ (.agg #[.bool p.1,.slice ad (limbs p.2.1).length cap,.int .i64 p.2.2]) (some 26) rfl (by kernel_rfl) (by kernel_rfl) (by kernel_rfl) (by kernel_rfl) (fun _ _ _ h=>h) (fun _ _=>Iff.rfl) (by kernel_rfl) (fun w=>by kernel_rfl) hC hS (fun hC hS=>?_)
        refine rl_pure 16 _ (.int .i64 0) (some 27) rfl (by kernel_rfl) (by kernel_rfl) (by kernel_rfl) (by kernel_rfl) (fun _ _ _ h=>h) (fun _ _=>Iff.rfl) (by kernel_rfl) (fun w=>by kernel_rfl) hC hS (fun hC hS=>?_)
        refine rl_all [17] (by kernel_rfl) (by simp) hC (rl_one _ ?_)
        refine rl_val 17 _ (.pointer (some ⟨W1.heap.size,0,none⟩)) (W1.alloc (.cells #[.bool false,.slice none 0 0,.int .i64 0] 24)) (some 4) rfl (by kernel_rfl) (by kernel_rfl) (by kernel_rfl) ?_
        have hbx:(W1.alloc (.cells #[.bool false,.slice none 0 0,.int .i64 0] 24)).heap[W1.heap.size]? = some (.cells #[.bool false,.slice none 0 0,.int .i64 0] 24):=heap_alloc_new W1 _
        have hba:Below W1.heap.size W1 (W1.alloc (.cells #[.bool false,.slice none 0 0,.int .i64 0] 24)):=(Below.refl _ _).alloc (Nat.le_refl _) _
        have hgb:w.heap.size<W1.heap.size:=(Array.getElem?_eq_some_iff.1 hb0).1
        have hgg:W1.heap.size ≠ g:=Nat.ne_of_gt (Nat.lt_trans HG.out hgb)
        have hind:=(ind_rd (X:=fun k=>k<w1.drew.heap.size) hrd (fun a e h=>Nat.not_lt_of_le (hloc a e) h)).to (Y:=fun k=>k=W1.heap.size∨k≤w.heap.size) (Q:=fun W=>Rd W ad (limbs p.2.1)) hba.size (fun k hk _=>hba.block k hk) (fun k hk h=>by have h4:=HW1.out;have h5:w1.drew.heap.size=w1.heap.size:=rfl;rcases h with h | h <;> omega) (fun _ h=>h)
        replace hst:=hst.trans (StJ.of_below hst.rd hba)
        replace hb0:=(hba.block _ (Array.getElem?_eq_some_iff.1 hb0).1).trans hb0
        generalize hgbz:W1.heap.size=gb at *
        generalize hWz:W1.alloc (.cells #[.bool false,.slice none 0 0,.int .i64 0] 24)=Z1 at *
        refine rl_and (cell_sl hst HSL.out) (fun hS hC=>?_)
        refine rl_all [18] (by kernel_rfl) (by simp) hC (rl_one _ ?_)
        refine rp_storeM 18 _ 24 (.tmp 4) (.tmp 26) gb 0 #[.bool p.1,.slice ad (limbs p.2.1).length cap,.int .i64 p.2.2] rfl (by kernel_rfl) (by kernel_rfl) rfl (by kernel_rfl) (by kernel_rfl) (by kernel_rfl) (by intro u hu;simp at hu;rcases hu with rfl | rfl | rfl <;> rfl) (box3_there hbx) ?_
        refine rl_and (cell_sl (hst.set3 (Nat.le_of_lt hgb) hgg _ _ _) HSL.out) (fun hS hC=>?_)
        refine rl_pure 19 _ (.int .i64 0) (some 5) rfl (by kernel_rfl) (by kernel_rfl) (by kernel_rfl) (by kernel_rfl) (fun _ _ _ h=>h) (fun _ _=>Iff.rfl) (by kernel_rfl) (fun w=>by kernel_rfl) hC hS (fun hC hS=>?_)
        refine rl_done (by kernel_rfl) ?_ _
        have hx0:=NumCutJ.yes HG.out hgb hbx hst hb0 hcap hind
        rw [← HRR.out] at hx0
        have HX:=Lib.hid hx0
        clear hx0 hst hb0 hbx hS hC
        refine HJ.out _ _ ?_
        clear HJ
        simp only [Act.put,List.setIfInBounds_toArray,List.set_cons_zero,List.set_cons_succ]
        (repeat apply Exists.intro)
        exact ⟨HX.out,rfl⟩
      · skip
        refine rl_val 17 _ (.pointer (some ⟨w1.drew.heap.size,0,none⟩)) (w1.drew.alloc (.cells #[.bool false,.slice none 0 0,.int .i64 0] 24)) (some 4) rfl (by kernel_rfl) (by kernel_rfl) (by kernel_rfl) ?_
        have hbx:(w1.drew.alloc (.cells #[.bool false,.slice none 0 0,.int .i64 0] 24)).heap[w1.drew.heap.size]? = some (.cells #[.bool false,.slice none 0 0,.int .i64 0] 24):=heap_alloc_new w1.drew _
        have hba:Below w1.drew.heap.size w1.drew (w1.drew.alloc (.cells #[.bool false,.slice none 0 0,.int .i64 0] 24)):=(Below.refl _ _).alloc (Nat.le_refl _) _
        have hgb:w.heap.size<w1.drew.heap.size:=(Array.getElem?_eq_some_iff.1 hb0).1
        have hgg:w1.drew.heap.size ≠ g:=Nat.ne_of_gt (Nat.lt_trans HG.out hgb)
        have hgz:w1.drew.heap.size<(w1.drew.alloc (.cells #[.bool false,.slice none 0 0,.int .i64 0] 24)).heap.size:=by simp
        replace hst:=hst.trans (StJ.of_below hst.rd hba)
        replace hb0:=(hba.block _ (Array.getElem?_eq_some_iff.1 hb0).1).trans hb0
        generalize hgbz:w1.drew.heap.size=gb at *
        generalize hWz:w1.drew.alloc (.cells #[.bool false,.slice none 0 0,.int .i64 0] 24)=Z1 at *
        refine rl_and (cell_sl hst HSL.out) (fun hS hC=>?_)
        refine rl_all [13] (by kernel_rfl) (by simp) hC (rl_one _ ?_)
        refine rc_call 13 _ 74 _ _ _ _ #[.string st] (some 25) rfl (by kernel_rfl) (by kernel_rfl) rfl (by kernel_rfl) Tryz.func74 (by kernel_rfl) (by kernel_rfl) (by kernel_rfl) (KP.out Z1) ?_
        rintro r' W1 ⟨ad,cap,rfl,hcap,hrd,hloc,hb⟩
        have hind:=(ind_rd (X:=fun k=>k<Z1.heap.size) hrd (fun a e h=>Nat.not_lt_of_le (hloc a e) h)).to (Y:=fun k=>k=gb∨k≤w.heap.size) (Q:=fun W=>Rd W ad (limbs p.2.1)) (Nat.le_refl _) (fun k hk _=>rfl) (fun k hk h=>by rcases h with h | h <;> omega) (fun _ h=>h)
        replace hst:=hst.trans (StJ.of_below hst.rd hb)
        replace hb0:=(hb.block _ (Array.getElem?_eq_some_iff.1 hb0).1).trans hb0
        replace hbx:=(hb.block _ (Array.getElem?_eq_some_iff.1 hbx).1).trans hbx
        refine ⟨_,rfl,?_⟩
        refine rl_and (cell_sl hst HSL.out) (fun hS hC=>?_)
        refine rl_pure 14 _ (.tuple #[.agg #[.bool p.1,.slice ad (limbs p.2.1).length cap,.int .i64 p.2.2],.int .i64 0]) (some 11) rfl (by kernel_rfl) (by kernel_rfl) (by kernel_rfl) (by kernel_rfl) (fun _ _ _ h=>h) (fun _ _=>Iff.rfl) (by kernel_rfl) (fun w=>by kernel_rfl) hC hS (fun hC hS=>?_)
        refine rl_pure 15 _ (.agg #[.bool p.1,.slice ad (limbs p.2.1).length cap,.int .i64 p.2.2]) (some 26) rfl (by kernel_rfl) (by kernel_rfl) (by kernel_rfl) (by kernel_rfl) (fun _ _ _ h=>h) (fun _ _=>Iff.rfl) (by kernel_rfl) (fun w=>by kernel_rfl) hC hS (fun hC hS=>?_)
        refine rl_pure 16 _ (.int .i64 0) (some 27) rfl (by kernel_rfl) (by kernel_rfl) (by kernel_rfl) (by kernel_rfl) (fun _ _ _ h=>h) (fun _ _=>Iff.rfl) (by kernel_rfl) (fun w=>by kernel_rfl) hC hS (fun hC hS=>?_)
        refine rl_all [18] (by kernel_rfl) (by simp) hC (rl_one _ ?_)
        refine rp_storeM 18 _ 24 (.tmp 4) (.tmp 26) gb 0 #[.bool p.1,.slice ad (limbs p.2.1).length cap,.int .i64 p.2.2] rfl (by kernel_rfl) (by kernel_rfl) rfl (by kernel_rfl) (by kernel_rfl) (by kernel_rfl) (by intro u hu;simp at hu;rcases hu with rfl | rfl | rfl <;> rfl) (box3_there hbx) ?_
        refine rl_and (cell_sl (hst.set3 (Nat.le_of_lt hgb) hgg _ _ _) HSL.out) (fun hS hC=>?_)
        refine rl_pure 19 _ (.int .i64 0) (some 5) rfl (by kernel_rfl) (by kernel_rfl) (by kernel_rfl) (by kernel_rfl) (fun _ _ _ h=>h) (fun _ _=>Iff.rfl) (by kernel_rfl) (fun w=>by kernel_rfl) hC hS (fun hC hS=>?_)
        refine rl_done (by kernel_rfl) ?_ _
        have hx0:=NumCutJ.yes HG.out hgb hbx hst hb0 hcap hind
        rw [← HRR.out] at hx0
        have HX:=Lib.hid hx0
        clear hx0 hst hb0 hbx hS hC
        refine HJ.out _ _ ?_
        clear HJ
        simp only [Act.put,List.setIfInBounds_toArray,List.set_cons_zero,List.set_cons_succ]
        (repeat apply Exists.intro)
        exact ⟨HX.out,rfl⟩
    | inr x =>
      rw [hRR] at KP HR
      have HRR:=Lib.hid hRR
      clear hRR
      have HXX:=Lib.hid (parseN_err HR.out)
      refine rl_pure 0 _ (.pointer (some ⟨g,0,none⟩)) (some 12) rfl (by kernel_rfl) (by kernel_rfl) (by kernel_rfl) (by kernel_rfl) (fun _ _ _ h=>h) (fun _ _=>Iff.rfl) (by kernel_rfl) (fun w=>by kernel_rfl) hC hS (fun hC hS=>?_)
      refine rl_pure 1 _ (.pointer (some ⟨g,0,none⟩)) (some 13) rfl (by kernel_rfl) (by kernel_rfl) (by kernel_rfl) (by kernel_rfl) (fun _ _ _ h=>h) (fun _ _=>Iff.rfl) (by kernel_rfl) (fun w=>by kernel_rfl) hC hS (fun hC hS=>?_)
      refine rl_pure 2 _ (.pointer (some ⟨g,0,none⟩)) (some 14) rfl (by kernel_rfl) (by kernel_rfl) (by kernel_rfl) (by kernel_rfl) (fun _ _ _ h=>h) (fun _ _=>Iff.rfl) (by kernel_rfl) (fun w=>by kernel_rfl) hC hS (fun hC hS=>?_)
      refine rl_load1 3 _ 9 (.tmp 14) ⟨g,0,none⟩ (.string sl) _ (some 15) rfl (by kernel_rfl) (by kernel_rfl) (by kernel_rfl) (by kernel_rfl) (fun _ _ _ h=>h) (fun _ _=>Iff.rfl) (by kernel_rfl) rfl (by kernel_rfl) Tryz.underlying9 rfl (fun L W hC h1 hS=>hS) hC hS (fun hC hS=>?_)
      refine rl_pure 4 _ (.pointer (some ⟨g,0,none⟩)) (some 16) rfl (by kernel_rfl) (by kernel_rfl) (by kernel_rfl) (by kernel_rfl) (fun _ _ _ h=>h) (fun _ _=>Iff.rfl) (by kernel_rfl) (fun w=>by kernel_rfl) hC hS (fun hC hS=>?_)
      refine rl_pure 5 _ (.pointer (some ⟨g,0,none⟩)) (some 17) rfl (by kernel_rfl) (by kernel_rfl) (by kernel_rfl) (by kernel_rfl) (fun _ _ _ h=>h) (fun _ _=>Iff.rfl) (by kernel_rfl) (fun w=>by kernel_rfl) hC hS (fun hC hS=>?_)
      refine rl_pure 6 _ (.pointer (some ⟨g,0,none⟩)) (some 18) rfl (by kernel_rfl) (by kernel_rfl) (by kernel_rfl) (by kernel_rfl) (fun _ _ _ h=>h) (fun _ _=>Iff.rfl) (by kernel_rfl) (fun w=>by kernel_rfl) hC hS (fun hC hS=>?_)
      refine rl_load1 7 _ 9 (.tmp 18) ⟨g,0,none⟩ (.string sl) _ (some 19) rfl (by kernel_rfl) (by kernel_rfl) (by kernel_rfl) (by kernel_rfl) (fun _ _ _ h=>h) (fun _ _=>Iff.rfl) (by kernel_rfl) rfl (by kernel_rfl) Tryz.underlying9 rfl (fun L W hC h1 hS=>hS) hC hS (fun hC hS=>?_)
      refine rl_pure 8 _ (.int .i64 ((sl.size:Nat):Int)) (some 20) rfl (by kernel_rfl) (by kernel_rfl) (by kernel_rfl) (by kernel_rfl) (fun _ _ _ h=>h) (fun _ _=>Iff.rfl) (by kernel_rfl) (fun w=>by kernel_rfl) hC hS (fun hC hS=>?_)
      refine rl_pure 9 _ (.string sb) (some 21) rfl (by kernel_rfl) (by kernel_rfl) (by kernel_rfl) (by kernel_rfl) (fun _ _ _ h=>h) (fun _ _=>Iff.rfl) (by kernel_rfl) (fun w=>by kernel_rfl) hC hS (fun hC hS=>?_)
      refine rl_pure 10 _ (.int .i64 ((sb.size:Nat):Int)) (some 22) rfl (by kernel_rfl) (by kernel_rfl) (by kernel_rfl) (by kernel_rfl) (fun _ _ _ h=>h) (fun _ _=>Iff.rfl) (by kernel_rfl) (fun w=>by kernel_rfl) hC hS (fun hC hS=>?_)
      refine rl_pure 11 _ (.int .i64 ((nt:Nat):Int)) (some 23) rfl (by kernel_rfl) (by kernel_rfl) (by kernel_rfl) (by kernel_rfl) (fun _ _ _ h=>h) (fun _ _=>Iff.rfl) (by kernel_rfl) (fun w=>rd_sub w _ _ _ _ _ _ ((sl.size:Nat):Int) ((sb.size:Nat):Int) (nt:Int) rfl (by kernel_rfl) (by kernel_rfl) HNT.out (by omega) (by omega)) hC hS (fun hC hS=>?_)
      refine rl_pure 12 _ (.string st) (some 24) rfl (by kernel_rfl) (by kernel_rfl) (by kernel_rfl) (by kernel_rfl) (fun _ _ _ h=>h) (fun _ _=>Iff.rfl) (by kernel_rfl) (fun w=>by rw [← HST.out];exact rl_cutS w _ _ _ _ _ sl nt rfl (by kernel_rfl) (by kernel_rfl) Tryz.underlying9 HNL.out) hC hS (fun hC hS=>?_)
      refine rl_all [13,17] (by kernel_rfl) (by simp) hC (rl_two _ _ ?_ ?_)
      · skip
        refine rc_call 13 _ 74 _ _ _ _ #[.string st] (some 25) rfl (by kernel_rfl) (by kernel_rfl) rfl (by kernel_rfl) Tryz.func74 (by kernel_rfl) (by kernel_rfl) (by kernel_rfl) (KP.out w1.drew) ?_
        rintro r' W1 ⟨rfl,hb⟩
        replace hst:=hst.trans (StJ.of_below hst.rd hb)
        replace hb0:=(hb.block _ (Array.getElem?_eq_some_iff.1 hb0).1).trans hb0
        refine ⟨_,rfl,?_⟩
        refine rl_and (cell_sl hst HSL.out) (fun hS hC=>?_)
        refine rl_pure 14 _ (.tuple #[.agg #[.bool false,.slice none 0 0,.int .i64 0],.int .i64 x]) (some 11) rfl (by kernel_rfl) (by kernel_rfl) (by kernel_rfl) (by kernel_rfl) (fun _ _ _ h=>h) (fun _ _=>Iff.rfl) (by kernel_rfl) (fun w=>by kernel_rfl) hC hS (fun hC hS=>?_)
        refine rl_pure 15 _ (.agg #[.bool false,.slice none 0 0,.int .i64 0]) (some 26) rfl (by kernel_rfl) (by kernel_rfl) (by kernel_rfl) (by kernel_rfl) (fun _ _ _ h=>h) (fun _ _=>Iff.rfl) (by kernel_rfl) (fun w=>by kernel_rfl) hC hS (fun hC hS=>?_)
        refine rl_pure 16 _ (.int .i64 x) (some 27) rfl (by kernel_rfl) (by kernel_rfl) (by kernel_rfl) (by kernel_rfl) (fun _ _ _ h=>h) (fun _ _=>Iff.rfl) (by kernel_rfl) (fun w=>by kernel_rfl) hC hS (fun hC hS=>?_)
        refine rl_all [17] (by kernel_rfl) (by simp) hC (rl_one _ ?_)
        refine rl_val 17 _ (.pointer (some ⟨W1.heap.size,0,none⟩)) (W1.alloc (.cells #[.bool false,.slice none 0 0,.int .i64 0] 24)) (some 4) rfl (by kernel_rfl) (by kernel_rfl) (by kernel_rfl) ?_
        have hbx:(W1.alloc (.cells #[.bool false,.slice none 0 0,.int .i64 0] 24)).heap[W1.heap.size]? = some (.cells #[.bool false,.slice none 0 0,.int .i64 0] 24):=heap_alloc_new W1 _
        have hba:Below W1.heap.size W1 (W1.alloc (.cells #[.bool false,.slice none 0 0,.int .i64 0] 24)):=(Below.refl _ _).alloc (Nat.le_refl _) _
        have hgb:w.heap.size<W1.heap.size:=(Array.getElem?_eq_some_iff.1 hb0).1
        have hgg:W1.heap.size ≠ g:=Nat.ne_of_gt (Nat.lt_trans HG.out hgb)
        replace hst:=hst.trans (StJ.of_below hst.rd hba)
        replace hb0:=(hba.block _ (Array.getElem?_eq_some_iff.1 hb0).1).trans hb0
        generalize hgbz:W1.heap.size=gb at *
        generalize hWz:W1.alloc (.cells #[.bool false,.slice none 0 0,.int .i64 0] 24)=Z1 at *
        refine rl_and (cell_sl hst HSL.out) (fun hS hC=>?_)
        refine rl_all [18] (by kernel_rfl) (by simp) hC (rl_one _ ?_)
        refine rp_storeM 18 _ 24 (.tmp 4) (.tmp 26) gb 0 #[.bool false,.slice none 0 0,.int .i64 0] rfl (by kernel_rfl) (by kernel_rfl) rfl (by kernel_rfl) (by kernel_rfl) (by kernel_rfl) (by intro u hu;simp at hu;rcases hu with rfl | rfl | rfl <;> rfl) (box3_there hbx) ?_
        refine rl_and (cell_sl (hst.set3 (Nat.le_of_lt hgb) hgg _ _ _) HSL.out) (fun hS hC=>?_)
        refine rl_pure 19 _ (.int .i64 x) (some 5) rfl (by kernel_rfl) (by kernel_rfl) (by kernel_rfl) (by kernel_rfl) (fun _ _ _ h=>h) (fun _ _=>Iff.rfl) (by kernel_rfl) (fun w=>by kernel_rfl) hC hS (fun hC hS=>?_)
        refine rl_done (by kernel_rfl) ?_ _
        have hx0:=NumCutJ.no HG.out hgb hst hb0 HXX.out (.bool false) (.slice none 0 0) (.int .i64 0)
        rw [← HRR.out] at hx0
        have HX:=Lib.hid hx0
        clear hx0 hst hb0 hbx hS hC
        refine HJ.out _ _ ?_
        clear HJ
        simp only [Act.put,List.setIfInBounds_toArray,List.set_cons_zero,List.set_cons_succ]
        (repeat apply Exists.intro)
        exact ⟨HX.out,rfl⟩
      · skip
        refine rl_val 17 _ (.pointer (some ⟨w1.drew.heap.size,0,none⟩)) (w1.drew.alloc (.cells #[.bool false,.slice none 0 0,.int .i64 0] 24)) (some 4) rfl (by kernel_rfl) (by kernel_rfl) (by kernel_rfl) ?_
        have hbx:(w1.drew.alloc (.cells #[.bool false,.slice none 0 0,.int .i64 0] 24)).heap[w1.drew.heap.size]? = some (.cells #[.bool false,.slice none 0 0,.int .i64 0] 24):=heap_alloc_new w1.drew _
        have hba:Below w1.drew.heap.size w1.drew (w1.drew.alloc (.cells #[.bool false,.slice none 0 0,.int .i64 0] 24)):=(Below.refl _ _).alloc (Nat.le_refl _) _
        have hgb:w.heap.size<w1.drew.heap.size:=(Array.getElem?_eq_some_iff.1 hb0).1
        have hgg:w1.drew.heap.size ≠ g:=Nat.ne_of_gt (Nat.lt_trans HG.out hgb)
        have hgz:w1.drew.heap.size<(w1.drew.alloc (.cells #[.bool false,.slice none 0 0,.int .i64 0] 24)).heap.size:=by simp
        replace hst:=hst.trans (StJ.of_below hst.rd hba)
        replace hb0:=(hba.block _ (Array.getElem?_eq_some_iff.1 hb0).1).trans hb0
        generalize hgbz:w1.drew.heap.size=gb at *
        generalize hWz:w1.drew.alloc (.cells #[.bool false,.slice none 0 0,.int .i64 0] 24)=Z1 at *
        refine rl_and (cell_sl hst HSL.out) (fun hS hC=>?_)
        refine rl_all [13] (by kernel_rfl) (by simp) hC (rl_one _ ?_)
        refine rc_call 13 _ 74 _ _ _ _ #[.string st] (some 25) rfl (by kernel_rfl) (by kernel_rfl) rfl (by kernel_rfl) Tryz.func74 (by kernel_rfl) (by kernel_rfl) (by kernel_rfl) (KP.out Z1) ?_
        rintro r' W1 ⟨rfl,hb⟩
        replace hst:=hst.trans (StJ.of_below hst.rd hb)
        replace hb0:=(hb.block _ (Array.getElem?_eq_some_iff.1 hb0).1).trans hb0
        replace hbx:=(hb.block _ (Array.getElem?_eq_some_iff.1 hbx).1).trans hbx
        refine ⟨_,rfl,?_⟩
        refine rl_and (cell_sl hst HSL.out) (fun hS hC=>?_)
        refine rl_pure 14 _ (.tuple #[.agg #[.bool false,.slice none 0 0,.int .i64 0],.int .i64 x]) (some 11) rfl (by kernel_rfl) (by kernel_rfl) (by kernel_rfl) (by kernel_rfl) (fun _ _ _ h=>h) (fun _ _=>Iff.rfl) (by kernel_rfl) (fun w=>by kernel_rfl) hC hS (fun hC hS=>?_)
        refine rl_pure 15 _ (.agg #[.bool false,.slice none 0 0,.int .i64 0]) (some 26) rfl (by kernel_rfl) (by kernel_rfl) (by kernel_rfl) (by kernel_rfl) (fun _ _ _ h=>h) (fun _ _=>Iff.rfl) (by kernel_rfl) (fun w=>by kernel_rfl) hC hS (fun hC hS=>?_)
        refine rl_pure 16 _ (.int .i64 x) (some 27) rfl (by kernel_rfl) (by kernel_rfl) (by kernel_rfl) (by kernel_rfl) (fun _ _ _ h=>h) (fun _ _=>Iff.rfl) (by kernel_rfl) (fun w=>by kernel_rfl) hC hS (fun hC hS=>?_)
        refine rl_all [18] (by kernel_rfl) (by simp) hC (rl_one _ ?_)
        refine rp_storeM 18 _ 24 (.tmp 4) (.tmp 26) gb 0 #[.bool false,.slice none 0 0,.int .i64 0] rfl (by kernel_rfl) (by kernel_rfl) rfl (by kernel_rfl) (by kernel_rfl) (by kernel_rfl) (by intro u hu;simp at hu;rcases hu with rfl | rfl | rfl <;> rfl) (box3_there hbx) ?_
        refine rl_and (cell_sl (hst.set3 (Nat.le_of_lt hgb) hgg _ _ _) HSL.out) (fun hS hC=>?_)
        refine rl_pure 19 _ (.int .i64 x) (some 5) rfl (by kernel_rfl) (by kernel_rfl) (by kernel_rfl) (by kernel_rfl) (fun _ _ _ h=>h) (fun _ _=>Iff.rfl) (by kernel_rfl) (fun w=>by kernel_rfl) hC hS (fun hC hS=>?_)
        refine rl_done (by kernel_rfl) ?_ _
        have hx0:=NumCutJ.no HG.out hgb hst hb0 HXX.out (.bool false) (.slice none 0 0) (.int .i64 0)
        rw [← HRR.out] at hx0
        have HX:=Lib.hid hx0
        clear hx0 hst hb0 hbx hS hC
        refine HJ.out _ _ ?_
        clear HJ
        simp only [Act.put,List.setIfInBounds_toArray,List.set_cons_zero,List.set_cons_succ]
        (repeat apply Exists.intro)
        exact ⟨HX.out,rfl⟩
  case rest =>
    obtain ⟨gb,rfl,hgb,hst,hb0,hm⟩:=hcut
    have HST2:=Lib.hid hst
    have HHB:=Lib.hid hb0
    have HGB:=Lib.hid hgb
    clear hst hb0 hgb
    cases hRR:R with
    | inl p =>
      rw [hRR] at hm HNUM HR
      obtain ⟨rfl,ad,cap,hbx,hcap,hind⟩:=hm
      have HBX:=Lib.hid hbx
      have HIND:=Lib.hid hind
      have HCAP:=Lib.hid hcap
      have HLIM:=Lib.hid (parseN_lim HR.out)
      have c0:=HST2.out.rd.c0
      have f0:=HST2.out.rd.fz 0
      have y0:wc.cell? ⟨gb,0,none⟩=some (.bool p.1):=(box_cellsJ hbx 0 _ rfl).1
      have y1:wc.cell? ⟨gb,1,none⟩=some (.slice ad (limbs p.2.1).length cap):=(box_cellsJ hbx 1 _ rfl).1
      have y2:wc.cell? ⟨gb,2,none⟩=some (.int .i64 p.2.2):=(box_cellsJ hbx 2 _ rfl).1
      have z0:wc.cell? ⟨w.heap.size,0,none⟩=some (.bool false):=(box_cellsJ HHB.out 0 _ rfl).1
      have z1:wc.cell? ⟨w.heap.size,1,none⟩=some (.slice none 0 0):=(box_cellsJ HHB.out 1 _ rfl).1
      have z2:wc.cell? ⟨w.heap.size,2,none⟩=some (.int .i64 0):=(box_cellsJ HHB.out 2 _ rfl).1
      have zf0:=(box_cellsJ HHB.out 0 _ rfl).2
      have zf1:=(box_cellsJ HHB.out 1 _ rfl).2
      have zf2:=(box_cellsJ HHB.out 2 _ rfl).2
      have n1:¬ gb=g:=by have:=HGB.out;have:=HG.out;omega
      have n2:¬ w.heap.size=g:=by have:=HG.out;omega
      have n3:¬ w.heap.size=gb:=by have:=HGB.out;omega
      have n4:¬ g=w.heap.size:=by have:=HG.out;omega
      have n5:¬ gb=w.heap.size:=by have:=HGB.out;omega
      have n6:¬ g=gb:=by have:=HGB.out;have:=HG.out;omega
      have HL:=Lib.hid (HST2.out.left (l':=Lib.trimLeftS l signsL))
      rw [HSB.out] at HL
      have HFIN:=Lib.hid (fun (v0 v1 v2:Value)=>(((HL.out.fresh (Nat.le_refl _) n2 0 v0).fresh (Nat.le_refl _) n2 1 v1).fresh (Nat.le_refl _) n2 2 v2))
      have HIN2:=Lib.hid (fun (v0 v1 v2:Value)=>(show Ind (fun k=>k<w.heap.size) ((((wc.setCell ⟨g,0,none⟩ (.string sb)).setCell ⟨w.heap.size,0,none⟩ v0).setCell ⟨w.heap.size,1,none⟩ v1).setCell ⟨w.heap.size,2,none⟩ v2) (fun W=>Rep W (numT p.1 ad (limbs p.2.1).length cap p.2.2 (limbs p.2.1))) from
        HIND.out.to (by simp [World.setCell]) (fun k hk hx=>by
          have hx':¬ k≤w.heap.size:=hx
          have hg:=HG.out
          rw [set_other (by omega),set_other (by omega),set_other (by omega),set_other (by omega)]) (fun k _ h=>by have h':k<w.heap.size:=h;show k≤w.heap.size;omega)
          (fun W hW=>numT_rep rfl HCAP.out (by have:=HLIM.out.1;omega) (limbs_ok _) hW (by have:=HLIM.out;omega))))
      clear hbx hind hcap hRR
      generalize hkk:(limbs p.2.1).length=k at *
      have HKK:=Lib.hid hkk
      clear hkk
      go_wp2
      refine bodyPost_ret (v:=.agg #[.bool p.1,.slice ad k cap,.int .i64 p.2.2]) (by simp [results,Tryz.results47,go_sem,y0,y1,y2,z0,z1,z2,n1,n2,n3,n4,n5,n6]) rfl ?_
      exact NumJ.yes HNUM.out HKK.out (HIN2.out (.bool p.1) (.slice ad k cap) (.int .i64 p.2.2)) (HFIN.out (.bool p.1) (.slice ad k cap) (.int .i64 p.2.2))
    | inr x =>
      rw [hRR] at hm HNUM HR
      obtain ⟨rfl,hx⟩:=hm
      have hne:(x != 0)=true:=by rcases hx with rfl | rfl <;> decide
      have HRR:=Lib.hid hRR
      clear hRR hx
      go_wp2
      exact ⟨rfl,NumJ.no HNUM.out ⟨rfl,_,_,_,HST2.out⟩⟩
end Go.Proofs.YtijaphbccnadbaaGreatDoor
