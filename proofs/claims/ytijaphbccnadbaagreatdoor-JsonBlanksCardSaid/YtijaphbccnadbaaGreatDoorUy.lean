/- Texts of the claim. -/
import Derived.Test.YtijaphbccnadbaaGreatDoorUx
import Derived.Deep.RegionHeld3
import Derived.Deep.DrawnRows
set_option linter.unusedVariables false
set_option linter.unusedSimpArgs false
set_option maxHeartbeats 8000000
set_option maxRecDepth 100000
namespace Go.Proofs.YtijaphbccnadbaaGreatDoor
open Go.RowKit Go.Sort
open Go.RowKit Go.Sort
attribute [local go_sem ↓] Go.wp_at_zero Go.wp_at_succ
structure PtOk (p:Pt):Prop where
  w:Okd p.whole
  w0:0<p.whole.length
  f:Okd p.frac
  x:Okd p.exp
  len:p.whole.length+p.frac.length≤2000
  xlen:p.exp.length≤2000
theorem by_any {G:Prop} (h:G):wpAny Tryz.prog .any #[] (fun _ _ _=>True) 0 #[] { tmps:=#[],defers:=[] } default→G:=fun _=>h
theorem boxP_below (w:World) (p:Pt):Below w.heap.size w (boxP w p):=(Below.refl _ _).alloc (Nat.le_refl _) _
def NumGives (w0:World) (l:List Ent) (L:Nat) (neg:Bool) (m:Nat) (e:Int) (r:Ending) (w':World):Prop :=
  ∃ v,r=.returned (.agg #[.bool neg,v,.int .i64 e])∧Ctx w0 w' (⟨v,L,m,limbs m⟩::l)
def NumThrows (w0:World) (l:List Ent) (r:Ending) (w':World):Prop:=r=.panicked [{ v:=.iface 31 (.int .i64 4),recovered:=false }]∧Ctx w0 w' l
theorem number_zero {w0 w:World} {l:List Ent} (h:Ctx w0 w l) (p:Pt) (hp:PtOk p) (h0:hval (p.whole++p.frac)=0) :
    Calls Tryz.prog 119 #[.agg #[.bool p.neg,.string (txt p.whole),.string (txt p.frac),.bool p.down,.string (txt p.exp)]] w (NumGives w0 l 2000 false 0 0):=by
  have hb1:Below w.heap.size w ((w.alloc (.cells #[.bool p.neg,.string (txt p.whole),.string (txt p.frac),.bool p.down,.string (txt p.exp)] 138)).alloc (.cells #[.bool false,.slice none 0 0,.int .i64 0] 24)):=((Below.refl _ _).alloc (Nat.le_refl _) _).alloc (by simp) _
  have h1:=h.step hb1
  have hW:=Lib.hid h.below.size
  have hlw:(p.whole++p.frac).length≤2000:=by rw [List.length_append];exact hp.len
  have K:=Lib.hid (parse_c h1.again (hp.w.append hp.f) (by rw [List.length_append];have:=hp.w0;omega) 2000 hlw (Nat.le_refl _) 0 h0)
  have H1:=Lib.hid h1.below
  have hs1:(txt p.whole).size≤2000:=by rw [txt_size];have:=hp.len;omega
  have hs2:(txt p.frac).size≤2000:=by rw [txt_size];have:=hp.len;omega
  clear h h1 hb1 h0 hp hlw
  go_enter Tryz.func119,Tryz.ntmps119
  go_wp2_with fail
  rw [txt_append]
  refine K.out.mono ?_
  rintro r w1 ⟨v,rfl,h2⟩
  obtain ⟨ad,cap,rfl,_⟩:=h2.get 0 rfl
  rw [show (limbs 0).length=0 by rw [limbs_zero];rfl] at *
  obtain ⟨hc,hf⟩:=bcell h2.below
  have hz:w.heap.size+1<w1.heap.size:=by have:=h2.below.size;simp at this;omega
  have H2:=Lib.hid h2;clear h2
  go_wp2
  have H3:=Ctx.back H1.out H2.out
  refine bodyPost_ret (v:=.agg #[.bool false,.slice none 0 0,.int .i64 0]) (by simp [results,Tryz.results119,go_sem,hc,hz]) rfl ⟨_,rfl,?_⟩
  have H4:=H3.box3 (g:=w.heap.size+1) (Nat.le_succ_of_le hW.out) (b:=false) (a:=none) (n:=0) (c:=0) (x:=0) (by simp [hc]) (by simp [hc]) (by simp [hc]) (.bool false) (.slice none 0 0) (.int .i64 0)
  exact (H4.drop1).push (ent_nil _ _)
theorem number_wide {w0 w:World} {l:List Ent} (h:Ctx w0 w l) (p:Pt) (hp:PtOk p) (h0:hval (p.whole++p.frac) ≠ 0) (h6:6<(expN p).length) :
    Calls Tryz.prog 119 #[.agg #[.bool p.neg,.string (txt p.whole),.string (txt p.frac),.bool p.down,.string (txt p.exp)]] w (NumThrows w0 l):=by
  have hb1:Below w.heap.size w ((w.alloc (.cells #[.bool p.neg,.string (txt p.whole),.string (txt p.frac),.bool p.down,.string (txt p.exp)] 138)).alloc (.cells #[.bool false,.slice none 0 0,.int .i64 0] 24)):=((Below.refl _ _).alloc (Nat.le_refl _) _).alloc (by simp) _
  have h1:=h.step hb1
  have hW:=Lib.hid h.below.size
  have hlw:(p.whole++p.frac).length≤2000:=by rw [List.length_append];exact hp.len
  have K:=Lib.hid (parse_c h1.again (hp.w.append hp.f) (by rw [List.length_append];have:=hp.w0;omega) 2000 hlw (Nat.le_refl _) _ rfl)
  have H1:=Lib.hid h1.below
  have hs1:(txt p.whole).size≤2000:=by rw [txt_size];have:=hp.len;omega
  have hs2:(txt p.frac).size≤2000:=by rw [txt_size];have:=hp.len;omega
  have hs3:(txt p.frac).size=p.frac.length:=txt_size _
  have KT:=Lib.hid (fun W=>ptens_wide p W hp.x (Nat.le_trans hp.xlen (by decide)) h6)
  clear h h1 hb1 hp hlw h6
  go_enter Tryz.func119,Tryz.ntmps119
  go_wp2_with fail
  rw [txt_append]
  refine K.out.mono ?_
  rintro r w1 ⟨v,rfl,h2⟩
  generalize hval (p.whole++p.frac)=N at *
  have hlb:(((limbs N).length:Int) == 0)=false:=by
    rw [beq_eq_false_iff_ne]
    intro h3
    exact h0 ((limbs_nil_iff N).1 (List.eq_nil_of_length_eq_zero (by omega)))
  obtain ⟨ad,cap,rfl,_⟩:=h2.get 0 rfl
  generalize (limbs N).length=n at *
  obtain ⟨hc,hf⟩:=bcell h2.below
  have hz:w.heap.size+1<w1.heap.size:=by have:=h2.below.size;simp at this;omega
  have c0:w1.cell? ⟨w.heap.size,0,none⟩=some (.bool p.neg):=by rw [hc _ _ (by simp <;> omega)];simp [World.cell?_alloc_lt]
  have c1:w1.cell? ⟨w.heap.size,1,none⟩=some (.string (txt p.whole)):=by rw [hc _ _ (by simp <;> omega)];simp [World.cell?_alloc_lt]
  have c2:w1.cell? ⟨w.heap.size,2,none⟩=some (.string (txt p.frac)):=by rw [hc _ _ (by simp <;> omega)];simp [World.cell?_alloc_lt]
  have c3:w1.cell? ⟨w.heap.size,3,none⟩=some (.bool p.down):=by rw [hc _ _ (by simp <;> omega)];simp [World.cell?_alloc_lt]
  have c4:w1.cell? ⟨w.heap.size,4,none⟩=some (.string (txt p.exp)):=by rw [hc _ _ (by simp <;> omega)];simp [World.cell?_alloc_lt]
  have hy:w.heap.size<w1.heap.size:=by omega
  have hne:¬ w.heap.size=w1.heap.size:=by omega
  have H3:=Lib.hid ((Ctx.back H1.out h2).drop1)
  have hcc:=Lib.hid hc
  have hff:=Lib.hid hf
  clear h2 hc hf
  go_upto_region 4 with fail
  go_region_with (first | (go_at_call 160;refine (KT.out _).mono ?_;rintro r w' ⟨rfl,rfl⟩;refine by_any (by first | exact ⟨rfl,rfl,(H3.out.step (below_drew (Below.refl _ _))).step (boxP_below _ _)⟩ | exact ⟨rfl,rfl,(H3.out.step (below_drew ((Below.refl _ _).alloc (Nat.le_refl _) _))).step (boxP_below _ _)⟩) ?_))
  all_goals trivial
attribute [local go_sem ↓] Go.wp_at_zero Go.wp_at_succ
def NumCut (w0 : World) (l : List Ent) (B : Nat) (neg : Bool) (m : Nat) (e : Int) (ok : Bool) (s5 s6 : Value) (wx : World) : Prop :=
  ∃ g v, s5 = .pointer (some ⟨g, 0, none⟩) ∧ s6 = .bool ok ∧ (wx.cell? ⟨g, 0, none⟩ = some (.bool neg) ∧ wx.cell? ⟨g, 1, none⟩ = some v ∧ wx.cell? ⟨g, 2, none⟩ = some (.int .i64 e)) ∧
    Ctx w0 wx (⟨v, 2000, m, limbs m⟩ :: l) ∧ (wx.cell? ⟨B, 0, none⟩ = some (.bool false) ∧ wx.cell? ⟨B, 1, none⟩ = some (.slice none 0 0) ∧ wx.cell? ⟨B, 2, none⟩ = some (.int .i64 0)) ∧ (∀ j, wx.frozen? ⟨B, j, none⟩ = false)
theorem boxA {w1 w5:World} {o:Obj} (h:Below (((w1.alloc (.cells #[.bool false,.slice none 0 0,.int .i64 0] 24)).alloc o).drew).heap.size (((w1.alloc (.cells #[.bool false,.slice none 0 0,.int .i64 0] 24)).alloc o).drew) w5) :
    w5.cell? ⟨w1.heap.size,0,none⟩=some (.bool false)∧w5.cell? ⟨w1.heap.size,1,none⟩=some (.slice none 0 0)∧w5.cell? ⟨w1.heap.size,2,none⟩=some (.int .i64 0)∧∀ j,w5.frozen? ⟨w1.heap.size,j,none⟩=false:=by
  obtain ⟨h1,h2⟩:=bcell h
  refine ⟨?_,?_,?_,fun j=>?_⟩
  iterate 3
    · rw [h1 _ _ (by simp <;> omega)];simp [World.cell?_alloc_lt]
  · rw [h2 _ _ (by simp <;> omega)];simp [go_sem]
theorem boxB {w1 w5:World} {o:Obj} (h:Below (((w1.alloc o).alloc (.cells #[.bool false,.slice none 0 0,.int .i64 0] 24)).drew).heap.size (((w1.alloc o).alloc (.cells #[.bool false,.slice none 0 0,.int .i64 0] 24)).drew) w5) :
    w5.cell? ⟨w1.heap.size+1,0,none⟩=some (.bool false)∧w5.cell? ⟨w1.heap.size+1,1,none⟩=some (.slice none 0 0)∧w5.cell? ⟨w1.heap.size+1,2,none⟩=some (.int .i64 0)∧∀ j,w5.frozen? ⟨w1.heap.size+1,j,none⟩=false:=by
  obtain ⟨h1,h2⟩:=bcell h
  refine ⟨?_,?_,?_,fun j=>?_⟩
  iterate 3
    · rw [h1 _ _ (by simp)];simp
  · rw [h2 _ _ (by simp)];simp [go_sem]
theorem Ctx.pick {w0 W w5:World} {l:List Ent} {a b:Ent} (hb:Below w0.heap.size w0 w5) (h5:Ctx W w5 (a::b::l)):Ctx w0 w5 (a::l) :=
  ⟨hb,fun x hx=>h5.all x (by rcases List.mem_cons.1 hx with h | h <;> simp [h])⟩
theorem cutC {w0 w5:World} {l:List Ent} {B:Nat} {neg:Bool} {m:Nat} {e:Int} {ok:Bool} {v:Value} (h:Ctx w0 w5 (⟨v,2000,m,limbs m⟩::l)) (b0:w5.cell? ⟨B,0,none⟩=some (.bool false)) (b1:w5.cell? ⟨B,1,none⟩=some (.slice none 0 0)) (b2:w5.cell? ⟨B,2,none⟩=some (.int .i64 0)) (bf:∀ j,w5.frozen? ⟨B,j,none⟩=false) (hB:B<w5.heap.size) :
    NumCut w0 l B neg m e ok (.pointer (some ⟨w5.heap.size,0,none⟩)) (.bool ok) (w5.alloc (.cells #[.bool neg,v,.int .i64 e] 24)):=by
  have hb:Below w5.heap.size w5 (w5.alloc (.cells #[.bool neg,v,.int .i64 e] 24)):=(Below.refl _ _).alloc (Nat.le_refl _) _
  exact ⟨w5.heap.size,v,rfl,rfl,⟨by simp,by simp,by simp⟩,h.step hb,⟨(hb.cell (p:=⟨B,0,none⟩) hB).trans b0,(hb.cell (p:=⟨B,1,none⟩) hB).trans b1,(hb.cell (p:=⟨B,2,none⟩) hB).trans b2⟩,fun j=>(hb.frozen (p:=⟨B,j,none⟩) hB).trans (bf j)⟩
theorem cutS {w0 w5:World} {l:List Ent} {B g:Nat} {neg:Bool} {m:Nat} {e:Int} {ok:Bool} {v:Value} (h:Ctx w0 w5 (⟨v,2000,m,limbs m⟩::l)) (hg:w0.heap.size≤g) (hne:g ≠ B) (r0:w5.cell? ⟨g,0,none⟩=some (.bool false)) (r1:w5.cell? ⟨g,1,none⟩=some (.slice none 0 0)) (r2:w5.cell? ⟨g,2,none⟩=some (.int .i64 0))
    (b0:w5.cell? ⟨B,0,none⟩=some (.bool false)) (b1:w5.cell? ⟨B,1,none⟩=some (.slice none 0 0)) (b2:w5.cell? ⟨B,2,none⟩=some (.int .i64 0)) (bf:∀ j,w5.frozen? ⟨B,j,none⟩=false) :
    NumCut w0 l B neg m e ok (.pointer (some ⟨g,0,none⟩)) (.bool ok) (((w5.setCell ⟨g,0,none⟩ (.bool neg)).setCell ⟨g,1,none⟩ v).setCell ⟨g,2,none⟩ (.int .i64 e)):=by
  have ho:∀ j,(((w5.setCell ⟨g,0,none⟩ (.bool neg)).setCell ⟨g,1,none⟩ v).setCell ⟨g,2,none⟩ (.int .i64 e)).cell? ⟨B,j,none⟩=w5.cell? ⟨B,j,none⟩:=fun j=>by
    rw [World.cell?_setCell_other (h:=by simp [hne]),World.cell?_setCell_other (h:=by simp [hne]),World.cell?_setCell_other (h:=by simp [hne])]
  have d1:(w5.setCell ⟨g,0,none⟩ (.bool neg)).cell? ⟨g,1,none⟩=some (.slice none 0 0):=by rw [World.cell?_setCell_other (h:=by simp)];exact r1
  have d2:((w5.setCell ⟨g,0,none⟩ (.bool neg)).setCell ⟨g,1,none⟩ v).cell? ⟨g,2,none⟩=some (.int .i64 0):=by rw [World.cell?_setCell_other (h:=by simp),World.cell?_setCell_other (h:=by simp)];exact r2
  refine ⟨g,v,rfl,rfl,⟨?_,?_,?_⟩,h.box3 hg r0 r1 r2 _ _ _,⟨(ho 0).trans b0,(ho 1).trans b1,(ho 2).trans b2⟩,fun j=>?_⟩
  · rw [World.cell?_setCell_other (h:=by simp),World.cell?_setCell_other (h:=by simp)];exact World.cell?_setCell_same _ _ _ r0
  · rw [World.cell?_setCell_other (h:=by simp)];exact World.cell?_setCell_same _ _ _ d1
  · exact World.cell?_setCell_same _ _ _ d2
  · simp only [World.frozen?_setCell];exact bf j
def MakeAt (l:List Ent) (v:Value) (neg:Bool) (x:Int) (neg':Bool) (m:Nat) (e:Int) (ok:Bool):Prop :=
  ∀ (w0 w:World),Ctx w0 w l→Calls Tryz.prog 159 #[.bool neg,v,.int .i64 x] w (MadePost w0 l 2000 neg' m e ok)
theorem number_core {w0 w:World} {l:List Ent} (h:Ctx w0 w l) (p:Pt) (hp:PtOk p) (h0:hval (p.whole++p.frac) ≠ 0) (h6:(expN p).length≤6) (hlo:-1000000≤expV p∧expV p≤1000000)
    (neg:Bool) (m:Nat) (e:Int) (ok:Bool) (hM:∀ v,MakeAt (⟨v,2000,hval (p.whole++p.frac),limbs (hval (p.whole++p.frac))⟩::l) v p.neg (expV p - (p.frac.length:Int)) neg m e ok)
    (Q:Ending→World→Prop) (hQ:∀ v w',ok=true→Ctx w0 w' (⟨v,2000,m,limbs m⟩::l)→Q (.returned (.agg #[.bool neg,v,.int .i64 e])) w')
    (hQ2:∀ w',ok=false→Ctx w0 w' l→Q (.panicked [{ v:=.iface 31 (.int .i64 4),recovered:=false }]) w') :
    Calls Tryz.prog 119 #[.agg #[.bool p.neg,.string (txt p.whole),.string (txt p.frac),.bool p.down,.string (txt p.exp)]] w Q:=by
  have hb1:Below w.heap.size w ((w.alloc (.cells #[.bool p.neg,.string (txt p.whole),.string (txt p.frac),.bool p.down,.string (txt p.exp)] 138)).alloc (.cells #[.bool false,.slice none 0 0,.int .i64 0] 24)):=((Below.refl _ _).alloc (Nat.le_refl _) _).alloc (by simp) _
  have h1:=h.step hb1
  have hW:=Lib.hid h.below.size
  have hlw:(p.whole++p.frac).length≤2000:=by rw [List.length_append];exact hp.len
  have K:=Lib.hid (parse_c h1.again (hp.w.append hp.f) (by rw [List.length_append];have:=hp.w0;omega) 2000 hlw (Nat.le_refl _) _ rfl)
  have H1:=Lib.hid h1.below
  have hs1:(txt p.whole).size≤2000:=by rw [txt_size];have:=hp.len;omega
  have hs2:(txt p.frac).size≤2000:=by rw [txt_size];have:=hp.len;omega
  have hs3:(txt p.frac).size=p.frac.length:=txt_size _
  have hfl:p.frac.length≤2000:=by have:=hp.len;omega
  have KT0:∀ W,Calls Tryz.prog 160 #[.agg #[.bool p.neg,.string (txt p.whole),.string (txt p.frac),.bool p.down,.string (txt p.exp)]] W fun e w'=>e=.returned (.int .i64 (expV p))∧w'=W.alloc (.cells #[.bool p.neg,.string (txt p.whole),.string (txt p.frac),.bool p.down,.string (txt p.exp)] 138):=fun W=>ptens_any p W hp.x h6
  have KT:=Lib.hid KT0
  have HM:=Lib.hid hM
  have HQ:=Lib.hid hQ
  have HQ2:=Lib.hid hQ2
  clear h h1 hb1 hp hlw h6 hM hQ hQ2 KT0
  go_enter Tryz.func119,Tryz.ntmps119
  go_wp2_with fail
  rw [txt_append]
  refine K.out.mono ?_
  rintro r w1 ⟨v,rfl,h2⟩
  have KM:=Lib.hid (HM.out v);clear HM
  generalize hval (p.whole++p.frac)=N at *
  have hlb:(((limbs N).length:Int) == 0)=false:=by
    rw [beq_eq_false_iff_ne]
    intro h3
    exact h0 ((limbs_nil_iff N).1 (List.eq_nil_of_length_eq_zero (by omega)))
  have H3:=Lib.hid (Ctx.back H1.out h2)
  obtain ⟨ad,cap,rfl,_⟩:=h2.get 0 rfl
  generalize (limbs N).length=n at *
  obtain ⟨hc,hf⟩:=bcell h2.below
  have hz:w.heap.size+1<w1.heap.size:=by have:=h2.below.size;simp at this;omega
  have c0:w1.cell? ⟨w.heap.size,0,none⟩=some (.bool p.neg):=by rw [hc _ _ (by simp <;> omega)];simp [World.cell?_alloc_lt]
  have c1:w1.cell? ⟨w.heap.size,1,none⟩=some (.string (txt p.whole)):=by rw [hc _ _ (by simp <;> omega)];simp [World.cell?_alloc_lt]
  have c2:w1.cell? ⟨w.heap.size,2,none⟩=some (.string (txt p.frac)):=by rw [hc _ _ (by simp <;> omega)];simp [World.cell?_alloc_lt]
  have c3:w1.cell? ⟨w.heap.size,3,none⟩=some (.bool p.down):=by rw [hc _ _ (by simp <;> omega)];simp [World.cell?_alloc_lt]
  have c4:w1.cell? ⟨w.heap.size,4,none⟩=some (.string (txt p.exp)):=by rw [hc _ _ (by simp <;> omega)];simp [World.cell?_alloc_lt]
  have b0:w1.cell? ⟨w.heap.size+1,0,none⟩=some (.bool false):=by rw [hc _ _ (by simp <;> omega)];simp
  have b1:w1.cell? ⟨w.heap.size+1,1,none⟩=some (.slice none 0 0):=by rw [hc _ _ (by simp <;> omega)];simp
  have b2:w1.cell? ⟨w.heap.size+1,2,none⟩=some (.int .i64 0):=by rw [hc _ _ (by simp <;> omega)];simp
  have bf:∀ j,w1.frozen? ⟨w.heap.size+1,j,none⟩=false:=fun j=>by rw [hf _ _ (by simp <;> omega)];simp [go_sem]
  have hy:w.heap.size<w1.heap.size:=by omega
  have B0:=Lib.hid b0
  have B1:=Lib.hid b1
  have B2:=Lib.hid b2
  have BF:=Lib.hid bf
  clear h2 hc hf b0 b1 b2 bf
  have n0:=World.new_ne w1 _ c0
  have hne1:¬ w.heap.size=w1.heap.size:=by omega
  have hne2:¬ w.heap.size=w1.heap.size+1:=by omega
  have hne3:¬ w1.heap.size=w.heap.size:=by omega
  have hne4:¬ w1.heap.size+1=w.heap.size:=by omega
  have hwr:IntKind.i64.wrap (expV p - (p.frac.length:Int))=expV p - (p.frac.length:Int):=IntWalk.i64_in _ (by omega)
  go_upto_region 4 with fail
  go_cut [5,6] (fun s5 s6 wx=>NumCut w0 l (w.heap.size+1) neg m e ok s5 s6 wx)
  case first =>
    go_region_held3 (fun w'=>w'.cell? ⟨w.heap.size,0,none⟩=some (.bool p.neg)∧w'.cell? ⟨w.heap.size,1,none⟩=some (.string (txt p.whole))∧w'.cell? ⟨w.heap.size,2,none⟩=some (.string (txt p.frac))∧w'.cell? ⟨w.heap.size,3,none⟩=some (.bool p.down)∧w'.cell? ⟨w.heap.size,4,none⟩=some (.string (txt p.exp))) (go_keep)
      (first | (go_at_call 160;refine (KT.out _).mono ?_;rintro r w' ⟨rfl,rfl⟩) | (go_at_call 159;refine (KM.out _ _ (by exact (H3.out.step (by first | exact below_drew ((Below.refl _ _).alloc (Nat.le_refl _) _) | exact below_drew (((Below.refl _ _).alloc (Nat.le_refl _) _).alloc (by simp) _))).again)).mono ?_;rintro r w5 ⟨v5,rfl,h5⟩;obtain ⟨ad5,cap5,rfl,_⟩:=h5.get 0 rfl;have hbW:Below w1.heap.size w1 w5:=below_on (by first | exact below_drew ((Below.refl _ _).alloc (Nat.le_refl _) _) | exact below_drew (((Below.refl _ _).alloc (Nat.le_refl _) _).alloc (by simp) _)) h5.below;have q0:=(hbW.cell (p:=⟨w.heap.size,0,none⟩) hy).trans c0;have q1:=(hbW.cell (p:=⟨w.heap.size,1,none⟩) hy).trans c1;have q2:=(hbW.cell (p:=⟨w.heap.size,2,none⟩) hy).trans c2;have q3:=(hbW.cell (p:=⟨w.heap.size,3,none⟩) hy).trans c3;have q4:=(hbW.cell (p:=⟨w.heap.size,4,none⟩) hy).trans c4;have e5:=World.new_ne w5 _ q0;have hb5:=bcell h5.below;have hz5:w1.heap.size<w5.heap.size:=(by have h:=h5.below.size;simp at h;omega);have hne5:¬ w.heap.size=w5.heap.size:=(by omega);have hne6:¬ w5.heap.size=w.heap.size:=(by omega);have H5:=Lib.hid h5;clear h5;(first | (refine And.elim ?_ (boxA H5.out.below);rintro r0 ⟨r1,r2,rf⟩) | (refine And.elim ?_ (boxB H5.out.below);rintro r0 ⟨r1,r2,rf⟩) | skip)))
    all_goals
      have hbw5:=below_on H3.out.below hbW
      have ctx5:=Ctx.pick hbw5 H5.out
      have hw1:=H3.out.below.size
      have k0:=(hbW.cell (p:=⟨w.heap.size+1,0,none⟩) hz).trans B0.out
      have k1:=(hbW.cell (p:=⟨w.heap.size+1,1,none⟩) hz).trans B1.out
      have k2:=(hbW.cell (p:=⟨w.heap.size+1,2,none⟩) hz).trans B2.out
      have kf:∀ j,w5.frozen? ⟨w.heap.size+1,j,none⟩=false:=fun j=>(hbW.frozen (p:=⟨w.heap.size+1,j,none⟩) hz).trans (BF.out j)
      have HA:=Lib.hid (cutC (neg:=neg) (e:=e) (ok:=ok) (v:=.slice ad5 (limbs m).length cap5) ctx5 k0 k1 k2 kf (by omega))
      have HS:=Lib.hid (fun g (hg:w0.heap.size≤g) (hne:g ≠ w.heap.size+1) r0 r1 r2=>cutS (neg:=neg) (e:=e) (ok:=ok) (v:=.slice ad5 (limbs m).length cap5) (g:=g) ctx5 hg hne r0 r1 r2 k0 k1 k2 kf)
      clear k0 k1 k2 kf ctx5 hbw5
      go_wp2_with fail
      go_meet
      first
        | exact HA.out
        | exact HS.out _ hw1 (by omega) r0 r1 r2
        | exact HS.out _ (Nat.le_succ_of_le hw1) (by omega) r0 r1 r2
  case rest =>
    obtain ⟨g,v,rfl,rfl,⟨g0,g1,g2⟩,hctx,⟨b0,b1,b2⟩,bf⟩:=hcut
    obtain ⟨adv,capv,rfl,_⟩:=hctx.get 0 rfl
    have hCT:=Lib.hid hctx;clear hctx
    have bf0:=bf 0
    have bf1:=bf 1
    have bf2:=bf 2
    cases ok
    · have hdrop:=Lib.hid (HQ2.out wc (by first | rfl | trivial) hCT.out.drop1)
      go_wp2
      exact ⟨rfl,hdrop.out⟩
    · have hbx:=Lib.hid (hCT.out.box3 (g:=w.heap.size+1) (Nat.le_succ_of_le hW.out) b0 b1 b2 (.bool neg) (.slice adv (limbs m).length capv) (.int .i64 e))
      go_wp2
      exact bodyPost_ret (v:=.agg #[.bool neg,.slice adv (limbs m).length capv,.int .i64 e]) (by simp [results,Tryz.results119,go_sem,b0,b1,b2]) rfl (HQ.out _ _ (by first | rfl | trivial) hbx.out)
end Go.Proofs.YtijaphbccnadbaaGreatDoor
