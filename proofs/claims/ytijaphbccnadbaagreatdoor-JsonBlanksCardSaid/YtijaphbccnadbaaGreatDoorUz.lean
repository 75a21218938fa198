/- Texts of the claim. -/
import Derived.Test.YtijaphbccnadbaaGreatDoorUy
import Derived.Defers
import Derived.Recover
import Derived.RegionTactic
import Derived.Test.YtijaphbccnadbaaGreatDoorUa
set_option linter.unusedVariables false
set_option linter.unusedSimpArgs false
set_option maxHeartbeats 8000000
set_option maxRecDepth 100000
namespace Go.Proofs.YtijaphbccnadbaaGreatDoor
open Go.RowKit Go.Sort
theorem number_some {w0 w:World} {l:List Ent} (h:Ctx w0 w l) (p:Pt) (hp:PtOk p) {neg:Bool} {m:Nat} {e:Int} (hn:numberL p=some (neg,m,e)) :
    Calls Tryz.prog 119 #[.agg #[.bool p.neg,.string (txt p.whole),.string (txt p.frac),.bool p.down,.string (txt p.exp)]] w (NumGives w0 l 2000 neg m e):=by
  unfold numberL at hn
  split at hn
  · rename_i h0
    simp only [Option.some.injEq,Prod.mk.injEq] at hn
    obtain ⟨rfl,rfl,rfl⟩:=hn
    exact number_zero h p hp h0
  · rename_i h0
    split at hn
    · cases hn
    · rename_i h6
      split at hn
      · rename_i hr
        simp only [Option.some.injEq,Prod.mk.injEq] at hn
        obtain ⟨rfl,rfl,rfl⟩:=hn
        have hb:=expV_bd (p:=p) (by omega) hp.x
        obtain ⟨s1,s2⟩:=trim_spec h0
        refine number_core h p hp h0 (by omega) hb _ _ _ true (fun v w0 w hc=>?_) _ (fun v w' _ hc=>⟨v,rfl,hc⟩) (fun _ hh _=>by cases hh)
        exact make_yes hc 0 rfl (by decide) p.neg _ _ _ s1 s2 hr.1 hr.2.1 hr.2.2
      · cases hn
theorem number_none {w0 w:World} {l:List Ent} (h:Ctx w0 w l) (p:Pt) (hp:PtOk p) (hn:numberL p=none) :
    Calls Tryz.prog 119 #[.agg #[.bool p.neg,.string (txt p.whole),.string (txt p.frac),.bool p.down,.string (txt p.exp)]] w (NumThrows w0 l):=by
  unfold numberL at hn
  split at hn
  · cases hn
  · rename_i h0
    split at hn
    · rename_i h6
      exact number_wide h p hp h0 h6
    · rename_i h6
      split at hn
      · cases hn
      · rename_i hr
        have hb:=expV_bd (p:=p) (by omega) hp.x
        obtain ⟨s1,s2⟩:=trim_spec h0
        refine number_core h p hp h0 (by omega) hb false 0 0 false (fun v w0 w hc=>?_) _ (fun _ _ hh _=>by cases hh) (fun w' _ hc=>⟨rfl,hc⟩)
        exact make_no hc 0 rfl (by decide) p.neg _ _ _ s1 s2 hr (by have:=hp.len;omega)
theorem assert_errno (x:Int) (W:World):(Instr.typeAssert (.iface 31 (.int .i64 x)) 20 31 false).run Tryz.prog W=.ok (.int .i64 x) W:=by kernel_rfl
theorem catch_thrown (g h : Nat) (b0 : Bool) (v1 : Value) (i2 i3 x : Int) (older : List PanicEntry) (w : World) (hne : g ≠ h)
    (c0 : w.cell? ⟨g, 0, none⟩ = some (.bool b0)) (c1 : w.cell? ⟨g, 1, none⟩ = some v1) (c2 : w.cell? ⟨g, 2, none⟩ = some (.int .i64 i2)) (c3 : w.cell? ⟨h, 0, none⟩ = some (.int .i64 i3))
    (f0 : ∀ j, w.frozen? ⟨g, j, none⟩ = false) (f1 : ∀ j, w.frozen? ⟨h, j, none⟩ = false) :
    CallsD Tryz.prog 117 #[.pointer (some ⟨g, 0, none⟩), .pointer (some ⟨h, 0, none⟩)] (.panicking ({ v := .iface 31 (.int .i64 x), recovered := false } :: older)) w fun e u' w' =>
      e = .returned (.tuple #[]) ∧ u' = .panicking ({ v := .iface 31 (.int .i64 x), recovered := true } :: older) ∧
        w' = ((((w.setCell ⟨g, 0, none⟩ (.bool false)).setCell ⟨g, 1, none⟩ (.slice none 0 0)).setCell ⟨g, 2, none⟩ (.int .i64 0)).setCell ⟨h, 0, none⟩ (.int .i64 x)).drew := by
  refine callsD_of_wpS Tryz.func117 rfl fun c₀ cs hu => ?_
  apply wpS_seq
  apply wpS_region
  simp [wpOpsS, go_sem, recoverD, hu, Tryz.ntmps117, Exit.thenS]
  apply wpS_seq
  apply wpS_region
  simp [wpOpsS, go_sem, Exit.thenS]
  refine wpS_cond (t := true) (by simp [Act.eval, Array.replicate]) ?_
  simp only [if_true]
  refine wpS_of_wp ?_
  change Code.wp _ _ _ { tmps := #[.pointer (some ⟨g, 0, none⟩), .pointer (some ⟨h, 0, none⟩), .iface 31 (.int .i64 x), .iface 31 (.int .i64 x), .iface 31 (.int .i64 x), .bool true, undef, undef, undef], defers := [] } w
  have hne2 : ¬ h = g := fun hh => hne hh.symm
  have f00 := f0 0
  have f01 := f0 1
  have f02 := f0 2
  have f10 := f1 0
  clear f0 f1
  have hta := assert_errno x
  go_region
  exact ⟨rfl, _, rfl, .tuple #[], by simp [results, Tryz.results117, go_sem], rfl, rfl, rfl⟩
theorem catch_idle (p q:Addr) (w:World) :
    CallsD Tryz.prog 117 #[.pointer (some p),.pointer (some q)] .returning w fun e u' w'=>e=.returned (.tuple #[])∧u'=.returning∧w'=w:=by
  refine callsD_of_wpS Tryz.func117 rfl fun c₀ cs hu=>?_
  apply wpS_seq
  apply wpS_region
  simp [wpOpsS,go_sem,recoverD,hu,Tryz.ntmps117,Exit.thenS]
  apply wpS_seq
  apply wpS_region
  simp [wpOpsS,go_sem,Exit.thenS]
  refine wpS_cond (t:=false) (by simp [Act.eval,Array.replicate]) ?_
  simp only [Bool.false_eq_true,if_false]
  refine wpS_of_wp (wp_skip ?_)
  cases c₀
  simp_all [bodyPostS,results,Tryz.results117]
def ParsedPost (w0:World) (l0:List Ent):(Bool × Nat × Int) ⊕ Int→Ending→World→Prop
  | .inl (neg,m,e),r,w'=>∃ v,r=.returned (.tuple #[.agg #[.bool neg,v,.int .i64 e],.int .i64 0])∧Ctx w0 w' (⟨v,2000,m,limbs m⟩::l0)
  | .inr n,r,w'=>r=.returned (.tuple #[.agg #[.bool false,.slice none 0 0,.int .i64 0],.int .i64 n])∧Ctx w0 w' l0
theorem numParse_long {w0 w:World} {l0:List Ent} (h:Ctx w0 w l0) (l:List Nat) (hl:2000<l.length) :
    Calls Tryz.prog 74 #[.string (txt l)] w (ParsedPost w0 l0 (.inr 4)):=by
  have hmf:∀ (fn:Fn) (first cap:Array Value) (w:World),(Instr.makeFunc fn first cap).run Tryz.prog w=.ok (.func fn first cap) w:=fun _ _ _ _=>rfl
  have hsz:(txt l).size=l.length:=txt_size l
  have hl':(2000:Int)<(l.length:Int):=by omega
  go_enter_defers Tryz.func74,Tryz.ntmps74
  go_wp2
  have hctx:=h.step (((Below.refl w.heap.size w).alloc (Nat.le_refl _) (.cells #[.bool false,.slice none 0 0,.int .i64 0] 24)).alloc (by simp) (.cells #[.int .i64 0] 31))
  have hW:=h.below.size
  refine leaves_cons (f:=117) (args:=#[.pointer (some ⟨w.heap.size,0,none⟩),.pointer (some ⟨w.heap.size+1,0,none⟩)]) (by simp) (by simp [go_sem]) ?_
  refine (catch_thrown w.heap.size (w.heap.size+1) false (.slice none 0 0) 0 0 4 [] _ (by omega) (by simp [World.cell?_alloc_lt]) (by simp [World.cell?_alloc_lt]) (by simp [World.cell?_alloc_lt]) (by simp) (fun j=>by simp [go_sem]) (fun j=>by simp [go_sem])).mono ?_
  rintro e u' w'' ⟨rfl,rfl,rfl⟩
  simp [Leaves,settle,results,Tryz.results74,go_sem]
  exact ⟨rfl,(h.step (((Below.refl w.heap.size w).alloc (Nat.le_refl _) _).alloc (by simp) _)).drewN 1⟩
theorem Ctx.thrown {w0 w W:World} {l0:List Ent} (h:Ctx w0 W l0) (hW:w0.heap.size≤w.heap.size)
    (c0:W.cell? ⟨w.heap.size,0,none⟩=some (.bool false)) (c1:W.cell? ⟨w.heap.size,1,none⟩=some (.slice none 0 0)) (c2:W.cell? ⟨w.heap.size,2,none⟩=some (.int .i64 0)) (c3:W.cell? ⟨w.heap.size+1,0,none⟩=some (.int .i64 0)) (x:Int) :
    Ctx w0 ((((W.setCell ⟨w.heap.size,0,none⟩ (.bool false)).setCell ⟨w.heap.size,1,none⟩ (.slice none 0 0)).setCell ⟨w.heap.size,2,none⟩ (.int .i64 0)).setCell ⟨w.heap.size+1,0,none⟩ (.int .i64 x)).drew l0:=by
  have h2:=h.box3 hW c0 c1 c2 (.bool false) (.slice none 0 0) (.int .i64 0)
  have d:(((W.setCell ⟨w.heap.size,0,none⟩ (.bool false)).setCell ⟨w.heap.size,1,none⟩ (.slice none 0 0)).setCell ⟨w.heap.size,2,none⟩ (.int .i64 0)).cell? ⟨w.heap.size+1,0,none⟩=some (.int .i64 0):=by
    rw [World.cell?_setCell_other (h:=by simp),World.cell?_setCell_other (h:=by simp),World.cell?_setCell_other (h:=by simp)];exact c3
  exact (h2.setBox (by omega) d (fun _=>by simp) _).drewN 1
theorem numParse_bad {w0 w:World} {l0:List Ent} (h:Ctx w0 w l0) (l:List Nat) (ho:Okb l) (hl:l.length≤2000) (hr:readL l=none) :
    Calls Tryz.prog 74 #[.string (txt l)] w (ParsedPost w0 l0 (.inr 2)):=by
  have hmf:∀ (fn:Fn) (first cap:Array Value) (w:World),(Instr.makeFunc fn first cap).run Tryz.prog w=.ok (.func fn first cap) w:=fun _ _ _ _=>rfl
  have hsz:(txt l).size=l.length:=txt_size l
  have hl':¬ (2000:Int)<(l.length:Int):=by omega
  have hb0:Below w.heap.size w ((w.alloc (.cells #[.bool false,.slice none 0 0,.int .i64 0] 24)).alloc (.cells #[.int .i64 0] 31)):=(((Below.refl w.heap.size w).alloc (Nat.le_refl _) _).alloc (by simp) _)
  have hctx:=Lib.hid (h.step hb0)
  have hW:=h.below.size
  have KR:=Lib.hid (fun W=>read_any l W ho hl)
  have HR:=Lib.hid hr
  clear h hr hb0
  go_enter_defers Tryz.func74,Tryz.ntmps74
  go_wp2_with fail
  refine (KR.out _).mono ?_
  rintro r w1 (⟨_,rfl,hb⟩ | ⟨p,hp,_⟩)
  · obtain ⟨hc,hf⟩:=bcell hb
    have c0:w1.cell? ⟨w.heap.size,0,none⟩=some (.bool false):=by rw [hc _ _ (by simp <;> omega)];simp [World.cell?_alloc_lt]
    have c1:w1.cell? ⟨w.heap.size,1,none⟩=some (.slice none 0 0):=by rw [hc _ _ (by simp <;> omega)];simp [World.cell?_alloc_lt]
    have c2:w1.cell? ⟨w.heap.size,2,none⟩=some (.int .i64 0):=by rw [hc _ _ (by simp <;> omega)];simp [World.cell?_alloc_lt]
    have c3:w1.cell? ⟨w.heap.size+1,0,none⟩=some (.int .i64 0):=by rw [hc _ _ (by simp <;> omega)];simp
    have f0:∀ j,w1.frozen? ⟨w.heap.size,j,none⟩=false:=fun j=>by rw [hf _ _ (by simp <;> omega)];simp [go_sem]
    have f1:∀ j,w1.frozen? ⟨w.heap.size+1,j,none⟩=false:=fun j=>by rw [hf _ _ (by simp <;> omega)];simp [go_sem]
    have hfin:=Lib.hid ((hctx.out.step hb).thrown hW c0 c1 c2 c3 2)
    clear hc hf
    go_wp2
    refine leaves_cons (f:=117) (args:=#[.pointer (some ⟨w.heap.size,0,none⟩),.pointer (some ⟨w.heap.size+1,0,none⟩)]) (by simp) (by simp [go_sem]) ?_
    refine (catch_thrown w.heap.size (w.heap.size+1) false (.slice none 0 0) 0 0 2 [] _ (by omega) c0 c1 c2 c3 f0 f1).mono ?_
    rintro e u' w'' ⟨rfl,rfl,rfl⟩
    simp [Leaves,settle,results,Tryz.results74,go_sem,c0,c1,c2,c3]
    exact ⟨rfl,hfin.out⟩
  · rw [HR.out] at hp;cases hp
theorem ptOk_read {l:List Nat} {p:Pt} (hl:l.length≤2000) (h:readL l=some p):PtOk p:=by
  have hb:¬ wholeBad (digs (rest l 45)):=fun hb=>by rw [readL_bad hb] at h;cases h
  have hw0:0<(digs (rest l 45)).length:=by
    rcases Nat.eq_zero_or_pos (digs (rest l 45)).length with h1 | h1
    · exact absurd (.inl (List.eq_nil_of_length_eq_zero h1)) hb
    · exact h1
  have e1:(digs (rest l 45)).length+(undigs (rest l 45)).length=(rest l 45).length:=by
    rw [← List.length_append];exact congrArg List.length List.takeWhile_append_dropWhile
  have hl1:=rest_len l 45
  unfold readL at h
  rw [if_neg hb] at h
  generalize undigs (rest l 45)=l2 at *
  have hd:=digs_ok (rest l 45)
  generalize digs (rest l 45)=D at *
  cases hf:fracL l2 with
  | none=>rw [hf] at h;cases h
  | some q =>
    obtain ⟨f,l3⟩:=q
    rw [hf] at h
    simp only at h
    have hfo:Okd f∧f.length≤l2.length∧l3.length≤l2.length:=by
      unfold fracL at hf
      split at hf
      · split at hf
        · cases hf
        · simp only [Option.some.injEq,Prod.mk.injEq] at hf
          obtain ⟨rfl,rfl⟩:=hf
          have:=digs_len l2.tail
          have:=undigs_len l2.tail
          simp at *
          exact ⟨digs_ok _,by omega,by omega⟩
      · simp only [Option.some.injEq,Prod.mk.injEq] at hf
        obtain ⟨rfl,rfl⟩:=hf
        exact ⟨Okd.nil,by simp,Nat.le_refl _⟩
    cases hx:expL l3 with
    | none=>rw [hx] at h;cases h
    | some q =>
      obtain ⟨d,x,l4⟩:=q
      rw [hx] at h
      simp only at h
      have hxo:Okd x∧x.length≤l3.length:=by
        unfold expL at hx
        split at hx
        · split at hx
          · cases hx
          · simp only [Option.some.injEq,Prod.mk.injEq] at hx
            obtain ⟨rfl,rfl,rfl⟩:=hx
            have h1:=digs_len (signL l3.tail)
            have h2:=sign_len l3.tail
            simp only [List.length_tail] at h2
            exact ⟨digs_ok _,by omega⟩
        · simp only [Option.some.injEq,Prod.mk.injEq] at hx
          obtain ⟨rfl,rfl,rfl⟩:=hx
          exact ⟨Okd.nil,by simp⟩
      split at h
      · simp only [Option.some.injEq] at h
        subst h
        exact ⟨hd,hw0,hfo.1,hxo.1,by simp only;omega,by simp only;omega⟩
      · cases h
theorem numParse_noroom {w0 w:World} {l0:List Ent} (h:Ctx w0 w l0) (l:List Nat) (ho:Okb l) (hl:l.length≤2000) (p:Pt) (hr:readL l=some p) (hn:numberL p=none) :
    Calls Tryz.prog 74 #[.string (txt l)] w (ParsedPost w0 l0 (.inr 4)):=by
  have hmf:∀ (fn:Fn) (first cap:Array Value) (w:World),(Instr.makeFunc fn first cap).run Tryz.prog w=.ok (.func fn first cap) w:=fun _ _ _ _=>rfl
  have hsz:(txt l).size=l.length:=txt_size l
  have hl':¬ (2000:Int)<(l.length:Int):=by omega
  have hpo:=ptOk_read hl hr
  have hb0:Below w.heap.size w ((w.alloc (.cells #[.bool false,.slice none 0 0,.int .i64 0] 24)).alloc (.cells #[.int .i64 0] 31)):=(((Below.refl w.heap.size w).alloc (Nat.le_refl _) _).alloc (by simp) _)
  have hctx:=Lib.hid (h.step hb0)
  have hW:=h.below.size
  have KR:=Lib.hid (fun W=>read_any l W ho hl)
  have KN:=Lib.hid (fun (W:World) (l1:List Ent) (hc:Ctx W W l1)=>number_none hc p hpo hn)
  have HR:=Lib.hid hr
  clear h hr hb0 hn
  go_enter_defers Tryz.func74,Tryz.ntmps74
  go_wp2_with fail
  refine (KR.out _).mono ?_
  rintro r w1 (⟨hp,_⟩ | ⟨p',hp,rfl,hb⟩)
  · rw [HR.out] at hp;cases hp
  · obtain rfl:p=p':=Option.some.inj (HR.out.symm.trans hp)
    have KNw:=Lib.hid (KN.out w1 l0 ((hctx.out.step hb).again))
    have hcw:=Lib.hid (hctx.out.step hb)
    unfold PtV
    go_wp2_with fail
    refine KNw.out.mono ?_
    rintro r w2 ⟨rfl,h2⟩
    have hb2:=below_on hb h2.below
    obtain ⟨hc,hf⟩:=bcell hb2
    have c0:w2.cell? ⟨w.heap.size,0,none⟩=some (.bool false):=by rw [hc _ _ (by simp <;> omega)];simp [World.cell?_alloc_lt]
    have c1:w2.cell? ⟨w.heap.size,1,none⟩=some (.slice none 0 0):=by rw [hc _ _ (by simp <;> omega)];simp [World.cell?_alloc_lt]
    have c2:w2.cell? ⟨w.heap.size,2,none⟩=some (.int .i64 0):=by rw [hc _ _ (by simp <;> omega)];simp [World.cell?_alloc_lt]
    have c3:w2.cell? ⟨w.heap.size+1,0,none⟩=some (.int .i64 0):=by rw [hc _ _ (by simp <;> omega)];simp
    have f0:∀ j,w2.frozen? ⟨w.heap.size,j,none⟩=false:=fun j=>by rw [hf _ _ (by simp <;> omega)];simp [go_sem]
    have f1:∀ j,w2.frozen? ⟨w.heap.size+1,j,none⟩=false:=fun j=>by rw [hf _ _ (by simp <;> omega)];simp [go_sem]
    have hfin:=Lib.hid ((hcw.out.step h2.below).thrown hW c0 c1 c2 c3 4)
    clear hc hf hb hb2 h2 hp
    go_wp2
    refine leaves_cons (f:=117) (args:=#[.pointer (some ⟨w.heap.size,0,none⟩),.pointer (some ⟨w.heap.size+1,0,none⟩)]) (by simp) (by simp [go_sem]) ?_
    refine (catch_thrown w.heap.size (w.heap.size+1) false (.slice none 0 0) 0 0 4 [] _ (by omega) c0 c1 c2 c3 f0 f1).mono ?_
    rintro e u' w'' ⟨rfl,rfl,rfl⟩
    simp [Leaves,settle,results,Tryz.results74,go_sem,c0,c1,c2,c3]
    exact ⟨rfl,hfin.out⟩
theorem numParse_ok {w0 w:World} {l0:List Ent} (h:Ctx w0 w l0) (l:List Nat) (ho:Okb l) (hl:l.length≤2000) (p:Pt) (hr:readL l=some p) (neg:Bool) (m:Nat) (e:Int) (hn:numberL p=some (neg,m,e)) :
    Calls Tryz.prog 74 #[.string (txt l)] w (ParsedPost w0 l0 (.inl (neg,m,e))):=by
  have hmf:∀ (fn:Fn) (first cap:Array Value) (w:World),(Instr.makeFunc fn first cap).run Tryz.prog w=.ok (.func fn first cap) w:=fun _ _ _ _=>rfl
  have hsz:(txt l).size=l.length:=txt_size l
  have hl':¬ (2000:Int)<(l.length:Int):=by omega
  have hpo:=ptOk_read hl hr
  have hb0:Below w.heap.size w ((w.alloc (.cells #[.bool false,.slice none 0 0,.int .i64 0] 24)).alloc (.cells #[.int .i64 0] 31)):=(((Below.refl w.heap.size w).alloc (Nat.le_refl _) _).alloc (by simp) _)
  have hctx:=Lib.hid (h.step hb0)
  have hW:=h.below.size
  have KR:=Lib.hid (fun W=>read_any l W ho hl)
  have KN:=Lib.hid (fun (W:World) (l1:List Ent) (hc:Ctx W W l1)=>number_some hc p hpo hn)
  have HR:=Lib.hid hr
  clear h hr hb0 hn
  go_enter_defers Tryz.func74,Tryz.ntmps74
  go_wp2_with fail
  refine (KR.out _).mono ?_
  rintro r w1 (⟨hp,_⟩ | ⟨p',hp,rfl,hb⟩)
  · rw [HR.out] at hp;cases hp
  · obtain rfl:p=p':=Option.some.inj (HR.out.symm.trans hp)
    have KNw:=Lib.hid (KN.out w1 l0 ((hctx.out.step hb).again))
    have hcw:=Lib.hid (hctx.out.step hb)
    unfold PtV
    go_wp2_with fail
    refine KNw.out.mono ?_
    rintro r w2 ⟨v,rfl,h2⟩
    obtain ⟨ad,cap,rfl,_⟩:=h2.get 0 rfl
    have hb2:=below_on hb h2.below
    obtain ⟨hc,hf⟩:=bcell hb2
    have c0:w2.cell? ⟨w.heap.size,0,none⟩=some (.bool false):=by rw [hc _ _ (by simp <;> omega)];simp [World.cell?_alloc_lt]
    have c1:w2.cell? ⟨w.heap.size,1,none⟩=some (.slice none 0 0):=by rw [hc _ _ (by simp <;> omega)];simp [World.cell?_alloc_lt]
    have c2:w2.cell? ⟨w.heap.size,2,none⟩=some (.int .i64 0):=by rw [hc _ _ (by simp <;> omega)];simp [World.cell?_alloc_lt]
    have c3:w2.cell? ⟨w.heap.size+1,0,none⟩=some (.int .i64 0):=by rw [hc _ _ (by simp <;> omega)];simp
    have f0:∀ j,w2.frozen? ⟨w.heap.size,j,none⟩=false:=fun j=>by rw [hf _ _ (by simp <;> omega)];simp [go_sem]
    have f1:∀ j,w2.frozen? ⟨w.heap.size+1,j,none⟩=false:=fun j=>by rw [hf _ _ (by simp <;> omega)];simp [go_sem]
    have hx:Ctx w0 w2 (⟨.slice ad (limbs m).length cap,2000,m,limbs m⟩::l0):=⟨below_on hcw.out.below h2.below,h2.all⟩
    have hy:=hx.box3 hW c0 c1 c2 (.bool neg) (.slice ad (limbs m).length cap) (.int .i64 e)
    have d3:(((w2.setCell ⟨w.heap.size,0,none⟩ (.bool neg)).setCell ⟨w.heap.size,1,none⟩ (.slice ad (limbs m).length cap)).setCell ⟨w.heap.size,2,none⟩ (.int .i64 e)).cell? ⟨w.heap.size+1,0,none⟩=some (.int .i64 0):=by
      rw [World.cell?_setCell_other (h:=by simp),World.cell?_setCell_other (h:=by simp),World.cell?_setCell_other (h:=by simp)];exact c3
    have hfin:=Lib.hid (hy.setBox (by omega) d3 (fun _=>by simp) (.int .i64 0))
    have f00:=f0 0
    have f01:=f0 1
    have f02:=f0 2
    have f10:=f1 0
    clear hc hf hb hb2 h2 hp f0 f1 hx hy d3
    generalize (limbs m).length=n at *
    go_wp2
    refine leaves_cons (f:=117) (args:=#[.pointer (some ⟨w.heap.size,0,none⟩),.pointer (some ⟨w.heap.size+1,0,none⟩)]) (by simp) (by simp [go_sem]) ?_
    refine (catch_idle _ _ _).mono ?_
    rintro e u' w'' ⟨rfl,rfl,rfl⟩
    simp [Leaves,settle,results,Tryz.results74,go_sem,c0,c1,c2,c3]
    exact ⟨_,rfl,hfin.out⟩
theorem numParse_any {w0 w:World} {l0:List Ent} (h:Ctx w0 w l0) (l:List Nat) (ho:Okb l):Calls Tryz.prog 74 #[.string (txt l)] w (ParsedPost w0 l0 (parseN l)):=by
  unfold parseN
  split
  · rename_i hl;exact numParse_long h l hl
  · rename_i hl
    split
    · rename_i hr;exact numParse_bad h l ho (by omega) hr
    · rename_i p hr
      split
      · rename_i hn;exact numParse_noroom h l ho (by omega) p hr hn
      · rename_i r hn
        obtain ⟨neg,m,e⟩:=r
        exact numParse_ok h l ho (by omega) p hr neg m e hn
attribute [local go_sem ↓] Go.wp_at_zero Go.wp_at_succ
def LocV (B:Nat) (v:Value):Prop:=∀ a n c,v=.slice (some a) n c→B≤a.block
theorem LocV.mono {B B':Nat} {v:Value} (h:LocV B v) (hb:B'≤B):LocV B' v:=fun a n c e=>Nat.le_trans hb (h a n c e)
theorem locV_none (B n c:Nat):LocV B (.slice none n c):=fun _ _ _ e=>by cases e
theorem locV_own {B:Nat} {w:World} {v:Value} {xs:List Nat} (h:Own B w v xs):LocV B v:=by
  obtain ⟨ad,cap,rfl,_,_,h3⟩:=h.view
  intro a n c e
  injection e with e1
  exact (h3 a e1).1
theorem trim_n {w0 w:World} {l:List Ent} {v1:Value} {L1 N1:Nat} {xs:List Nat} (h:Ctx w0 w l) (i:Nat) (hi:l[i]? = some ⟨v1,L1,N1,xs⟩) (h1:L1≤10000000) :
    Calls Tryz.prog 191 #[v1] w fun e w'=>∃ v m k,e=.returned (.tuple #[v,.int .i64 ((k:Nat):Int)])∧N1=m*tenN k∧(N1=0→k=0)∧(N1 ≠ 0→m % 10 ≠ 0)∧k≤400000000∧LocV w.heap.size v∧Ctx w0 w' (⟨v,L1,m,limbs m⟩::l):=by
  obtain ⟨ad,cap,rfl,a2,a3,a4,a5,rfl⟩:=h.get i hi
  refine (trim_any ad _ cap xs w rfl a2 (by omega) a4 a5).mono ?_
  rintro e w' ⟨v,m,k,rfl,ho,hb,q1,q2,q3,q4⟩
  refine ⟨v,m,k,rfl,q1,q2,q3,q4,locV_own ho,(h.step hb).push (ent_own ho (len_leq a4 ?_ a3))⟩
  rw [q1]
  exact Nat.le_mul_of_pos_right _ (Nat.pow_pos (by decide))
def MadeN (w w0:World) (l:List Ent) (L:Nat) (neg:Bool) (m:Nat) (e:Int) (ok:Bool) (r:Ending) (w':World):Prop :=
  ∃ v,r=.returned (.tuple #[.agg #[.bool neg,v,.int .i64 e],.bool ok])∧LocV w.heap.size v∧Ctx w0 w' (⟨v,L,m,limbs m⟩::l)
theorem make_yes_n {w0 w:World} {l:List Ent} {v:Value} {L N:Nat} {xs:List Nat} (h:Ctx w0 w l) (i:Nat) (hi:l[i]? = some ⟨v,L,N,xs⟩) (hL:L≤1000000) (neg:Bool) (e:Int)
    (m k:Nat) (hN:N=m*tenN k) (hm:m % 10 ≠ 0) (hlen:(limbs m).length≤90) (hlo:-1200≤e+(k:Int)) (hhi:e+(k:Int)≤1200) :
    Calls Tryz.prog 159 #[.bool neg,v,.int .i64 e] w (MadeN w w0 l L neg m (e+(k:Int)) true):=by
  have hb1:Below w.heap.size w (w.alloc (.cells #[.bool false,.slice none 0 0,.int .i64 0] 24)):=(Below.refl _ _).alloc (Nat.le_refl _) _
  have h1:=h.step hb1
  have hW:=Lib.hid h.below.size
  have K:=Lib.hid (trim_n h1.again i hi (by omega))
  have H1:=Lib.hid h1.below
  have HB1:=Lib.hid hb1
  have HC:=Lib.hid (chkB_mk (neg:=neg) hm hlen hlo hhi)
  have hne:m ≠ 0:=by intro h0;rw [h0] at hm;exact hm rfl
  have hlb:(((limbs m).length:Int) == 0)=false:=by
    rw [beq_eq_false_iff_ne]
    intro h0
    exact hne ((limbs_nil_iff m).1 (List.eq_nil_of_length_eq_zero (by omega)))
  have hN0:N ≠ 0:=by rw [hN];exact Nat.mul_ne_zero hne (tenN_ne _)
  have HM:=Lib.hid hm
  have HE:=Lib.hid hN
  have HLEN:=Lib.hid hlen
  have he1:¬ (1200<e):=by omega
  clear h h1 hi hb1 hne hm hN hlen
  go_enter Tryz.func159,Tryz.ntmps159
  go_wp2_with fail
  refine K.out.mono ?_
  rintro r w1 ⟨t,m',k',rfl,q1,q2,q3,hk4,hloc,h2⟩
  obtain ⟨rfl,rfl⟩:m=m'∧k=k':=ten_unique (by rw [← q1,← HE.out]) HM.out (q3 hN0)
  have HLOC:=Lib.hid (hloc.mono (B':=w.heap.size) (by simp));clear hloc
  have hv:=h2.get 0 rfl
  obtain ⟨ad,cap,rfl,a2,a3,a4,a5,a6⟩:=hv
  obtain ⟨hc,hf⟩:=bcell h2.below
  have hz:w.heap.size<w1.heap.size:=by have:=h2.below.size;simp at this;omega
  have H2:=Lib.hid h2;clear h2 q1 q2 q3
  have KC:=Lib.hid (check_any neg ad (limbs m).length cap (limbs m) (e+(k:Int)) (w1.alloc (.cells #[.bool neg,.slice ad (limbs m).length cap,.int .i64 (e+(k:Int))] 24)) rfl a2 (by have:=HLEN.out;omega) a4 (a5.below ((Below.refl _ _).alloc (Nat.le_refl _) _)))
  have A5:=Lib.hid a5
  have A6:=Lib.hid a6
  clear a3 a4 a5 a6
  generalize hn:(limbs m).length=n at *
  have HN:=Lib.hid hn;clear hn
  have hsum:IntKind.i64.wrap (e+(k:Int))=e+(k:Int):=IntWalk.i64_in _ (by omega)
  go_wp2_with fail
  refine KC.out.mono ?_
  rintro r w2 ⟨rfl,hb2⟩
  rw [HC.out]
  obtain ⟨hc2,hf2⟩:=bcell hb2
  have hz2:w1.heap.size<w2.heap.size:=by have:=hb2.size;simp at this;omega
  have hzz:w.heap.size<w1.heap.size+1:=by omega
  have HB2:=Lib.hid hb2;clear hb2
  go_wp2
  have H3:=Ctx.back H1.out H2.out
  have H4:=(H3.step ((Below.refl _ _).alloc (Nat.le_refl _) (.cells #[.bool neg,.slice ad n cap,.int .i64 (e+(k:Int))] 24))).step HB2.out
  refine bodyPost_ret (v:=.tuple #[.agg #[.bool neg,.slice ad n cap,.int .i64 (e+(k:Int))],.bool true]) (by simp [results,Tryz.results159,go_sem,hc,hc2,hz,hzz]) rfl ⟨_,rfl,HLOC.out,?_⟩
  exact H4.box3 hW.out (b:=false) (a:=none) (n:=0) (c:=0) (x:=0) (by simp [hc,hc2,hzz,hz,World.cell?_alloc_lt]) (by simp [hc,hc2,hzz,hz,World.cell?_alloc_lt]) (by simp [hc,hc2,hzz,hz,World.cell?_alloc_lt]) _ _ _
def NumGivesN (w0:World) (l:List Ent) (L:Nat) (neg:Bool) (m:Nat) (e:Int) (r:Ending) (w':World):Prop :=
  ∃ v,r=.returned (.agg #[.bool neg,v,.int .i64 e])∧LocV w0.heap.size v∧Ctx w0 w' (⟨v,L,m,limbs m⟩::l)
theorem number_zero_n {w0 w:World} {l:List Ent} (h:Ctx w0 w l) (p:Pt) (hp:PtOk p) (h0:hval (p.whole++p.frac)=0) :
    Calls Tryz.prog 119 #[.agg #[.bool p.neg,.string (txt p.whole),.string (txt p.frac),.bool p.down,.string (txt p.exp)]] w (NumGivesN w0 l 2000 false 0 0):=by
  have hb1:Below w.heap.size w ((w.alloc (.cells #[.bool p.neg,.string (txt p.whole),.string (txt p.frac),.bool p.down,.string (txt p.exp)] 138)).alloc (.cells #[.bool false,.slice none 0 0,.int .i64 0] 24)):=((Below.refl _ _).alloc (Nat.le_refl _) _).alloc (by simp) _
  have h1:=h.step hb1
  have hW:=Lib.hid h.below.size
  have hlw:(p.whole++p.frac).length≤2000:=by rw [List.length_append];exact hp.len
  have K:=Lib.hid (parse_c h1.again (hp.w.append hp.f) (by rw [List.length_append];have:=hp.w0;omega) 2000 hlw (Nat.le_refl _) 0 h0)
  have H1:=Lib.hid h1.below
  have hs1:(txt p.whole).size≤2000:=by rw [txt_size];have:=hp.len;omega
  have hs2:(txt p.frac).size≤2000:=by rw [txt_size];have:=hp.len;omega
  clear h h1 hb1 h0 hp hlw
  go_enter Tryz.func119,Tryz.ntmps119
  go_wp2_with fail
  rw [txt_append]
  refine K.out.mono ?_
  rintro r w1 ⟨v,rfl,h2⟩
  obtain ⟨ad,cap,rfl,_⟩:=h2.get 0 rfl
  rw [show (limbs 0).length=0 by rw [limbs_zero];rfl] at *
  obtain ⟨hc,hf⟩:=bcell h2.below
  have hz:w.heap.size+1<w1.heap.size:=by have:=h2.below.size;simp at this;omega
  have H2:=Lib.hid h2;clear h2
  go_wp2
  have H3:=Ctx.back H1.out H2.out
  refine bodyPost_ret (v:=.agg #[.bool false,.slice none 0 0,.int .i64 0]) (by simp [results,Tryz.results119,go_sem,hc,hz]) rfl ⟨.slice none 0 0,rfl,locV_none _ _ _,?_⟩
  have H4:=H3.box3 (g:=w.heap.size+1) (Nat.le_succ_of_le hW.out) (b:=false) (a:=none) (n:=0) (c:=0) (x:=0) (by simp [hc]) (by simp [hc]) (by simp [hc]) (.bool false) (.slice none 0 0) (.int .i64 0)
  exact (H4.drop1).push (ent_nil _ _)
def NumCutN (w0 : World) (l : List Ent) (B : Nat) (neg : Bool) (m : Nat) (e : Int) (ok : Bool) (s5 s6 : Value) (wx : World) : Prop :=
  ∃ g v, s5 = .pointer (some ⟨g, 0, none⟩) ∧ s6 = .bool ok ∧ LocV w0.heap.size v ∧ (wx.cell? ⟨g, 0, none⟩ = some (.bool neg) ∧ wx.cell? ⟨g, 1, none⟩ = some v ∧ wx.cell? ⟨g, 2, none⟩ = some (.int .i64 e)) ∧
    Ctx w0 wx (⟨v, 2000, m, limbs m⟩ :: l) ∧ (wx.cell? ⟨B, 0, none⟩ = some (.bool false) ∧ wx.cell? ⟨B, 1, none⟩ = some (.slice none 0 0) ∧ wx.cell? ⟨B, 2, none⟩ = some (.int .i64 0)) ∧ (∀ j, wx.frozen? ⟨B, j, none⟩ = false)
theorem cutCN {w0 w5:World} {l:List Ent} {B:Nat} {neg:Bool} {m:Nat} {e:Int} {ok:Bool} {v:Value} (hloc:LocV w0.heap.size v) (h:Ctx w0 w5 (⟨v,2000,m,limbs m⟩::l)) (b0:w5.cell? ⟨B,0,none⟩=some (.bool false)) (b1:w5.cell? ⟨B,1,none⟩=some (.slice none 0 0)) (b2:w5.cell? ⟨B,2,none⟩=some (.int .i64 0)) (bf:∀ j,w5.frozen? ⟨B,j,none⟩=false) (hB:B<w5.heap.size) :
    NumCutN w0 l B neg m e ok (.pointer (some ⟨w5.heap.size,0,none⟩)) (.bool ok) (w5.alloc (.cells #[.bool neg,v,.int .i64 e] 24)):=by
  have hb:Below w5.heap.size w5 (w5.alloc (.cells #[.bool neg,v,.int .i64 e] 24)):=(Below.refl _ _).alloc (Nat.le_refl _) _
  exact ⟨w5.heap.size,v,rfl,rfl,hloc,⟨by simp,by simp,by simp⟩,h.step hb,⟨(hb.cell (p:=⟨B,0,none⟩) hB).trans b0,(hb.cell (p:=⟨B,1,none⟩) hB).trans b1,(hb.cell (p:=⟨B,2,none⟩) hB).trans b2⟩,fun j=>(hb.frozen (p:=⟨B,j,none⟩) hB).trans (bf j)⟩
theorem cutSN {w0 w5:World} {l:List Ent} {B g:Nat} {neg:Bool} {m:Nat} {e:Int} {ok:Bool} {v:Value} (hloc:LocV w0.heap.size v) (h:Ctx w0 w5 (⟨v,2000,m,limbs m⟩::l)) (hg:w0.heap.size≤g) (hne:g ≠ B) (r0:w5.cell? ⟨g,0,none⟩=some (.bool false)) (r1:w5.cell? ⟨g,1,none⟩=some (.slice none 0 0)) (r2:w5.cell? ⟨g,2,none⟩=some (.int .i64 0))
    (b0:w5.cell? ⟨B,0,none⟩=some (.bool false)) (b1:w5.cell? ⟨B,1,none⟩=some (.slice none 0 0)) (b2:w5.cell? ⟨B,2,none⟩=some (.int .i64 0)) (bf:∀ j,w5.frozen? ⟨B,j,none⟩=false) :
    NumCutN w0 l B neg m e ok (.pointer (some ⟨g,0,none⟩)) (.bool ok) (((w5.setCell ⟨g,0,none⟩ (.bool neg)).setCell ⟨g,1,none⟩ v).setCell ⟨g,2,none⟩ (.int .i64 e)):=by
  have ho:∀ j,(((w5.setCell ⟨g,0,none⟩ (.bool neg)).setCell ⟨g,1,none⟩ v).setCell ⟨g,2,none⟩ (.int .i64 e)).cell? ⟨B,j,none⟩=w5.cell? ⟨B,j,none⟩:=fun j=>by
    rw [World.cell?_setCell_other (h:=by simp [hne]),World.cell?_setCell_other (h:=by simp [hne]),World.cell?_setCell_other (h:=by simp [hne])]
  have d1:(w5.setCell ⟨g,0,none⟩ (.bool neg)).cell? ⟨g,1,none⟩=some (.slice none 0 0):=by rw [World.cell?_setCell_other (h:=by simp)];exact r1
  have d2:((w5.setCell ⟨g,0,none⟩ (.bool neg)).setCell ⟨g,1,none⟩ v).cell? ⟨g,2,none⟩=some (.int .i64 0):=by rw [World.cell?_setCell_other (h:=by simp),World.cell?_setCell_other (h:=by simp)];exact r2
  refine ⟨g,v,rfl,rfl,hloc,⟨?_,?_,?_⟩,h.box3 hg r0 r1 r2 _ _ _,⟨(ho 0).trans b0,(ho 1).trans b1,(ho 2).trans b2⟩,fun j=>?_⟩
  · rw [World.cell?_setCell_other (h:=by simp),World.cell?_setCell_other (h:=by simp)];exact World.cell?_setCell_same _ _ _ r0
  · rw [World.cell?_setCell_other (h:=by simp)];exact World.cell?_setCell_same _ _ _ d1
  · exact World.cell?_setCell_same _ _ _ d2
  · simp only [World.frozen?_setCell];exact bf j
def MakeAtN (l:List Ent) (v:Value) (neg:Bool) (x:Int) (neg':Bool) (m:Nat) (e:Int) (ok:Bool):Prop :=
  ∀ (w0 w:World),Ctx w0 w l→Calls Tryz.prog 159 #[.bool neg,v,.int .i64 x] w (MadeN w w0 l 2000 neg' m e ok)
theorem number_core_n {w0 w:World} {l:List Ent} (h:Ctx w0 w l) (p:Pt) (hp:PtOk p) (h0:hval (p.whole++p.frac) ≠ 0) (h6:(expN p).length≤6) (hlo:-1000000≤expV p∧expV p≤1000000)
    (neg:Bool) (m:Nat) (e:Int) (ok:Bool) (hM:∀ v,MakeAtN (⟨v,2000,hval (p.whole++p.frac),limbs (hval (p.whole++p.frac))⟩::l) v p.neg (expV p - (p.frac.length:Int)) neg m e ok)
    (Q:Ending→World→Prop) (hQ:∀ v w',ok=true→LocV w0.heap.size v→Ctx w0 w' (⟨v,2000,m,limbs m⟩::l)→Q (.returned (.agg #[.bool neg,v,.int .i64 e])) w')
    (hQ2:∀ w',ok=false→Ctx w0 w' l→Q (.panicked [{ v:=.iface 31 (.int .i64 4),recovered:=false }]) w') :
    Calls Tryz.prog 119 #[.agg #[.bool p.neg,.string (txt p.whole),.string (txt p.frac),.bool p.down,.string (txt p.exp)]] w Q:=by
  have hb1:Below w.heap.size w ((w.alloc (.cells #[.bool p.neg,.string (txt p.whole),.string (txt p.frac),.bool p.down,.string (txt p.exp)] 138)).alloc (.cells #[.bool false,.slice none 0 0,.int .i64 0] 24)):=((Below.refl _ _).alloc (Nat.le_refl _) _).alloc (by simp) _
  have h1:=h.step hb1
  have hW:=Lib.hid h.below.size
  have hlw:(p.whole++p.frac).length≤2000:=by rw [List.length_append];exact hp.len
  have K:=Lib.hid (parse_c h1.again (hp.w.append hp.f) (by rw [List.length_append];have:=hp.w0;omega) 2000 hlw (Nat.le_refl _) _ rfl)
  have H1:=Lib.hid h1.below
  have hs1:(txt p.whole).size≤2000:=by rw [txt_size];have:=hp.len;omega
  have hs2:(txt p.frac).size≤2000:=by rw [txt_size];have:=hp.len;omega
  have hs3:(txt p.frac).size=p.frac.length:=txt_size _
  have hfl:p.frac.length≤2000:=by have:=hp.len;omega
  have KT0:∀ W,Calls Tryz.prog 160 #[.agg #[.bool p.neg,.string (txt p.whole),.string (txt p.frac),.bool p.down,.string (txt p.exp)]] W fun e w'=>e=.returned (.int .i64 (expV p))∧w'=W.alloc (.cells #[.bool p.neg,.string (txt p.whole),.string (txt p.frac),.bool p.down,.string (txt p.exp)] 138):=fun W=>ptens_any p W hp.x h6
  have KT:=Lib.hid KT0
  have HM:=Lib.hid hM
  have HQ:=Lib.hid hQ
  have HQ2:=Lib.hid hQ2
  clear h h1 hb1 hp hlw h6 hM hQ hQ2 KT0
  go_enter Tryz.func119,Tryz.ntmps119
  go_wp2_with fail
  rw [txt_append]
  refine K.out.mono ?_
  rintro r w1 ⟨v,rfl,h2⟩
  have KM:=Lib.hid (HM.out v);clear HM
  generalize hval (p.whole++p.frac)=N at *
  have hlb:(((limbs N).length:Int) == 0)=false:=by
    rw [beq_eq_false_iff_ne]
    intro h3
    exact h0 ((limbs_nil_iff N).1 (List.eq_nil_of_length_eq_zero (by omega)))
  have H3:=Lib.hid (Ctx.back H1.out h2)
  obtain ⟨ad,cap,rfl,_⟩:=h2.get 0 rfl
  generalize (limbs N).length=n at *
  obtain ⟨hc,hf⟩:=bcell h2.below
  have hz:w.heap.size+1<w1.heap.size:=by have:=h2.below.size;simp at this;omega
  have c0:w1.cell? ⟨w.heap.size,0,none⟩=some (.bool p.neg):=by rw [hc _ _ (by simp <;> omega)];simp [World.cell?_alloc_lt]
  have c1:w1.cell? ⟨w.heap.size,1,none⟩=some (.string (txt p.whole)):=by rw [hc _ _ (by simp <;> omega)];simp [World.cell?_alloc_lt]
  have c2:w1.cell? ⟨w.heap.size,2,none⟩=some (.string (txt p.frac)):=by rw [hc _ _ (by simp <;> omega)];simp [World.cell?_alloc_lt]
  have c3:w1.cell? ⟨w.heap.size,3,none⟩=some (.bool p.down):=by rw [hc _ _ (by simp <;> omega)];simp [World.cell?_alloc_lt]
  have c4:w1.cell? ⟨w.heap.size,4,none⟩=some (.string (txt p.exp)):=by rw [hc _ _ (by simp <;> omega)];simp [World.cell?_alloc_lt]
  have b0:w1.cell? ⟨w.heap.size+1,0,none⟩=some (.bool false):=by rw [hc _ _ (by simp <;> omega)];simp
  have b1:w1.cell? ⟨w.heap.size+1,1,none⟩=some (.slice none 0 0):=by rw [hc _ _ (by simp <;> omega)];simp
  have b2:w1.cell? ⟨w.heap.size+1,2,none⟩=some (.int .i64 0):=by rw [hc _ _ (by simp <;> omega)];simp
  have bf:∀ j,w1.frozen? ⟨w.heap.size+1,j,none⟩=false:=fun j=>by rw [hf _ _ (by simp <;> omega)];simp [go_sem]
  have hy:w.heap.size<w1.heap.size:=by omega
  have B0:=Lib.hid b0
  have B1:=Lib.hid b1
  have B2:=Lib.hid b2
  have BF:=Lib.hid bf
  clear h2 hc hf b0 b1 b2 bf
  have n0:=World.new_ne w1 _ c0
  have hne1:¬ w.heap.size=w1.heap.size:=by omega
  have hne2:¬ w.heap.size=w1.heap.size+1:=by omega
  have hne3:¬ w1.heap.size=w.heap.size:=by omega
  have hne4:¬ w1.heap.size+1=w.heap.size:=by omega
  have hwr:IntKind.i64.wrap (expV p - (p.frac.length:Int))=expV p - (p.frac.length:Int):=IntWalk.i64_in _ (by omega)
  go_upto_region 4 with fail
  go_cut [5,6] (fun s5 s6 wx=>NumCutN w0 l (w.heap.size+1) neg m e ok s5 s6 wx)
  case first =>
    go_region_held3 (fun w'=>w'.cell? ⟨w.heap.size,0,none⟩=some (.bool p.neg)∧w'.cell? ⟨w.heap.size,1,none⟩=some (.string (txt p.whole))∧w'.cell? ⟨w.heap.size,2,none⟩=some (.string (txt p.frac))∧w'.cell? ⟨w.heap.size,3,none⟩=some (.bool p.down)∧w'.cell? ⟨w.heap.size,4,none⟩=some (.string (txt p.exp))) (go_keep)
      (first | (go_at_call 160;refine (KT.out _).mono ?_;rintro r w' ⟨rfl,rfl⟩) | (go_at_call 159;refine (KM.out _ _ (by exact (H3.out.step (by first | exact below_drew ((Below.refl _ _).alloc (Nat.le_refl _) _) | exact below_drew (((Below.refl _ _).alloc (Nat.le_refl _) _).alloc (by simp) _))).again)).mono ?_;rintro r w5 ⟨v5,rfl,hloc5,h5⟩;have hl5:=hloc5.mono (B':=w1.heap.size) (by simp <;> omega);clear hloc5;obtain ⟨ad5,cap5,rfl,_⟩:=h5.get 0 rfl;have hbW:Below w1.heap.size w1 w5:=below_on (by first | exact below_drew ((Below.refl _ _).alloc (Nat.le_refl _) _) | exact below_drew (((Below.refl _ _).alloc (Nat.le_refl _) _).alloc (by simp) _)) h5.below;have q0:=(hbW.cell (p:=⟨w.heap.size,0,none⟩) hy).trans c0;have q1:=(hbW.cell (p:=⟨w.heap.size,1,none⟩) hy).trans c1;have q2:=(hbW.cell (p:=⟨w.heap.size,2,none⟩) hy).trans c2;have q3:=(hbW.cell (p:=⟨w.heap.size,3,none⟩) hy).trans c3;have q4:=(hbW.cell (p:=⟨w.heap.size,4,none⟩) hy).trans c4;have e5:=World.new_ne w5 _ q0;have hb5:=bcell h5.below;have hz5:w1.heap.size<w5.heap.size:=(by have h:=h5.below.size;simp at h;omega);have hne5:¬ w.heap.size=w5.heap.size:=(by omega);have hne6:¬ w5.heap.size=w.heap.size:=(by omega);have H5:=Lib.hid h5;clear h5;(first | (refine And.elim ?_ (boxA H5.out.below);rintro r0 ⟨r1,r2,rf⟩) | (refine And.elim ?_ (boxB H5.out.below);rintro r0 ⟨r1,r2,rf⟩) | skip)))
    all_goals
      have hbw5:=below_on H3.out.below hbW
      have ctx5:=Ctx.pick hbw5 H5.out
      have hw1:=H3.out.below.size
      have hloc6:=hl5.mono hw1
      have k0:=(hbW.cell (p:=⟨w.heap.size+1,0,none⟩) hz).trans B0.out
      have k1:=(hbW.cell (p:=⟨w.heap.size+1,1,none⟩) hz).trans B1.out
      have k2:=(hbW.cell (p:=⟨w.heap.size+1,2,none⟩) hz).trans B2.out
      have kf:∀ j,w5.frozen? ⟨w.heap.size+1,j,none⟩=false:=fun j=>(hbW.frozen (p:=⟨w.heap.size+1,j,none⟩) hz).trans (BF.out j)
      have HA:=Lib.hid (cutCN (neg:=neg) (e:=e) (ok:=ok) (v:=.slice ad5 (limbs m).length cap5) hloc6 ctx5 k0 k1 k2 kf (by omega))
      have HS:=Lib.hid (fun g (hg:w0.heap.size≤g) (hne:g ≠ w.heap.size+1) r0 r1 r2=>cutSN (neg:=neg) (e:=e) (ok:=ok) (v:=.slice ad5 (limbs m).length cap5) (g:=g) hloc6 ctx5 hg hne r0 r1 r2 k0 k1 k2 kf)
      clear k0 k1 k2 kf ctx5 hbw5
      go_wp2_with fail
      go_meet
      first
        | exact HA.out
        | exact HS.out _ hw1 (by omega) r0 r1 r2
        | exact HS.out _ (Nat.le_succ_of_le hw1) (by omega) r0 r1 r2
  case rest =>
    obtain ⟨g,v,rfl,rfl,hlv,⟨g0,g1,g2⟩,hctx,⟨b0,b1,b2⟩,bf⟩:=hcut
    obtain ⟨adv,capv,rfl,_⟩:=hctx.get 0 rfl
    have hCT:=Lib.hid hctx;have HLV:=Lib.hid hlv;clear hctx hlv
    have bf0:=bf 0
    have bf1:=bf 1
    have bf2:=bf 2
    cases ok
    · have hdrop:=Lib.hid (HQ2.out wc (by first | rfl | trivial) hCT.out.drop1)
      go_wp2
      exact ⟨rfl,hdrop.out⟩
    · have hbx:=Lib.hid (hCT.out.box3 (g:=w.heap.size+1) (Nat.le_succ_of_le hW.out) b0 b1 b2 (.bool neg) (.slice adv (limbs m).length capv) (.int .i64 e))
      go_wp2
      exact bodyPost_ret (v:=.agg #[.bool neg,.slice adv (limbs m).length capv,.int .i64 e]) (by simp [results,Tryz.results119,go_sem,b0,b1,b2]) rfl (HQ.out _ _ (by first | rfl | trivial) HLV.out hbx.out)
theorem number_some_n {w0 w:World} {l:List Ent} (h:Ctx w0 w l) (p:Pt) (hp:PtOk p) {neg:Bool} {m:Nat} {e:Int} (hn:numberL p=some (neg,m,e)) :
    Calls Tryz.prog 119 #[.agg #[.bool p.neg,.string (txt p.whole),.string (txt p.frac),.bool p.down,.string (txt p.exp)]] w (NumGivesN w0 l 2000 neg m e):=by
  unfold numberL at hn
  split at hn
  · rename_i h0
    simp only [Option.some.injEq,Prod.mk.injEq] at hn
    obtain ⟨rfl,rfl,rfl⟩:=hn
    exact number_zero_n h p hp h0
  · rename_i h0
    split at hn
    · cases hn
    · rename_i h6
      split at hn
      · rename_i hr
        simp only [Option.some.injEq,Prod.mk.injEq] at hn
        obtain ⟨rfl,rfl,rfl⟩:=hn
        have hb:=expV_bd (p:=p) (by omega) hp.x
        obtain ⟨s1,s2⟩:=trim_spec h0
        refine number_core_n h p hp h0 (by omega) hb _ _ _ true (fun v w0 w hc=>?_) _ (fun v w' _ hl hc=>⟨v,rfl,hl,hc⟩) (fun _ hh _=>by cases hh)
        exact make_yes_n hc 0 rfl (by decide) p.neg _ _ _ s1 s2 hr.1 hr.2.1 hr.2.2
      · cases hn
def ParsedN (w w0:World) (l0:List Ent) (neg:Bool) (m:Nat) (e:Int) (r:Ending) (w':World):Prop :=
  ∃ v,r=.returned (.tuple #[.agg #[.bool neg,v,.int .i64 e],.int .i64 0])∧LocV w.heap.size v∧Ctx w0 w' (⟨v,2000,m,limbs m⟩::l0)
theorem numParse_ok_n {w0 w:World} {l0:List Ent} (h:Ctx w0 w l0) (l:List Nat) (ho:Okb l) (hl:l.length≤2000) (p:Pt) (hr:readL l=some p) (neg:Bool) (m:Nat) (e:Int) (hn:numberL p=some (neg,m,e)) :
    Calls Tryz.prog 74 #[.string (txt l)] w (ParsedN w w0 l0 neg m e):=by
  have hmf:∀ (fn:Fn) (first cap:Array Value) (w:World),(Instr.makeFunc fn first cap).run Tryz.prog w=.ok (.func fn first cap) w:=fun _ _ _ _=>rfl
  have hsz:(txt l).size=l.length:=txt_size l
  have hl':¬ (2000:Int)<(l.length:Int):=by omega
  have hpo:=ptOk_read hl hr
  have hb0:Below w.heap.size w ((w.alloc (.cells #[.bool false,.slice none 0 0,.int .i64 0] 24)).alloc (.cells #[.int .i64 0] 31)):=(((Below.refl w.heap.size w).alloc (Nat.le_refl _) _).alloc (by simp) _)
  have hctx:=Lib.hid (h.step hb0)
  have hW:=h.below.size
  have KR:=Lib.hid (fun W=>read_any l W ho hl)
  have KN:=Lib.hid (fun (W:World) (l1:List Ent) (hc:Ctx W W l1)=>number_some_n hc p hpo hn)
  have HR:=Lib.hid hr
  clear h hr hb0 hn
  go_enter_defers Tryz.func74,Tryz.ntmps74
  go_wp2_with fail
  refine (KR.out _).mono ?_
  rintro r w1 (⟨hp,_⟩ | ⟨p',hp,rfl,hb⟩)
  · rw [HR.out] at hp;cases hp
  · obtain rfl:p=p':=Option.some.inj (HR.out.symm.trans hp)
    have KNw:=Lib.hid (KN.out w1 l0 ((hctx.out.step hb).again))
    have hcw:=Lib.hid (hctx.out.step hb)
    unfold PtV
    go_wp2_with fail
    refine KNw.out.mono ?_
    rintro r w2 ⟨v,rfl,hlv,h2⟩
    obtain ⟨ad,cap,rfl,_⟩:=h2.get 0 rfl
    have HLV:=Lib.hid (hlv.mono (B':=w.heap.size) (by have:=hb.size;simp at this;omega));clear hlv
    have hb2:=below_on hb h2.below
    obtain ⟨hc,hf⟩:=bcell hb2
    have c0:w2.cell? ⟨w.heap.size,0,none⟩=some (.bool false):=by rw [hc _ _ (by simp <;> omega)];simp [World.cell?_alloc_lt]
    have c1:w2.cell? ⟨w.heap.size,1,none⟩=some (.slice none 0 0):=by rw [hc _ _ (by simp <;> omega)];simp [World.cell?_alloc_lt]
    have c2:w2.cell? ⟨w.heap.size,2,none⟩=some (.int .i64 0):=by rw [hc _ _ (by simp <;> omega)];simp [World.cell?_alloc_lt]
    have c3:w2.cell? ⟨w.heap.size+1,0,none⟩=some (.int .i64 0):=by rw [hc _ _ (by simp <;> omega)];simp
    have f0:∀ j,w2.frozen? ⟨w.heap.size,j,none⟩=false:=fun j=>by rw [hf _ _ (by simp <;> omega)];simp [go_sem]
    have f1:∀ j,w2.frozen? ⟨w.heap.size+1,j,none⟩=false:=fun j=>by rw [hf _ _ (by simp <;> omega)];simp [go_sem]
    have hx:Ctx w0 w2 (⟨.slice ad (limbs m).length cap,2000,m,limbs m⟩::l0):=⟨below_on hcw.out.below h2.below,h2.all⟩
    have hy:=hx.box3 hW c0 c1 c2 (.bool neg) (.slice ad (limbs m).length cap) (.int .i64 e)
    have d3:(((w2.setCell ⟨w.heap.size,0,none⟩ (.bool neg)).setCell ⟨w.heap.size,1,none⟩ (.slice ad (limbs m).length cap)).setCell ⟨w.heap.size,2,none⟩ (.int .i64 e)).cell? ⟨w.heap.size+1,0,none⟩=some (.int .i64 0):=by
      rw [World.cell?_setCell_other (h:=by simp),World.cell?_setCell_other (h:=by simp),World.cell?_setCell_other (h:=by simp)];exact c3
    have hfin:=Lib.hid (hy.setBox (by omega) d3 (fun _=>by simp) (.int .i64 0))
    have f00:=f0 0
    have f01:=f0 1
    have f02:=f0 2
    have f10:=f1 0
    clear hc hf hb hb2 h2 hp f0 f1 hx hy d3
    generalize (limbs m).length=n at *
    go_wp2
    refine leaves_cons (f:=117) (args:=#[.pointer (some ⟨w.heap.size,0,none⟩),.pointer (some ⟨w.heap.size+1,0,none⟩)]) (by simp) (by simp [go_sem]) ?_
    refine (catch_idle _ _ _).mono ?_
    rintro e u' w'' ⟨rfl,rfl,rfl⟩
    simp [Leaves,settle,results,Tryz.results74,go_sem,c0,c1,c2,c3]
    exact ⟨_,rfl,HLV.out,hfin.out⟩
theorem numberL_lim {p:Pt} {r:Bool × Nat × Int} (h:numberL p=some r):(limbs r.2.1).length≤90∧-1200≤r.2.2∧r.2.2≤1200∧chkB r.1 (limbs r.2.1) r.2.2=true:=by
  unfold numberL at h
  split at h
  · simp only [Option.some.injEq] at h
    subst h
    refine ⟨by simp [limbs_zero],by decide,by decide,by rw [limbs_zero];rfl⟩
  · rename_i h0
    split at h
    · cases h
    · split at h
      · rename_i hr
        simp only [Option.some.injEq] at h
        subst h
        obtain ⟨s1,s2⟩:=trim_spec h0
        exact ⟨hr.1,hr.2.1,hr.2.2,chkB_mk s2 hr.1 hr.2.1 hr.2.2⟩
      · cases h
theorem parseN_lim {l:List Nat} {r:Bool × Nat × Int} (h:parseN l=.inl r):(limbs r.2.1).length≤90∧-1200≤r.2.2∧r.2.2≤1200∧chkB r.1 (limbs r.2.1) r.2.2=true:=by
  unfold parseN at h
  split at h
  · cases h
  · split at h
    · cases h
    · split at h
      · cases h
      · rename_i hn
        simp only [Sum.inl.injEq] at h
        subst h
        exact numberL_lim hn
def NewP (w:World):(Bool × Nat × Int) ⊕ Int→Ending→World→Prop
  | .inl p,r,w'=>∃ ad cap,r=.returned (.tuple #[.agg #[.bool p.1,.slice ad (limbs p.2.1).length cap,.int .i64 p.2.2],.int .i64 0])∧(limbs p.2.1).length≤cap∧Rd w' ad (limbs p.2.1)∧(∀ a,ad=some a→w.heap.size≤a.block)∧Below w.heap.size w w'
  | .inr n,r,w'=>r=.returned (.tuple #[.agg #[.bool false,.slice none 0 0,.int .i64 0],.int .i64 n])∧Below w.heap.size w w'
theorem numParse_new (l:List Nat) (ho:Okb l) (w:World):Calls Tryz.prog 74 #[.string (txt l)] w (NewP w (parseN l)):=by
  have hbad:∀ x,parseN l=.inr x→Calls Tryz.prog 74 #[.string (txt l)] w (NewP w (parseN l)):=fun x hx=>by
    have:=numParse_any (Ctx.begin w) l ho
    rw [hx] at this ⊢
    exact this.mono fun r w' h=>⟨h.1,h.2.below⟩
  cases hp:parseN l with
  | inr x=>rw [← hp];exact hbad x hp
  | inl r =>
    obtain ⟨neg,m,e⟩:=r
    have hp0:=hp
    unfold parseN at hp
    split at hp
    · cases hp
    · rename_i hl
      split at hp
      · cases hp
      · rename_i p hr
        split at hp
        · cases hp
        · rename_i r hn
          simp only [Sum.inl.injEq] at hp
          subst hp
          refine (numParse_ok_n (Ctx.begin w) l ho (by omega) p hr neg m e hn).mono ?_
          rintro r w' ⟨v,rfl,hloc,hctx⟩
          obtain ⟨ad,cap,rfl,h2,h3,h4,h5,h6⟩:=hctx.get 0 rfl
          exact ⟨ad,cap,rfl,h2,h5,fun a ea=>hloc a _ _ (by rw [ea]),hctx.below⟩
end Go.Proofs.YtijaphbccnadbaaGreatDoor
namespace Go.Proofs.YtijaphbccnadbaaGreatDoor
section
variable {P : Program}
theorem rd_sub (w:World) (ev:Operand→Value) (o:Oper) (ty ty':TypeId) (x y:Operand) (a b c:Int) (ho:o.op=.binOp .sub ty x y ty') (hx:ev x=.int .i64 a) (hy:ev y=.int .i64 b) (h:a - b=c) (h1:-9223372036854775808≤c) (h2:c≤9223372036854775807) :
    (execOp ev o).run P w=.ok (.value (.int .i64 c)) w:=by
  have hw:IntKind.i64.wrap (a - b)=c:=by rw [IntKind.wrap_i64];omega
  simp [execOp,ho,hx,hy,go_sem,binOp,Op.intArith,hw]
end
end Go.Proofs.YtijaphbccnadbaaGreatDoor
