/- Texts of the claim. -/
import Derived.Test.YtnacbakcalcgaaaGreatDoorEv
import Derived.Test.YtnacbakcalcgaaaGreatDoorEk
set_option linter.unusedVariables false
set_option linter.unusedSimpArgs false
set_option maxHeartbeats 8000000
set_option maxRecDepth 100000
namespace Go.Proofs.YtnacbakcalcgaaaGreatDoor
open Go.RowKit Go.Sort
theorem cell_new (w:World) (a:Array Value) (t:TypeId) (j:Nat):(w.alloc (.cells a t)).cell? ⟨w.heap.size,j,none⟩=a[j]?:=by
  have h:=heap_alloc_new w (.cells a t)
  simp only [World.cell?,h]
  simp
theorem cell_at (w:World) (a:Array Value) (t:TypeId) (b j:Nat) (h:b=w.heap.size):(w.alloc (.cells a t)).cell? ⟨b,j,none⟩=a[j]?:=by subst h;exact cell_new w a t j
theorem cell_old (w:World) (o:Obj) (b j:Nat) (h:b<w.heap.size):(w.alloc o).cell? ⟨b,j,none⟩=w.cell? ⟨b,j,none⟩:=World.cell?_alloc_lt w o ⟨b,j,none⟩ h
def binV (neg:Bool) (s:Nat) (t:Int):Value:=.agg #[.bool neg,.int .u64 (s:Int),.int .i64 t]
theorem or_add {a f:Nat} (h:a<2 ^ f) (hf:f<63):bits BinOp.or IntKind.u64 (a:Int) ((2 ^ f:Nat):Int)=((a+2 ^ f:Nat):Int):=by
  have h1:2 ^ f≤2 ^ 62:=Nat.pow_le_pow_right (by decide) (by omega)
  rw [bits_or_u64_nat a _ (by omega) (by omega),Nat.or_comm,nat_join f (2 ^ f) a (Nat.mod_self _) h,Nat.add_comm]
theorem binary_any {e f:Nat} (hl:Lay e f) (x:Nat) (w:World):Calls Tryz.prog 189 #[layV e f,partV e f x] w fun r w'=>r=.returned (binV (fNeg e f x) (sizeF e f x) (twosF e f x))∧Below w.heap.size w w':=by
  obtain ⟨p1,p2,f1,f2,b1,b2⟩:=lay_bd hl
  have hex:fEx e f x<2 ^ e:=Nat.mod_lt _ (twop_pos e)
  have he11:2 ^ e≤2 ^ 11:=Nat.pow_le_pow_right (by decide) p2
  have hfr:fFr f x<2 ^ f:=Nat.mod_lt _ (twop_pos f)
  have hf52:2 ^ f≤2 ^ 52:=Nat.pow_le_pow_right (by decide) f2
  have hor:=or_add hfr (by omega)
  have hls:-1074≤leastF e f∧leastF e f≤-24:=by rcases hl with ⟨rfl,rfl⟩ | ⟨rfl,rfl⟩ | ⟨rfl,rfl⟩ <;> decide
  have KL:=Lib.hid (fun W=>leastPlace_any hl W)
  have hsz:sizeF e f x=if fEx e f x=0 then fFr f x else fFr f x+2 ^ f:=rfl
  have htw:twosF e f x=if fEx e f x=0 then leastF e f else leastF e f+(fEx e f x:Int) - 1:=rfl
  have hpw:((2:Int) ^ f)=((2 ^ f:Nat):Int):=by push_cast;rfl
  unfold partV layV at *
  generalize fNeg e f x=ng at *
  generalize sizeF e f x=s at *
  generalize twosF e f x=t at *
  generalize leastF e f=lst at *
  generalize fEx e f x=ex at *
  generalize fFr f x=fr at *
  generalize (2:Nat) ^ f=Q at *
  have hbl:Below w.heap.size w (((w.alloc (.cells #[.int .i64 (e:Int),.int .i64 (f:Int)] 151)).alloc (.cells #[.bool ng,.int .i64 (ex:Int),.int .u64 (fr:Int)] 204)).alloc (.cells #[.bool false,.int .u64 0,.int .i64 0] 155)):=(((Below.refl _ _).alloc (Nat.le_refl _) _).alloc (by simp) _).alloc (by simp;omega) _
  have HB:=Lib.hid hbl;clear hbl
  have HEX:=Lib.hid (show ex<2048 by omega);have HPW:=Lib.hid hpw
  have HOR:=Lib.hid hor
  have HFB:=Lib.hid (show fr<4503599627370496 by omega)
  clear hex he11 hor hpw hfr
  have z0:(((w.alloc (.cells #[.int .i64 (e:Int),.int .i64 (f:Int)] 151)).alloc (.cells #[.bool ng,.int .i64 (ex:Int),.int .u64 (fr:Int)] 204)).alloc (.cells #[.bool false,.int .u64 0,.int .i64 0] 155)).cell? ⟨w.heap.size,0,none⟩=some (.int .i64 (e:Int)):=by rw [cell_old _ _ _ _ (by simp <;> omega),cell_old _ _ _ _ (by simp),cell_new];rfl
  have z1:(((w.alloc (.cells #[.int .i64 (e:Int),.int .i64 (f:Int)] 151)).alloc (.cells #[.bool ng,.int .i64 (ex:Int),.int .u64 (fr:Int)] 204)).alloc (.cells #[.bool false,.int .u64 0,.int .i64 0] 155)).cell? ⟨w.heap.size,1,none⟩=some (.int .i64 (f:Int)):=by rw [cell_old _ _ _ _ (by simp <;> omega),cell_old _ _ _ _ (by simp),cell_new];rfl
  have n1:¬ w.heap.size+1+1=w.heap.size:=by omega
  have n2:¬ w.heap.size+2=w.heap.size:=by omega
  by_cases h0:ex=0
  · rw [if_pos h0] at hsz htw
    subst h0 hsz htw
    go_enter Tryz.func189,Tryz.ntmps189
    go_wp2_with fail
    go_region_held3 (fun w'=>w'.cell? ⟨w.heap.size,0,none⟩=some (.int .i64 (e:Int))∧w'.cell? ⟨w.heap.size,1,none⟩=some (.int .i64 (f:Int))∧w'.cell? ⟨w.heap.size+1,0,none⟩=some (.bool ng)∧w'.cell? ⟨w.heap.size+1,2,none⟩=some (.int .u64 (s:Int))) (go_keep)
      (first | (go_at_call 166;refine (KL.out _).mono ?_;rintro r w1 ⟨rfl,hb1⟩;obtain ⟨hc1,hf1⟩:=bcell hb1;have hz1:w.heap.size+2<w1.heap.size:=(by have h:=hb1.size;(try simp at h);omega);have q0:w1.cell? ⟨w.heap.size,0,none⟩=some (.int .i64 (e:Int)):=(hc1 _ _ (by simp <;> omega)).trans z0;have q1:w1.cell? ⟨w.heap.size,1,none⟩=some (.int .i64 (f:Int)):=(hc1 _ _ (by simp <;> omega)).trans z1;have q2:w1.cell? ⟨w.heap.size+1,0,none⟩=some (.bool ng):=(by rw [hc1 _ _ (by simp <;> omega)];simp [World.cell?_alloc_lt]);have q3:w1.cell? ⟨w.heap.size+1,2,none⟩=some (.int .u64 (s:Int)):=(by rw [hc1 _ _ (by simp <;> omega)];simp [World.cell?_alloc_lt])))
    all_goals
      have r0:w1.cell? ⟨w.heap.size+1+1,0,none⟩=some (.bool false):=by rw [hc1 _ _ (by simp),World.cell?_drew,cell_at _ _ _ _ _ (by simp)];rfl
      have r1:w1.cell? ⟨w.heap.size+1+1,1,none⟩=some (.int .u64 0):=by rw [hc1 _ _ (by simp),World.cell?_drew,cell_at _ _ _ _ _ (by simp)];rfl
      have r2:w1.cell? ⟨w.heap.size+1+1,2,none⟩=some (.int .i64 0):=by rw [hc1 _ _ (by simp),World.cell?_drew,cell_at _ _ _ _ _ (by simp)];rfl
      go_wp2_with fail
      exact bodyPost_ret (v:=binV ng s t) (by simp [results,Tryz.results189,go_sem,r0,r1,r2,binV]) rfl ⟨rfl,(((below_on (below_drew HB.out) hb1).setCell (by simp <;> omega) _).setCell (by simp <;> omega) _).setCell (by simp <;> omega) _⟩
  · rw [if_neg h0] at hsz htw
    subst hsz htw
    have h0b:((ex:Int) == 0)=false:=by rw [beq_eq_false_iff_ne];omega
    have hexb:=HEX.out
    have hfl:(0:Int)≤(f:Int)∧(f:Int)<64:=by omega
    have hsh:IntKind.u64.wrap (1*2 ^ f)=(Q:Int):=by rw [Int.one_mul,HPW.out];exact IntWalk.u64_in _ (by omega)
    have hsh2:IntKind.u64.wrap (2 ^ f)=(Q:Int):=by rw [HPW.out];exact IntWalk.u64_in _ (by omega)
    have hor:=HOR.out
    have hw1:IntKind.i64.wrap (lst+(ex:Int))=lst+(ex:Int):=IntWalk.i64_in _ (by omega)
    have hw2:IntKind.i64.wrap (lst+(ex:Int) - 1)=lst+(ex:Int) - 1:=IntWalk.i64_in _ (by omega)
    go_enter Tryz.func189,Tryz.ntmps189
    go_wp2_with fail
    go_region_held3 (fun w'=>w'.cell? ⟨w.heap.size,0,none⟩=some (.int .i64 (e:Int))∧w'.cell? ⟨w.heap.size,1,none⟩=some (.int .i64 (f:Int))∧w'.cell? ⟨w.heap.size+1,0,none⟩=some (.bool ng)∧w'.cell? ⟨w.heap.size+1,1,none⟩=some (.int .i64 (ex:Int))∧w'.cell? ⟨w.heap.size+1,2,none⟩=some (.int .u64 (fr:Int))) (go_keep)
      (first | (go_at_call 166;refine (KL.out _).mono ?_;rintro r w1 ⟨rfl,hb1⟩;obtain ⟨hc1,hf1⟩:=bcell hb1;have hz1:w.heap.size+2<w1.heap.size:=(by have h:=hb1.size;(try simp at h);omega);have q0:w1.cell? ⟨w.heap.size,0,none⟩=some (.int .i64 (e:Int)):=(hc1 _ _ (by simp <;> omega)).trans z0;have q1:w1.cell? ⟨w.heap.size,1,none⟩=some (.int .i64 (f:Int)):=(hc1 _ _ (by simp <;> omega)).trans z1;have q2:w1.cell? ⟨w.heap.size+1,0,none⟩=some (.bool ng):=(by rw [hc1 _ _ (by simp <;> omega)];simp [World.cell?_alloc_lt]);have q4:w1.cell? ⟨w.heap.size+1,1,none⟩=some (.int .i64 (ex:Int)):=(by rw [hc1 _ _ (by simp <;> omega)];simp [World.cell?_alloc_lt]);have q3:w1.cell? ⟨w.heap.size+1,2,none⟩=some (.int .u64 (fr:Int)):=(by rw [hc1 _ _ (by simp <;> omega)];simp [World.cell?_alloc_lt])))
    all_goals
      have r0:w1.cell? ⟨w.heap.size+1+1,0,none⟩=some (.bool false):=by rw [hc1 _ _ (by simp),World.cell?_drew,cell_at _ _ _ _ _ (by simp)];rfl
      have r1:w1.cell? ⟨w.heap.size+1+1,1,none⟩=some (.int .u64 0):=by rw [hc1 _ _ (by simp),World.cell?_drew,cell_at _ _ _ _ _ (by simp)];rfl
      have r2:w1.cell? ⟨w.heap.size+1+1,2,none⟩=some (.int .i64 0):=by rw [hc1 _ _ (by simp),World.cell?_drew,cell_at _ _ _ _ _ (by simp)];rfl
      go_wp2_with fail
      exact bodyPost_ret (v:=binV ng (fr+Q) (lst+(ex:Int) - 1)) (by simp [results,Tryz.results189,go_sem,r0,r1,r2,binV,HPW.out,hor]) rfl ⟨rfl,(((below_on (below_drew HB.out) hb1).setCell (by simp <;> omega) _).setCell (by simp <;> omega) _).setCell (by simp <;> omega) _⟩
def kindB (b1 b2 b3:Bool):Int:=if b1 then (if b2 then 3 else 4) else if b3 then (if b2 then 2 else 1) else 1
def kindW (width:Int) (x:Nat):Int:=match layOf width with | some (e,f)=>(kindF e f x:Int) | none=>0
theorem kindF_eq (e f x:Nat):(kindF e f x:Int)=kindB (decide (fEx e f x=2 ^ e - 1)) (decide (fFr f x=0)) (decide (fEx e f x=0)):=by
  unfold kindF kindB
  by_cases h1:fEx e f x=2 ^ e - 1
  · rw [if_pos h1,decide_eq_true h1]
    by_cases h2:fFr f x=0 <;> simp [h2]
  · rw [if_neg h1,decide_eq_false h1]
    by_cases h2:fFr f x=0 <;> by_cases h3:fEx e f x=0 <;> simp [h2,h3]
theorem kind_walk (width:Int) (x:Nat) (w:World) {e f:Nat} (hl:Lay e f) (hlo:layOf width=some (e,f)) (ng:Bool) (ex fr:Nat) (b1 b2 b3:Bool) (h1:((ex:Int) == 2 ^ e - 1)=b1) (h2:((fr:Int) == 0)=b2) (h3:((ex:Int) == 0)=b3)
    (KS:∀ W,Calls Tryz.prog 190 #[layV e f,.int .u64 (x:Int)] W fun r w'=>r=.returned (.agg #[.bool ng,.int .i64 (ex:Int),.int .u64 (fr:Int)])∧Below W.heap.size W w') :
    Calls Tryz.prog 187 #[.int .i64 width,.int .u64 (x:Int)] w (IntBelow (kindB b1 b2 b3) w):=by
  have KL:=layoutOf_any width w
  unfold layA at KL
  rw [hlo] at KL
  have KLH:=Lib.hid KL
  have KSH:=Lib.hid KS
  have KH:=Lib.hid (fun W=>highest_any hl W)
  clear KL KS hlo hl
  unfold layV at *
  generalize (2:Int) ^ e - 1=hi at *
  go_enter Tryz.func187,Tryz.ntmps187
  go_wp2_with fail
  refine KLH.out.mono ?_
  rintro r w1 ⟨rfl,hb1⟩
  have HB1:=Lib.hid hb1;clear hb1
  go_wp2_with fail
  refine (KSH.out _).mono ?_
  rintro r w2 ⟨rfl,hb2⟩
  obtain ⟨hc2,hf2⟩:=bcell hb2
  have hz2:w1.heap.size<w2.heap.size:=by have h:=hb2.size;(try simp at h);omega
  have a0:w2.cell? ⟨w1.heap.size,0,none⟩=some (.int .i64 (e:Int)):=by rw [hc2 _ _ (by simp)];simp
  have a1:w2.cell? ⟨w1.heap.size,1,none⟩=some (.int .i64 (f:Int)):=by rw [hc2 _ _ (by simp)];simp
  have HB2:=Lib.hid (below_on (HB1.out.trans (((Below.refl _ _).alloc (by exact Nat.le_refl _) (.cells #[.int .i64 (e:Int),.int .i64 (f:Int)] 151)).mono HB1.out.size)) hb2)
  clear hc2 hf2 hb2
  have HB3:=Lib.hid (HB2.out.alloc HB2.out.size (.cells #[.bool ng,.int .i64 (ex:Int),.int .u64 (fr:Int)] 204))
  generalize hW:w2.alloc (.cells #[.bool ng,.int .i64 (ex:Int),.int .u64 (fr:Int)] 204)=W at *
  have HW:=Lib.hid hW
  have c0:W.cell? ⟨w1.heap.size,0,none⟩=some (.int .i64 (e:Int)):=by rw [← hW,cell_old _ _ _ _ hz2];exact a0
  have c1:W.cell? ⟨w1.heap.size,1,none⟩=some (.int .i64 (f:Int)):=by rw [← hW,cell_old _ _ _ _ hz2];exact a1
  have d0:W.cell? ⟨w2.heap.size,0,none⟩=some (.bool ng):=by rw [← hW];simp
  have d1:W.cell? ⟨w2.heap.size,1,none⟩=some (.int .i64 (ex:Int)):=by rw [← hW];simp
  have d2:W.cell? ⟨w2.heap.size,2,none⟩=some (.int .u64 (fr:Int)):=by rw [← hW];simp
  clear hW a0 a1
  go_wp2_with fail
  rw [HW.out]
  clear HB2 HW hz2 d0
  have c00:=c0;have c10:=c1;have d10:=d1;have d20:=d2;clear c0 c1 d1 d2
  cases b1
  · cases b3
    ·
      have cH1:∀ d os,Calls Tryz.prog 203 #[.agg #[.int .i64 (e:Int),.int .i64 (f:Int)]] (grow (redrawn W d) os) fun r w''=>r=.returned (.int .i64 hi)∧∃ p:Regrown,w''=grow (redrawn W p.d) p.os:=fun d os=>Calls.regrown_of (KH.out _)
      have k01:=cell_regrown c00
      have k11:=cell_regrown c10
      have k21:=cell_regrown d10
      have k31:=cell_regrown d20
      refine wp_region_quiet_below (by kernel_rfl) (by kernel_rfl) ?_
      repeat (quiet_step (first | with_reducible exact cH1 _ _))
      refine wpQuiet_nil ?_
      intro _ hw'
      obtain ⟨⟨dq,osq⟩,hw''⟩:=hw'
      subst hw''
      have c01:=k01 dq osq
      have c11:=k11 dq osq
      have d11:=k21 dq osq
      have d21:=k31 dq osq
      have HB4:=Lib.hid (below_on HB3.out (below_regrown W dq osq))
      clear k01 k11 k21 k31 cH1 c00 c10 d10 d20
      generalize grow (redrawn W dq) osq=W1 at *
      go_wp2_with fail
      have cH2:∀ d os,Calls Tryz.prog 203 #[.agg #[.int .i64 (e:Int),.int .i64 (f:Int)]] (grow (redrawn W1 d) os) fun r w''=>r=.returned (.int .i64 hi)∧∃ p:Regrown,w''=grow (redrawn W1 p.d) p.os:=fun d os=>Calls.regrown_of (KH.out _)
      have k02:=cell_regrown c01
      have k12:=cell_regrown c11
      have k22:=cell_regrown d11
      have k32:=cell_regrown d21
      refine wp_region_quiet_below (by kernel_rfl) (by kernel_rfl) ?_
      repeat (quiet_step (first | with_reducible exact cH2 _ _))
      refine wpQuiet_nil ?_
      intro _ hw'
      obtain ⟨⟨dq,osq⟩,hw''⟩:=hw'
      subst hw''
      have c02:=k02 dq osq
      have c12:=k12 dq osq
      have d12:=k22 dq osq
      have d22:=k32 dq osq
      have HB5:=Lib.hid (below_on HB4.out (below_regrown W1 dq osq))
      clear k02 k12 k22 k32 cH2 c01 c11 d11 d21
      generalize grow (redrawn W1 dq) osq=W2 at *
      go_wp2
      go_ret
      exact IntBelow.mk rfl HB5.out
    · cases b2
      ·
        have cH1:∀ d os,Calls Tryz.prog 203 #[.agg #[.int .i64 (e:Int),.int .i64 (f:Int)]] (grow (redrawn W d) os) fun r w''=>r=.returned (.int .i64 hi)∧∃ p:Regrown,w''=grow (redrawn W p.d) p.os:=fun d os=>Calls.regrown_of (KH.out _)
        have k01:=cell_regrown c00
        have k11:=cell_regrown c10
        have k21:=cell_regrown d10
        have k31:=cell_regrown d20
        refine wp_region_quiet_below (by kernel_rfl) (by kernel_rfl) ?_
        repeat (quiet_step (first | with_reducible exact cH1 _ _))
        refine wpQuiet_nil ?_
        intro _ hw'
        obtain ⟨⟨dq,osq⟩,hw''⟩:=hw'
        subst hw''
        have c01:=k01 dq osq
        have c11:=k11 dq osq
        have d11:=k21 dq osq
        have d21:=k31 dq osq
        have HB4:=Lib.hid (below_on HB3.out (below_regrown W dq osq))
        clear k01 k11 k21 k31 cH1 c00 c10 d10 d20
        generalize grow (redrawn W dq) osq=W1 at *
        go_wp2_with fail
        have cH2:∀ d os,Calls Tryz.prog 203 #[.agg #[.int .i64 (e:Int),.int .i64 (f:Int)]] (grow (redrawn W1 d) os) fun r w''=>r=.returned (.int .i64 hi)∧∃ p:Regrown,w''=grow (redrawn W1 p.d) p.os:=fun d os=>Calls.regrown_of (KH.out _)
        have k02:=cell_regrown c01
        have k12:=cell_regrown c11
        have k22:=cell_regrown d11
        have k32:=cell_regrown d21
        refine wp_region_quiet_below (by kernel_rfl) (by kernel_rfl) ?_
        repeat (quiet_step (first | with_reducible exact cH2 _ _))
        refine wpQuiet_nil ?_
        intro _ hw'
        obtain ⟨⟨dq,osq⟩,hw''⟩:=hw'
        subst hw''
        have c02:=k02 dq osq
        have c12:=k12 dq osq
        have d12:=k22 dq osq
        have d22:=k32 dq osq
        have HB5:=Lib.hid (below_on HB4.out (below_regrown W1 dq osq))
        clear k02 k12 k22 k32 cH2 c01 c11 d11 d21
        generalize grow (redrawn W1 dq) osq=W2 at *
        go_wp2
        go_ret
        exact IntBelow.mk rfl HB5.out
      ·
        have cH1:∀ d os,Calls Tryz.prog 203 #[.agg #[.int .i64 (e:Int),.int .i64 (f:Int)]] (grow (redrawn W d) os) fun r w''=>r=.returned (.int .i64 hi)∧∃ p:Regrown,w''=grow (redrawn W p.d) p.os:=fun d os=>Calls.regrown_of (KH.out _)
        have k01:=cell_regrown c00
        have k11:=cell_regrown c10
        have k21:=cell_regrown d10
        have k31:=cell_regrown d20
        refine wp_region_quiet_below (by kernel_rfl) (by kernel_rfl) ?_
        repeat (quiet_step (first | with_reducible exact cH1 _ _))
        refine wpQuiet_nil ?_
        intro _ hw'
        obtain ⟨⟨dq,osq⟩,hw''⟩:=hw'
        subst hw''
        have c01:=k01 dq osq
        have c11:=k11 dq osq
        have d11:=k21 dq osq
        have d21:=k31 dq osq
        have HB4:=Lib.hid (below_on HB3.out (below_regrown W dq osq))
        clear k01 k11 k21 k31 cH1 c00 c10 d10 d20
        generalize grow (redrawn W dq) osq=W1 at *
        go_wp2_with fail
        have cH2:∀ d os,Calls Tryz.prog 203 #[.agg #[.int .i64 (e:Int),.int .i64 (f:Int)]] (grow (redrawn W1 d) os) fun r w''=>r=.returned (.int .i64 hi)∧∃ p:Regrown,w''=grow (redrawn W1 p.d) p.os:=fun d os=>Calls.regrown_of (KH.out _)
        have k02:=cell_regrown c01
        have k12:=cell_regrown c11
        have k22:=cell_regrown d11
        have k32:=cell_regrown d21
        refine wp_region_quiet_below (by kernel_rfl) (by kernel_rfl) ?_
        repeat (quiet_step (first | with_reducible exact cH2 _ _))
        refine wpQuiet_nil ?_
        intro _ hw'
        obtain ⟨⟨dq,osq⟩,hw''⟩:=hw'
        subst hw''
        have c02:=k02 dq osq
        have c12:=k12 dq osq
        have d12:=k22 dq osq
        have d22:=k32 dq osq
        have HB5:=Lib.hid (below_on HB4.out (below_regrown W1 dq osq))
        clear k02 k12 k22 k32 cH2 c01 c11 d11 d21
        generalize grow (redrawn W1 dq) osq=W2 at *
        go_wp2
        go_ret
        exact IntBelow.mk rfl HB5.out
  · cases b2
    ·
      have cH1:∀ d os,Calls Tryz.prog 203 #[.agg #[.int .i64 (e:Int),.int .i64 (f:Int)]] (grow (redrawn W d) os) fun r w''=>r=.returned (.int .i64 hi)∧∃ p:Regrown,w''=grow (redrawn W p.d) p.os:=fun d os=>Calls.regrown_of (KH.out _)
      have k01:=cell_regrown c00
      have k11:=cell_regrown c10
      have k21:=cell_regrown d10
      have k31:=cell_regrown d20
      refine wp_region_quiet_below (by kernel_rfl) (by kernel_rfl) ?_
      repeat (quiet_step (first | with_reducible exact cH1 _ _))
      refine wpQuiet_nil ?_
      intro _ hw'
      obtain ⟨⟨dq,osq⟩,hw''⟩:=hw'
      subst hw''
      have c01:=k01 dq osq
      have c11:=k11 dq osq
      have d11:=k21 dq osq
      have d21:=k31 dq osq
      have HB4:=Lib.hid (below_on HB3.out (below_regrown W dq osq))
      clear k01 k11 k21 k31 cH1 c00 c10 d10 d20
      generalize grow (redrawn W dq) osq=W1 at *
      go_wp2_with fail
      have cH2:∀ d os,Calls Tryz.prog 203 #[.agg #[.int .i64 (e:Int),.int .i64 (f:Int)]] (grow (redrawn W1 d) os) fun r w''=>r=.returned (.int .i64 hi)∧∃ p:Regrown,w''=grow (redrawn W1 p.d) p.os:=fun d os=>Calls.regrown_of (KH.out _)
      have k02:=cell_regrown c01
      have k12:=cell_regrown c11
      have k22:=cell_regrown d11
      have k32:=cell_regrown d21
      refine wp_region_quiet_below (by kernel_rfl) (by kernel_rfl) ?_
      repeat (quiet_step (first | with_reducible exact cH2 _ _))
      refine wpQuiet_nil ?_
      intro _ hw'
      obtain ⟨⟨dq,osq⟩,hw''⟩:=hw'
      subst hw''
      have c02:=k02 dq osq
      have c12:=k12 dq osq
      have d12:=k22 dq osq
      have d22:=k32 dq osq
      have HB5:=Lib.hid (below_on HB4.out (below_regrown W1 dq osq))
      clear k02 k12 k22 k32 cH2 c01 c11 d11 d21
      generalize grow (redrawn W1 dq) osq=W2 at *
      go_wp2
      go_ret
      exact IntBelow.mk rfl HB5.out
    ·
      have cH1:∀ d os,Calls Tryz.prog 203 #[.agg #[.int .i64 (e:Int),.int .i64 (f:Int)]] (grow (redrawn W d) os) fun r w''=>r=.returned (.int .i64 hi)∧∃ p:Regrown,w''=grow (redrawn W p.d) p.os:=fun d os=>Calls.regrown_of (KH.out _)
      have k01:=cell_regrown c00
      have k11:=cell_regrown c10
      have k21:=cell_regrown d10
      have k31:=cell_regrown d20
      refine wp_region_quiet_below (by kernel_rfl) (by kernel_rfl) ?_
      repeat (quiet_step (first | with_reducible exact cH1 _ _))
      refine wpQuiet_nil ?_
      intro _ hw'
      obtain ⟨⟨dq,osq⟩,hw''⟩:=hw'
      subst hw''
      have c01:=k01 dq osq
      have c11:=k11 dq osq
      have d11:=k21 dq osq
      have d21:=k31 dq osq
      have HB4:=Lib.hid (below_on HB3.out (below_regrown W dq osq))
      clear k01 k11 k21 k31 cH1 c00 c10 d10 d20
      generalize grow (redrawn W dq) osq=W1 at *
      go_wp2
      go_ret
      exact IntBelow.mk rfl HB4.out
theorem kind_any (width:Int) (x:Nat) (hx:x<18446744073709551616) (w:World):Calls Tryz.prog 187 #[.int .i64 width,.int .u64 (x:Int)] w (IntBelow (kindW width x) w):=by
  cases h:layOf width with
  | some p =>
    obtain ⟨e,f⟩:=p
    have hl:=layOf_lay h
    have hk:kindW width x=(kindF e f x:Int):=by unfold kindW;rw [h]
    rw [hk,kindF_eq]
    have hp:((2:Int) ^ e)=((2 ^ e:Nat):Int):=by push_cast;rfl
    have he:1≤2 ^ e:=twop_pos e
    refine kind_walk width x w hl h (fNeg e f x) (fEx e f x) (fFr f x) _ _ _ ?_ (int_beq0 _) (int_beq0 _) (fun W=>split_any hl x hx W)
    rw [hp]
    generalize fEx e f x=a
    generalize 2 ^ e=Q at *
    by_cases h1:a=Q - 1
    · rw [decide_eq_true h1,beq_iff_eq];omega
    · rw [decide_eq_false h1,beq_eq_false_iff_ne];omega
  | none =>
    have KL:=layoutOf_any width w
    unfold layA at KL
    rw [h] at KL
    have KLH:=Lib.hid KL
    have H:Hid (kindW width x=0):=by unfold kindW;rw [h];rfl
    clear KL h
    unfold layV at *
    go_enter Tryz.func187,Tryz.ntmps187
    go_wp2_with fail
    refine KLH.out.mono ?_
    rintro r w1 ⟨rfl,hb1⟩
    have HB1:=Lib.hid (below_on hb1 (below_box' w1 #[.int .i64 0,.int .i64 0] 151));clear hb1
    go_wp2
    go_ret
    exact IntBelow.mk H.out.symm HB1.out
theorem Ctx.wide {w0 w:World} {l:List Ent} {v:Value} {L L' N:Nat} {xs:List Nat} (h:Ctx w0 w (⟨v,L,N,xs⟩::l)) (hL:L≤L'):Ctx w0 w (⟨v,L',N,xs⟩::l) :=
  ⟨h.below,fun y hy=>by
    rcases List.mem_cons.1 hy with rfl | h1
    · obtain ⟨ad,cap,h1,h2,h3,h4⟩:=h.all _ (List.mem_cons_self ..)
      exact ⟨ad,cap,h1,h2,Nat.le_trans h3 hL,h4⟩
    · exact h.all y (List.mem_cons_of_mem _ h1)⟩
theorem Ctx.over {w0 W w5:World} {l l':List Ent} {a:Ent} (h:Ctx w0 W l) (h5:Ctx W w5 (a::l')):Ctx w0 w5 (a::l):=by
  have h2:=h.step h5.below
  exact ⟨h2.below,fun y hy=>by
    rcases List.mem_cons.1 hy with rfl | h1
    · exact h5.all _ (List.mem_cons_self ..)
    · exact h2.all y h1⟩
theorem words_ok {s:Nat} (h:s<18446744073709551616):Okl [s % 4294967296,s / 4294967296]∧val [s % 4294967296,s / 4294967296]=s :=
  ⟨Okl.cons (by rw [B32_eq];omega) (Okl.cons (by rw [B32_eq];omega) Okl.nil),by simp [val];rw [B32_eq];omega⟩
theorem five_le (a:Nat):5 ^ a≤2 ^ (7*(a / 3)+6):=by
  have h1:5 ^ a=125 ^ (a / 3)*5 ^ (a % 3):=by
    rw [show (125:Nat)=5 ^ 3 from rfl,← Nat.pow_mul,← Nat.pow_add,Nat.div_add_mod]
  have h2:125 ^ (a / 3)≤2 ^ (7*(a / 3)):=by rw [Nat.pow_mul];exact Nat.pow_le_pow_left (by decide) _
  have h3:5 ^ (a % 3)≤2 ^ 6:=Nat.le_trans (Nat.pow_le_pow_right (by decide) (show a % 3≤2 by omega)) (by decide)
  rw [h1,Nat.pow_add]
  exact Nat.mul_le_mul h2 h3
theorem dec_lt {s K:Nat} {t:Int} (hs:s<2 ^ 53) (ht:-1074≤t∧t≤1000) (hK:2600≤K):decN s t<2 ^ K:=by
  unfold decN
  by_cases h:t<0
  · rw [show t.toNat=0 by omega,Nat.pow_zero,Nat.mul_one]
    have h2:s*5 ^ (-t).toNat<2 ^ 53*2 ^ (7*((-t).toNat / 3)+6):=Nat.lt_of_lt_of_le (Nat.mul_lt_mul_of_pos_right hs (five_pos _)) (Nat.mul_le_mul_left _ (five_le _))
    rw [← Nat.pow_add] at h2
    exact Nat.lt_of_lt_of_le h2 (Nat.pow_le_pow_right (by decide) (by omega))
  · rw [show (-t).toNat=0 by omega,Nat.pow_zero,Nat.mul_one]
    have h2:s*2 ^ t.toNat<2 ^ 53*2 ^ t.toNat:=Nat.mul_lt_mul_of_pos_right hs (twop_pos _)
    rw [← Nat.pow_add] at h2
    exact Nat.lt_of_lt_of_le h2 (Nat.pow_le_pow_right (by decide) (by omega))
theorem ex_bounds {e f x:Nat} (hl:Lay e f) (hk:kindF e f x=1):exN e f x=exM e f x*tenN (trimK (exN e f x))∧exM e f x % 10 ≠ 0∧(limbs (exM e f x)).length≤90∧-1200≤exE e f x∧exE e f x≤1200:=by
  obtain ⟨h1,h2⟩:=trim_spec (decN_ne (t:=twosF e f x) (sizeF_ne hk))
  have hb:=twosF_bd (x:=x) hl
  have hs:sizeF e f x<2 ^ 53:=Nat.lt_of_lt_of_le (sizeF_lt e f x) (Nat.pow_le_pow_right (by decide) (by have:=(lay_bd hl).2.2.2.1;omega))
  obtain ⟨L,hL⟩:∃ L,L=90:=⟨_,rfl⟩
  have hlt:=dec_lt (K:=32*L) hs ⟨hb.1,by omega⟩ (by omega)
  refine ⟨h1,h2,?_,?_,?_⟩
  · rw [← hL]
    refine limbs_length_le ?_
    have e1:B32 ^ L=2 ^ (32*L):=by rw [Nat.pow_mul];rfl
    rw [e1]
    refine Nat.lt_of_le_of_lt (?_:exM e f x≤decN (sizeF e f x) (twosF e f x)) hlt
    conv=>rhs;rw [h1]
    exact Nat.le_mul_of_pos_right _ (tenN_pos _)
  · unfold exE;omega
  · have h3:tenN (trimK (exN e f x))≤decN (sizeF e f x) (twosF e f x):=by
      conv=>rhs;rw [h1]
      exact Nat.le_mul_of_pos_left _ (by omega)
    have h4:2 ^ (3*trimK (exN e f x))≤tenN (trimK (exN e f x)):=by
      rw [Nat.pow_mul];exact Nat.pow_le_pow_left (by decide) _
    have h5:=two_lt_iff.1 (Nat.lt_of_le_of_lt (Nat.le_trans h4 h3) hlt)
    unfold exE;omega
def exNegW (width:Int) (x:Nat):Bool:=match layOf width with | some (e,f)=>decide (kindF e f x=1) && fNeg e f x | none=>false
def exMW (width:Int) (x:Nat):Nat:=match layOf width with | some (e,f)=>if kindF e f x=1 then exM e f x else 0 | none=>0
def exEW (width:Int) (x:Nat):Int:=match layOf width with | some (e,f)=>if kindF e f x=1 then exE e f x else 0 | none=>0
theorem exact_no {w0 w:World} {l:List Ent} (h:Ctx w0 w l) (width:Int) (x:Nat) (k:Int) (b:Bool) (hb:(k == 2)=b) (h1:(k == 1)=false) (KK:∀ W,Calls Tryz.prog 187 #[.int .i64 width,.int .u64 (x:Int)] W (IntBelow k W)) :
    Calls Tryz.prog 152 #[.int .i64 width,.int .u64 (x:Int)] w (MadePost w0 l 2000 false 0 0 b):=by
  have KKH:=Lib.hid KK
  have H:=Lib.hid h
  have hg:=Lib.hid h.below.size
  clear KK h
  cases b
  all_goals
    go_enter Tryz.func152,Tryz.ntmps152
    go_wp2_with fail
    refine (KKH.out _).mono ?_
    rintro r w1 ⟨rfl,hb1⟩
    obtain ⟨hc1,hf1⟩:=bcell hb1
    have x0:w1.cell? ⟨w.heap.size,0,none⟩=some (.bool false):=by rw [hc1 _ _ (by simp)];simp
    have x1:w1.cell? ⟨w.heap.size,1,none⟩=some (.slice none 0 0):=by rw [hc1 _ _ (by simp)];simp
    have x2:w1.cell? ⟨w.heap.size,2,none⟩=some (.int .i64 0):=by rw [hc1 _ _ (by simp)];simp
    have hz:w.heap.size<w1.heap.size:=by have h:=hb1.size;(try simp at h);omega
    have H5:=Lib.hid (((H.out.step (below_box' w _ _)).step hb1).box3 (g:=w.heap.size) (b:=false) (a:=none) (n:=0) (c:=0) (x:=0) hg.out x0 x1 x2 (.bool false) (.slice none 0 0) (.int .i64 0))
    clear hb1
    go_wp2_with fail
    first
      | exact bodyPost_ret (v:=.tuple #[.agg #[.bool false,.slice none 0 0,.int .i64 0],.bool true]) (by simp [results,Tryz.results152,go_sem,x0,x1,x2]) rfl ⟨_,rfl,H5.out.push (ent_nil _ _)⟩
      | exact bodyPost_ret (v:=.tuple #[.agg #[.bool false,.slice none 0 0,.int .i64 0],.bool false]) (by simp [results,Tryz.results152,go_sem,x0,x1,x2]) rfl ⟨_,rfl,H5.out.push (ent_nil _ _)⟩
end Go.Proofs.YtnacbakcalcgaaaGreatDoor
