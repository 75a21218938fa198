/- Texts of the claim. -/
import Derived.Test.YtapicpdfdjofaaaDoorZe
set_option linter.unusedVariables false
set_option linter.unusedSimpArgs false
set_option maxHeartbeats 16000000
set_option maxRecDepth 100000
namespace Go.Proofs.YtapicpdfdjofaaaDoor
open Go.RowKit Go.Shelf
def nullV:Value:=.agg #[.int .i64 1,.bool false,.bool false,.slice none 0 0,.int .i64 0,.string ⟨#[]⟩,.slice none 0 0,.slice none 0 0]
theorem refZeroP (w:World):Calls Tryd.prog 79 #[.agg #[.bool false,.slice none 0 0,.int .i64 0]] w fun e w'=>e=.returned (.bool true)∧Below w.heap.size w w':=by
  have HB:=Lib.hid ((Below.refl w.heap.size w).alloc (Nat.le_refl _) (.cells #[.bool false,.slice none 0 0,.int .i64 0] 25))
  go_enter Tryd.func79,Tryd.ntmps79
  go_wp2
  go_ret
  exact ⟨rfl,HB.out⟩
theorem box_cellsP {W:World} {b:Nat} {c:Array Value} {t:TypeId} (h:W.heap[b]? = some (.cells c t)) (i:Nat) (v:Value) (hv:c[i]? = some v):W.cell? ⟨b,i,none⟩=some v:=by
  simp [World.cell?,h,hv]
theorem null_cells {W:World} {b:Nat} (q:W.heap[b]? = some (.cells #[.int .i64 1,.bool false,.bool false,.slice none 0 0,.int .i64 0,.string ⟨#[]⟩,.slice none 0 0,.slice none 0 0] 28)) :
    W.cell? ⟨b,0,none⟩=some (.int .i64 1)∧W.cell? ⟨b,1,none⟩=some (.bool false)∧W.cell? ⟨b,2,none⟩=some (.bool false)∧W.cell? ⟨b,3,none⟩=some (.slice none 0 0)∧W.cell? ⟨b,4,none⟩=some (.int .i64 0)∧W.cell? ⟨b,5,none⟩=some (.string ⟨#[]⟩)∧W.cell? ⟨b,6,none⟩=some (.slice none 0 0)∧W.cell? ⟨b,7,none⟩=some (.slice none 0 0) :=
  ⟨box_cellsP q 0 _ rfl,box_cellsP q 1 _ rfl,box_cellsP q 2 _ rfl,box_cellsP q 3 _ rfl,box_cellsP q 4 _ rfl,box_cellsP q 5 _ rfl,box_cellsP q 6 _ rfl,box_cellsP q 7 _ rfl⟩
theorem fieldsNull (w:World):Calls Tryd.prog 63 #[nullV] w fun e w'=>e=.returned (.bool true)∧Below w.heap.size w w':=by
  obtain ⟨W1,hW1⟩:∃ x,w.alloc (.cells #[.int .i64 1,.bool false,.bool false,.slice none 0 0,.int .i64 0,.string ⟨#[]⟩,.slice none 0 0,.slice none 0 0] 28)=x:=⟨_,rfl⟩
  have hb1:Below w.heap.size w W1:=by rw [← hW1];exact (Below.refl _ _).alloc (Nat.le_refl _) _
  have q1:W1.heap[w.heap.size]? = some (.cells #[.int .i64 1,.bool false,.bool false,.slice none 0 0,.int .i64 0,.string ⟨#[]⟩,.slice none 0 0,.slice none 0 0] 28):=by rw [← hW1];exact heap_alloc_new w _
  have HB:=Lib.hid hb1
  have HQ:=Lib.hid (fun W (h:Below W1.heap.size W1 W)=>null_cells ((h.block _ (Array.getElem?_eq_some_iff.1 q1).1).trans q1))
  have HW:=Lib.hid hW1
  obtain ⟨c0,c1,c2,c3,c4,c5,c6,c7⟩:=null_cells q1
  clear hb1 hW1 q1
  unfold nullV
  go_enter Tryd.func63,Tryd.ntmps63
  go_wp2_with fail
  rw [HW.out]
  refine (refZeroP _).mono ?_
  rintro r w9 ⟨rfl,h9⟩
  have HF:=Lib.hid (HB.out.trans (h9.mono HB.out.size))
  obtain ⟨c0,c1,c2,c3,c4,c5,c6,c7⟩:=HQ.out _ h9
  clear h9
  go_wp2_with fail
  go_ret
  exact ⟨rfl,HF.out⟩
theorem walkNull (w:World):Calls Tryd.prog 46 #[nullV,.int .i64 1,.int .i64 0] w fun e w'=>e=.returned (.int .i64 1)∧Below w.heap.size w w':=by
  obtain ⟨W1,hW1⟩:∃ x,w.alloc (.cells #[.int .i64 1,.bool false,.bool false,.slice none 0 0,.int .i64 0,.string ⟨#[]⟩,.slice none 0 0,.slice none 0 0] 28)=x:=⟨_,rfl⟩
  have hb1:Below w.heap.size w W1:=by rw [← hW1];exact (Below.refl _ _).alloc (Nat.le_refl _) _
  have q1:W1.heap[w.heap.size]? = some (.cells #[.int .i64 1,.bool false,.bool false,.slice none 0 0,.int .i64 0,.string ⟨#[]⟩,.slice none 0 0,.slice none 0 0] 28):=by rw [← hW1];exact heap_alloc_new w _
  have HB:=Lib.hid hb1
  have HQ:=Lib.hid (fun W (h:Below W1.heap.size W1 W)=>null_cells ((h.block _ (Array.getElem?_eq_some_iff.1 q1).1).trans q1))
  have HW:=Lib.hid hW1
  have KF:=Lib.hid (fun W=>fieldsNull W)
  obtain ⟨c0,c1,c2,c3,c4,c5,c6,c7⟩:=null_cells q1
  clear hb1 hW1 q1
  unfold nullV at KF ⊢
  go_enter Tryd.func46,Tryd.ntmps46
  go_wp2_with fail
  rw [HW.out]
  refine (KF.out _).mono ?_
  rintro r w9 ⟨rfl,h9⟩
  have HN:=Lib.hid h9
  obtain ⟨c0,c1,c2,c3,c4,c5,c6,c7⟩:=HQ.out _ h9
  clear h9
  try go_wp2_with fail
  go_loopg [2,7] 0 (fun g m i wr=>m=.int .i64 1∧i=.int .i64 0∧wr=w9)
  case atStart=>exact ⟨rfl,rfl,rfl⟩
  case round =>
    obtain ⟨rfl,rfl,rfl⟩:=hrel
    have HF:=Lib.hid (HB.out.trans (HN.out.mono HB.out.size))
    go_wp2
    go_ret
    exact ⟨rfl,HF.out⟩
theorem checkNull (w:World):Calls Tryd.prog 21 #[nullV] w fun e w'=>e=.returned (.bool true)∧Below w.heap.size w w':=by
  obtain ⟨W1,hW1⟩:∃ x,w.alloc (.cells #[.int .i64 1,.bool false,.bool false,.slice none 0 0,.int .i64 0,.string ⟨#[]⟩,.slice none 0 0,.slice none 0 0] 28)=x:=⟨_,rfl⟩
  have hb1:Below w.heap.size w W1:=by rw [← hW1];exact (Below.refl _ _).alloc (Nat.le_refl _) _
  have q1:W1.heap[w.heap.size]? = some (.cells #[.int .i64 1,.bool false,.bool false,.slice none 0 0,.int .i64 0,.string ⟨#[]⟩,.slice none 0 0,.slice none 0 0] 28):=by rw [← hW1];exact heap_alloc_new w _
  have HB:=Lib.hid hb1
  have HW:=Lib.hid hW1
  have KF:=Lib.hid (fun W=>walkNull W)
  obtain ⟨c0,c1,c2,c3,c4,c5,c6,c7⟩:=null_cells q1
  clear hb1 hW1 q1
  unfold nullV at KF ⊢
  go_enter Tryd.func21,Tryd.ntmps21
  go_wp2_with fail
  rw [HW.out]
  refine (KF.out _).mono ?_
  rintro r w2 ⟨rfl,h2⟩
  have HF:=Lib.hid (HB.out.trans (h2.mono HB.out.size))
  clear h2
  go_wp2_with fail
  go_ret
  exact ⟨rfl,HF.out⟩
end Go.Proofs.YtapicpdfdjofaaaDoor
namespace Go.Proofs.YtapicpdfdjofaaaDoor
open Go.RowKit
theorem place_any (v n:Int) (w:World) (hv:-9223372036854775808≤v∧v≤9223372036854775807) (hn:0<n∧n≤100000000) :
    Calls Tryd.prog 31 #[.int .i64 v,.int .i64 n] w fun e w'=>e=.returned (.int .i64 (v % n))∧w'=w:=by
  have h1:=Int.emod_nonneg v (show n ≠ 0 by omega)
  have h2:=Int.emod_lt_of_pos v hn.1
  have ht:v.tmod n=if 0≤v∨v % n=0 then v % n else v % n - n:=by
    rw [Int.tmod_eq_emod]
    by_cases h0:0≤v∨n ∣ v
    · rw [if_pos h0,if_pos (h0.imp id Int.emod_eq_zero_of_dvd)];omega
    · rw [if_neg h0,if_neg (fun h=>h0 (h.imp id Int.dvd_of_emod_eq_zero))];omega
  have hne:n ≠ 0:=by omega
  have hnb:(n == 0)=false:=by rw [beq_eq_false_iff_ne];exact hne
  generalize v % n=r at *
  by_cases hv0:0≤v∨r=0
  · rw [if_pos hv0] at ht
    have hlt:¬ (r<0):=by omega
    clear hv0
    go_enter Tryd.func31,Tryd.ntmps31
    go_wp2_with fail
    go_ret
    exact ⟨rfl,rfl⟩
  · rw [if_neg hv0] at ht
    clear hv0
    go_enter Tryd.func31,Tryd.ntmps31
    go_wp2_with fail
    go_ret
    exact ⟨rfl,rfl⟩
end Go.Proofs.YtapicpdfdjofaaaDoor
namespace Go.Proofs.YtapicpdfdjofaaaDoor
open Go.RowKit Go.Shelf
theorem parse_til {s:List UInt8} (h:tilW false s=false):parsePt s=.inr 2:=by
  cases s with
  | nil=>simp [tilW] at h
  | cons b l=>unfold parsePt;simp only;rw [if_pos (.inr (.inr h))]
theorem parse_til0 (p:List (List UInt8)):parsePt (textP p++[47,126])=.inr 2:=parse_til (by rw [til_text];decide)
theorem parse_til1 (p:List (List UInt8)):parsePt (textP p++[47,126,50])=.inr 2:=parse_til (by rw [til_text];decide)
theorem parse_a (p:List UInt8):parsePt (97::p)=.inr 2:=by unfold parsePt;simp only;rw [if_pos (.inl (by decide))]
theorem rep_valid (k:Nat):validL (List.replicate k 47)=true:=by
  induction k with
  | zero=>decide
  | succ k ih=>rw [List.replicate_succ];exact (valid_append (a:=[47]) valid_sign ih).1
theorem rep_til (k:Nat):tilW false (List.replicate k 47)=true:=by
  induction k with
  | zero=>decide
  | succ k ih=>rw [List.replicate_succ,tilW_other _ _ (by decide),ih]
theorem parse_many {p:List (List UInt8)} (hv:∀ t∈p,validL t=true) (hl:p.length≤20):parsePt (textP p++List.replicate (64 - p.length) 47)=.inr 4:=by
  have h1:=(valid_append (valid_text hv) (rep_valid (64 - p.length))).1
  have h2:tilW false (textP p++List.replicate (64 - p.length) 47)=true:=by rw [til_text,rep_til]
  have h3:(textP p++List.replicate (64 - p.length) 47).count 47=64:=by rw [List.count_append,count_text,List.count_replicate_self];omega
  obtain ⟨l,hl⟩:∃ l,textP p++List.replicate (64 - p.length) 47=47::l:=by
    cases p with
    | nil=>exact ⟨List.replicate 63 47,rfl⟩
    | cons t p=>exact ⟨_,by rw [textP_cons,List.cons_append]⟩
  rw [hl] at h1 h2 h3 ⊢
  unfold parsePt
  simp only
  rw [if_neg (by simp [h1,h2]),if_pos (by omega)]
def RnG (s:ByteArray) (B:Nat) (w:World) (k:Nat) (r:Value) (wr:World):Prop :=
  ∃ pos,s.size - pos≤k∧validL s.data.toList=validL (tailL s pos)∧RI s B w pos wr
def TkG (l:List ByteArray) (n:Nat) (w:World) (k:Nat) (i:Value) (wr:World):Prop :=
  ∃ j:Nat,j≤n∧n - j≤k∧i=.int .i64 (j:Int)∧(∀ x∈l.take j,validL x.data.toList=true)∧Below w.heap.size w wr
def ApG (S:ByteArray) (n:Nat) (w0:World) (k:Nat) (t i:Value) (wr:World):Prop :=
  ∃ (j:Nat) (T:ByteArray),n≤j∧j≤64∧64 - j≤k∧i=.int .i64 (j:Int)∧t=.string T∧T.data.toList=97::(S.data.toList++List.replicate (j - n) 47)∧wr=w0
theorem size_len (s:ByteArray) (l:List UInt8) (h:s.data.toList=l):s.size=l.length:=by rw [Lib.size_eq,h]
theorem app_list (a b:ByteArray):(a++b).data.toList=a.data.toList++b.data.toList:=by simp [ByteArray.data_append]
theorem pointerWrong_walk (ad:Option Addr) (n cap:Nat) (l:List ByteArray) (how:Int) (w:World) (hl:l.length=n) (hcap:n≤cap) (hn:n≤9223372036854775807) (hr:RdV w ad (sv l)) (hh:-9223372036854775808≤how∧how≤9223372036854775807) (hT:UT w) (hM:ML w) :
    Calls Tryd.prog 7 #[.slice ad n cap,.int .i64 how] w fun e w'=>e=.returned (.bool true)∧Below w.heap.size w w':=by
  have KAW:=Lib.hid (fun W (h:Below w.heap.size w W)=>awake14_any W (hT.below h) (hM.below h))
  obtain ⟨W1,hW1⟩:∃ W,w.alloc (.cells #[.slice ad n cap] 22)=W:=⟨_,rfl⟩
  have hb1:Below w.heap.size w W1:=by rw [← hW1];exact (Below.refl _ _).alloc (Nat.le_refl _) _
  have hp:(PathV.mk ad n cap l).Ok W1:=⟨hl,hcap,hn,hr.on hb1⟩
  have KS:=Lib.hid (short_any [⟨ad,n,cap,l⟩] w.heap.size 1 W1 rfl (by decide) (by
    intro j p hj
    cases j with
    | zero =>
      simp at hj;subst hj
      have:W1.heap[w.heap.size]? = some (.cells #[.slice ad n cap] 22):=by rw [← hW1];exact heap_alloc_new w _
      exact box_cellsP this 0 _ rfl
    | succ j=>simp at hj) (by intro p hp';simp at hp';subst hp';exact hp))
  have HR:=Lib.hid (fun W (h:Below w.heap.size w W)=>hr.on h)
  have HUT:=Lib.hid (fun W (h:Below w.heap.size w W)=>hT.below h)
  have HML:=Lib.hid (fun W (h:Below w.heap.size w W)=>hM.below h)
  have KPL:=Lib.hid (fun W=>place_any how 4 W hh (by decide))
  have HL:=Lib.hid hl
  have HB:=Lib.hid hb1
  have HW1:=Lib.hid hW1
  clear hb1 hW1 hp hr hT hM hl hh
  go_enter Tryd.func7,Tryd.ntmps7
  go_wp2_with fail
  rw [HW1.out]
  refine KS.out.mono ?_
  rintro r w2 ⟨b,rfl,hs,rfl⟩
  cases b with
  | false =>
    go_wp2_with fail
    refine (KAW.out _ HB.out).mono ?_
    rintro r w3 ⟨rfl,h3⟩
    have HF:=Lib.hid (HB.out.trans (h3.mono HB.out.size))
    clear h3
    go_wp2
    go_ret
    exact ⟨rfl,HF.out⟩
  | true =>
    have hsh:=hs rfl ⟨ad,n,cap,l⟩ (by simp)
    obtain ⟨h80,hxs⟩:=hsh
    simp only at h80 hxs
    have HXS:=Lib.hid hxs
    clear hs hxs KS HW1
    by_cases h20:n≤20
    case neg =>
      have h20z:(20:Int)<(n:Int):=by omega
      go_wp2_with fail
      refine (KAW.out _ HB.out).mono ?_
      rintro r w3 ⟨rfl,h3⟩
      have HF:=Lib.hid (HB.out.trans (h3.mono HB.out.size))
      clear h3
      go_wp2
      go_ret
      exact ⟨rfl,HF.out⟩
    have h20z:¬ (20:Int)<(n:Int):=by omega
    have KTX:=Lib.hid (text_any ad n cap l w2 (HML.out _ HB.out) HL.out hcap (by omega) (fun x hx=>by have:=HXS.out x hx;omega) (HR.out _ HB.out))
    obtain ⟨S,hS⟩:∃ S,mkB (textP (ldat l))=S:=⟨_,rfl⟩
    rw [hS] at KTX
    have hSl:S.data.toList=textP (ldat l):=by rw [← hS,mkB_list]
    have hSs:S.size≤100000:=by
      have h1:=textP_len (ldat l) 2100 (fun t ht=>by
        unfold ldat at ht
        obtain ⟨x,hx,rfl⟩:=List.mem_map.1 ht
        have:=HXS.out x hx
        rw [← Lib.size_eq];exact this)
      have h2:(ldat l).length≤20:=by simp [ldat];have:=HL.out;omega
      have h3:=Nat.mul_le_mul_right (1+2*2100) h2
      rw [size_len S _ hSl];omega
    have HSL:=Lib.hid hSl
    clear hS hSl
    go_wp2_with fail
    refine KTX.out.mono ?_
    rintro r w3 ⟨rfl,h3⟩
    have HB3:=Lib.hid (HB.out.trans (h3.mono HB.out.size))
    clear h3 KTX
    go_wp2
    go_loopg [6] n (fun k i wr=>TkG l n w k i wr)
    case atStart=>exact ⟨0,by omega,by omega,rfl,by simp,HB3.out⟩
    case round =>
      obtain ⟨j,hj,hk,rfl,hv,hbw⟩:=hrel
      by_cases hjn:j<n
      · obtain ⟨k,rfl⟩:∃ k,gk=k+1:=⟨gk - 1,by omega⟩
        have hjz:(j:Int)<(n:Int):=by omega
        have hjl:j<l.length:=by rw [HL.out];exact hjn
        obtain ⟨bk,o,rfl,_,hcx⟩:=HR.out wr hbw j (by rw [sv_len];exact hjl)
        rw [sv_get _ _ hjl] at hcx
        have htk:l.take (j+1)=l.take j++[l.getD j ByteArray.empty]:=by rw [List.take_add_one];simp [List.getD,hjl]
        have hx21:=HXS.out (l.getD j ByteArray.empty) (by simp [List.getD,hjl])
        generalize l.getD j ByteArray.empty=x at *
        have HNX:=Lib.hid (fun W (h:validL x.data.toList=true) (h2:Below w.heap.size w W)=>(show TkG l n w k (.int .i64 ((j:Int)+1)) W from ⟨j+1,by omega,by omega,rfl,by
          rw [htk];intro y hy
          rcases List.mem_append.1 hy with hy | hy
          · exact hv y hy
          · rw [List.mem_singleton] at hy;subst hy;exact h,h2⟩))
        have hst:=RI.start x wr
        have HBW:=Lib.hid hbw
        clear htk hv hbw
        go_wp2
        generalize hBq:wr.heap.size=Bq at *
        have HBX:=Lib.hid (fun W (h:Below Bq wr W)=>(HBW.out.trans (h.mono (by rw [← hBq];exact HBW.out.size)):Below w.heap.size w W))
        clear hBq
        obtain ⟨wj,hwj⟩:∃ W,W=wr:=⟨_,rfl⟩
        replace hst:RI x Bq wj 0 (wr.iter x 0):=by rw [hwj];exact hst
        rw [← hwj] at HBX
        go_loopg [8] x.size (fun k2 r wr2=>RnG x Bq wj k2 r wr2)
        case atStart=>exact ⟨0,by omega,by rw [tailL_zero],hst⟩
        case round =>
          obtain ⟨pos,hk2,hv2,hri⟩:=hrel
          have HV2:=Lib.hid hv2
          clear hv2
          by_cases hp:pos<x.size
          · obtain ⟨k2,rfl⟩:∃ k,gk=k+1:=⟨gk - 1,by omega⟩
            have hnx:∀ ty,(Instr.next (.pointer (some ⟨Bq,0,none⟩)) true ty).run Tryd.prog wr=_:=fun ty=>Lib.run_next_any_at wr Bq x pos ty hri.1 hp
            rw [decode_tail] at hnx
            have hw:=decL_width (tailL x pos) (tailL_ne hp)
            rw [tailL_length] at hw
            by_cases hc:(decL (tailL x pos)).1=65533
            · have hri2:=hri.next (pos+(decL (tailL x pos)).2)
              generalize decL (tailL x pos)=D at *
              obtain ⟨c,m⟩:=D
              simp only at hc hw hnx hri2
              subst hc
              have HB5:=Lib.hid (HBX.out _ hri2.2)
              clear hri hri2
              go_wp2_with fail
              refine (KAW.out _ HB5.out).mono ?_
              rintro r w5 ⟨rfl,h5⟩
              have HF:=Lib.hid (HB5.out.trans (h5.mono HB5.out.size))
              clear h5
              go_wp2
              go_ret
              exact ⟨rfl,HF.out⟩
            · have hvt:=valid_tail hp
              have hr2:=rune_not hc
              rw [hr2,decide_eq_true (by simp),Bool.true_and] at hvt
              have hcz:¬ (((decL (tailL x pos)).1:Nat):Int)=65533:=by omega
              have hri2:=hri.next (pos+(decL (tailL x pos)).2)
              have HVT:=Lib.hid hvt
              clear hvt hr2
              generalize decL (tailL x pos)=D at *
              obtain ⟨c,m⟩:=D
              simp only at hc hcz hw hnx hri2 HVT
              have HN:=Lib.hid (show ∀ v,RnG x Bq wj k2 v (wr.iterAt Bq x (pos+m)) from fun v=>⟨pos+m,by omega,by rw [HV2.out,HVT.out],hri2⟩)
              clear hri hri2 hc
              go_wp2
              go_roundg k2
              case rel=>exact HN.out _
              case measure=>omega
          · have hnx:∀ ty,(Instr.next (.pointer (some ⟨Bq,0,none⟩)) true ty).run Tryd.prog wr=_:=fun ty=>Lib.run_next_end_at wr Bq x pos ty hri.1 hp
            have HN:=Lib.hid (HNX.out wr (by rw [HV2.out,tailL_end (by omega)];rfl) (HBX.out _ hri.2))
            clear hri
            go_wp2
            go_roundg k
            case rel=>exact HN.out
            case measure=>omega
      · obtain rfl:j=n:=by omega
        have hjz:¬ (j:Int)<(j:Int):=by omega
        rw [← HL.out,List.take_length] at hv
        have hvd:∀ t∈ldat l,validL t=true:=by
          intro t ht
          unfold ldat at ht
          obtain ⟨x,hx,rfl⟩:=List.mem_map.1 ht
          exact hv x hx
        have HVD:=Lib.hid hvd
        have HBW:=Lib.hid hbw
        have KN:=Lib.hid (fun W=>checkNull W)
        unfold nullV at KN
        have hln20:(ldat l).length=j:=by simp [ldat];exact HL.out
        have HLD:=Lib.hid hln20
        have hz1:¬ 9223372036854775807<1+S.size:=by omega
        have hz2:¬ 9223372036854775807<S.size+2:=by omega
        have hz3:¬ 9223372036854775807<S.size+3:=by omega
        obtain ⟨T3,hT3⟩:∃ T:ByteArray,(⟨#[97]⟩:ByteArray)++S=T:=⟨_,rfl⟩
        obtain ⟨T0,hT0⟩:∃ T:ByteArray,S++(⟨#[47,126]⟩:ByteArray)=T:=⟨_,rfl⟩
        obtain ⟨T1,hT1⟩:∃ T:ByteArray,S++(⟨#[47,126,50]⟩:ByteArray)=T:=⟨_,rfl⟩
        have HP3:=Lib.hid (show T3.data.toList=97::S.data.toList by rw [← hT3,app_list];rfl)
        have HP0:=Lib.hid (show T0.data.toList=S.data.toList++[47,126] by rw [← hT0,app_list])
        have HP1:=Lib.hid (show T1.data.toList=S.data.toList++[47,126,50] by rw [← hT1,app_list])
        have HT3:=Lib.hid hT3
        have HT0:=Lib.hid hT0
        have HT1:=Lib.hid hT1
        have HSZ:=Lib.hid (Lib.size_eq S)
        clear hv hvd hbw hln20 hT3 hT0 hT1
        have hj4:how % 4=0∨how % 4=1∨how % 4=2∨how % 4=3:=by omega
        go_wp2_with fail
        rw [HT3.out]
        refine (KPL.out _).mono ?_
        rintro r w0 ⟨rfl,rfl⟩
        rcases hj4 with hj | hj | hj | hj
        · have HPE:=Lib.hid (show parsePt (textP (ldat l)++[47,126])=.inr 2 from parse_til0 _)
          have HPQ:=Lib.hid (show T0.data.toList=textP (ldat l)++[47,126] by rw [HP0.out,HSL.out])
          have KP:=Lib.hid (parseP_any T0 _ (HUT.out _ HBW.out) (HML.out _ HBW.out) (by rw [size_len T0 _ HP0.out];have:=HSZ.out;simp;omega))
          rw [HPQ.out] at KP
          go_wp2_with fail
          rw [HT0.out]
          refine KP.out.mono ?_
          intro r w5 hp
          rcases hp with ⟨x,h1,rfl,h3⟩ | ⟨p,_,_,h1,_⟩
          case inr=>rw [HPE.out] at h1;cases h1
          rw [HPE.out] at h1
          obtain rfl:x=2:=(Sum.inr.inj h1).symm
          have HB5:=Lib.hid (HBW.out.trans (h3.mono HBW.out.size))
          clear h1 h3 KP
          go_wp2_with fail
          refine (KN.out _).mono ?_
          rintro r w6 ⟨rfl,h6⟩
          have HB6:=Lib.hid (HB5.out.trans (h6.mono HB5.out.size))
          clear h6
          go_wp2_with fail
          refine (KAW.out _ HB6.out).mono ?_
          rintro r w7 ⟨rfl,h7⟩
          have HF:=Lib.hid (HB6.out.trans (h7.mono HB6.out.size))
          clear h7
          go_wp2
          go_ret
          exact ⟨rfl,HF.out⟩
        · have HPE:=Lib.hid (show parsePt (textP (ldat l)++[47,126,50])=.inr 2 from parse_til1 _)
          have HPQ:=Lib.hid (show T1.data.toList=textP (ldat l)++[47,126,50] by rw [HP1.out,HSL.out])
          have KP:=Lib.hid (parseP_any T1 _ (HUT.out _ HBW.out) (HML.out _ HBW.out) (by rw [size_len T1 _ HP1.out];have:=HSZ.out;simp;omega))
          rw [HPQ.out] at KP
          go_wp2_with fail
          rw [HT1.out]
          refine KP.out.mono ?_
          intro r w5 hp
          rcases hp with ⟨x,h1,rfl,h3⟩ | ⟨p,_,_,h1,_⟩
          case inr=>rw [HPE.out] at h1;cases h1
          rw [HPE.out] at h1
          obtain rfl:x=2:=(Sum.inr.inj h1).symm
          have HB5:=Lib.hid (HBW.out.trans (h3.mono HBW.out.size))
          clear h1 h3 KP
          go_wp2_with fail
          refine (KN.out _).mono ?_
          rintro r w6 ⟨rfl,h6⟩
          have HB6:=Lib.hid (HB5.out.trans (h6.mono HB5.out.size))
          clear h6
          go_wp2_with fail
          refine (KAW.out _ HB6.out).mono ?_
          rintro r w7 ⟨rfl,h7⟩
          have HF:=Lib.hid (HB6.out.trans (h7.mono HB6.out.size))
          clear h7
          go_wp2
          go_ret
          exact ⟨rfl,HF.out⟩
        · have HST:=Lib.hid (show ApG S j w0 (64 - j) (.string T3) (.int .i64 (j:Int)) w0 from ⟨j,T3,Nat.le_refl _,by omega,by omega,rfl,rfl,by rw [HP3.out];simp,rfl⟩)
          go_wp2
          go_loopg [9,11] (64 - j) (fun k t i wr=>ApG S j w0 k t i wr)
          case atStart=>exact HST.out
          case round =>
            obtain ⟨q,T,hq1,hq2,hqk,rfl,rfl,hTl,rfl⟩:=hrel
            have hTs:T.size≤200000:=by rw [size_len T _ hTl];have:=HSZ.out;simp;omega
            by_cases hq:q≤63
            · obtain ⟨k,rfl⟩:∃ k,gk=k+1:=⟨gk - 1,by omega⟩
              have hqz:(q:Int)≤63:=by omega
              have hz5:¬ 9223372036854775807<T.size+1:=by omega
              obtain ⟨T',hT'⟩:∃ T':ByteArray,T++(⟨#[47]⟩:ByteArray)=T':=⟨_,rfl⟩
              have HN:=Lib.hid (show ApG S j wr k (.string T') (.int .i64 ((q:Int)+1)) wr from ⟨q+1,T',by omega,by omega,by omega,rfl,rfl,by
                rw [← hT',app_list,hTl,show q+1 - j=(q - j)+1 by omega,List.replicate_succ']
                simp,rfl⟩)
              have HTT:=Lib.hid hT'
              clear hTl hT'
              go_wp2
              rw [HTT.out]
              go_roundg k
              case rel=>exact HN.out
              case measure=>omega
            · obtain rfl:q=64:=by omega
              have hqz:¬ (64:Int)≤63:=by omega
              have hTn:1≤T.size:=by rw [size_len T _ hTl];simp
              have hx1:(0:Int)≤1∧(1:Int)≤(T.size:Int):=by omega
              obtain ⟨T2,hT2⟩:∃ T2:ByteArray,T.extract 1 T.size=T2:=⟨_,rfl⟩
              have HPE:=Lib.hid (show parsePt (textP (ldat l)++List.replicate (64 - j) 47)=.inr 4 from by have:=parse_many HVD.out (by rw [HLD.out];omega);rw [HLD.out] at this;exact this)
              have HPQ:=Lib.hid (show T2.data.toList=textP (ldat l)++List.replicate (64 - j) 47 by rw [← hT2,Lib.extract_to_end,hTl,HSL.out];rfl)
              have HT2:=Lib.hid hT2
              have hTS2:T2.size≤200000:=by rw [← hT2];simp;omega
              clear hTl hT2
              have KP:=Lib.hid (parseP_any T2 _ (HUT.out _ HBW.out) (HML.out _ HBW.out) (by omega))
              rw [HPQ.out] at KP
              go_wp2_with fail
              rw [HT2.out]
              refine KP.out.mono ?_
              intro r w5 hp
              rcases hp with ⟨x,h1,rfl,h3⟩ | ⟨p,_,_,h1,_⟩
              case inr=>rw [HPE.out] at h1;cases h1
              rw [HPE.out] at h1
              obtain rfl:x=4:=(Sum.inr.inj h1).symm
              have HB5:=Lib.hid (HBW.out.trans (h3.mono HBW.out.size))
              clear h1 h3 KP
              go_wp2_with fail
              refine (KN.out _).mono ?_
              rintro r w6 ⟨rfl,h6⟩
              have HB6:=Lib.hid (HB5.out.trans (h6.mono HB5.out.size))
              clear h6
              go_wp2_with fail
              refine (KAW.out _ HB6.out).mono ?_
              rintro r w7 ⟨rfl,h7⟩
              have HF:=Lib.hid (HB6.out.trans (h7.mono HB6.out.size))
              clear h7
              go_wp2
              go_ret
              exact ⟨rfl,HF.out⟩
        · have HPE:=Lib.hid (show parsePt (97::S.data.toList)=.inr 2 from parse_a _)
          have HPQ:=Lib.hid (show T3.data.toList=97::S.data.toList by rw [HP3.out])
          have KP:=Lib.hid (parseP_any T3 _ (HUT.out _ HBW.out) (HML.out _ HBW.out) (by rw [size_len T3 _ HP3.out];have:=HSZ.out;simp;omega))
          rw [HPQ.out] at KP
          go_wp2_with fail
          refine KP.out.mono ?_
          intro r w5 hp
          rcases hp with ⟨x,h1,rfl,h3⟩ | ⟨p,_,_,h1,_⟩
          case inr=>rw [HPE.out] at h1;cases h1
          rw [HPE.out] at h1
          obtain rfl:x=2:=(Sum.inr.inj h1).symm
          have HB5:=Lib.hid (HBW.out.trans (h3.mono HBW.out.size))
          clear h1 h3 KP
          go_wp2_with fail
          refine (KN.out _).mono ?_
          rintro r w6 ⟨rfl,h6⟩
          have HB6:=Lib.hid (HB5.out.trans (h6.mono HB5.out.size))
          clear h6
          go_wp2_with fail
          refine (KAW.out _ HB6.out).mono ?_
          rintro r w7 ⟨rfl,h7⟩
          have HF:=Lib.hid (HB6.out.trans (h7.mono HB6.out.size))
          clear h7
          go_wp2
          go_ret
          exact ⟨rfl,HF.out⟩
end Go.Proofs.YtapicpdfdjofaaaDoor
