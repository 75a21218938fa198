/- Texts of the claim. -/
import Derived.Test.YtijaphbccnadbaaGreatDoorUw
import Derived.Test.YtijaphbccnadbaaGreatDoorUf
import Derived.Deep.LoopGhost
import Derived.Deep.DeepCutAuto
set_option linter.unusedVariables false
set_option linter.unusedSimpArgs false
set_option maxHeartbeats 16000000
set_option maxRecDepth 100000
namespace Go.Proofs.YtijaphbccnadbaaGreatDoor
open Go.RowKit Go.Sort
open Go.RowKit Go.Sort
open Go.RowKit Go.Sort
theorem setCell_self {w:World} {g j:Nat} {v:Value} (h:w.cell? ⟨g,j,none⟩=some v):w.setCell ⟨g,j,none⟩ v=w:=by
  have e:(w.setCell ⟨g,j,none⟩ v).heap=w.heap:=by
    apply Array.ext_getElem?
    intro k
    simp only [World.setCell,Array.getElem?_modify]
    by_cases hk:g=k
    · subst hk
      rw [if_pos rfl]
      unfold World.cell? at h
      cases hh:w.heap[g]? with
      | none=>rfl
      | some o =>
        cases o with
        | cells c t f =>
          simp only [hh] at h
          have h2:c[j]? = some v:=by simpa using h
          obtain ⟨h3,h4⟩:=Array.getElem?_eq_some_iff.1 h2
          have h5:c.setIfInBounds j v=c:=by
            apply Array.ext_getElem?
            intro i
            rw [Array.getElem?_setIfInBounds]
            split
            · rename_i hij;subst hij;first | exact h2.symm | (rw [if_pos h3];exact h2.symm)
            · rfl
          simp [h5]
        | _=>rfl
    · rw [if_neg hk]
  show ({ w with heap:=(w.setCell ⟨g,j,none⟩ v).heap }:World)=w
  rw [e]
theorem txt_nil:txt []=({ data:=#[] }:ByteArray):=rfl
theorem txt_at (l:List Nat) (ho:Okb l) (k:Nat) (h:k<(txt l).size):(txt l)[k].toNat=l.getD k 0:=by
  have hk:k<l.length:=by rw [txt_size] at h;exact h
  have hb:=ho l[k] (List.getElem_mem hk)
  have e:(txt l)[k]=UInt8.ofNat l[k]:=by simp [txt,ByteArray.getElem_eq_getElem_data]
  rw [e]
  simp [List.getD,hk]
  omega
theorem txt_toList (l:List Nat):(txt l).toList=l.map UInt8.ofNat:=by simp [ByteArray.toList_eq,txt]
theorem txt_cons_ne (x:Nat) (l:List Nat):¬ (txt (x::l)).toList=[]:=by rw [txt_toList];simp
theorem txt_cons_emp (x:Nat) (l:List Nat):(txt (x::l)).toList.isEmpty=false:=by rw [txt_toList];rfl
def TakeGives (g:Nat) (l:List Nat) (c:Nat) (w:World) (e:Ending) (w':World):Prop:=e=.returned (.bool (takes l c))∧w'=w.setCell ⟨g,0,none⟩ (.string (txt (rest l c)))
theorem take_any (g:Nat) (l:List Nat) (c:Nat) (w:World) (ho:Okb l) (hl:l.length≤100000) (hc:c<256) (hcell:w.cell? ⟨g,0,none⟩=some (.string (txt l))) (hfz:w.frozen? ⟨g,0,none⟩=false) :
    Calls Tryz.prog 156 #[.pointer (some ⟨g,0,none⟩),.int .u8 (c:Int)] w (TakeGives g l c w):=by
  cases l with
  | nil =>
    have hs:=Lib.hid (setCell_self hcell)
    have HR:Hid (rest [] c=[]):=rfl
    have HT:Hid (takes [] c=false):=rfl
    rw [txt_nil] at hcell
    go_enter Tryz.func156,Tryz.ntmps156
    go_wp2
    go_ret
    exact ⟨by rw [HT.out];rfl,by rw [HR.out];exact hs.out.symm⟩
  | cons x l' =>
    have hx:=ho x (by simp)
    have hsz:(txt (x::l')).size=l'.length+1:=by rw [txt_size];rfl
    have h0:0<(txt (x::l')).size:=by rw [hsz];omega
    have hat:(txt (x::l'))[0].toNat=x:=by rw [txt_at _ ho 0 h0];rfl
    have hne:=txt_cons_ne x l'
    have hemp:=txt_cons_emp x l'
    have hdrop:(txt (x::l')).extract 1 (txt (x::l')).size=txt l':=txt_drop (x::l') 1
    have hself:=Lib.hid (setCell_self hcell)
    have hll:l'.length≤100000:=by simp at hl;omega
    have HTK:=Lib.hid (takes_cons x l' c)
    generalize hs:txt (x::l')=s at *
    have HD:=Lib.hid hdrop;clear hdrop
    by_cases hxc:x=c
    · have HR:Hid (rest (x::l') c=l'):=by
        show _=_
        unfold rest;rw [HTK.out,decide_eq_true hxc];rfl
      have HT:Hid (takes (x::l') c=true):=by rw [HTK.out];exact decide_eq_true hxc
      have HA:=Lib.hid hat
      subst hxc
      go_enter Tryz.func156,Tryz.ntmps156
      go_wp2
      go_ret
      rw [hsz] at HD
      exact ⟨by rw [HT.out];rfl,by rw [HR.out,HD.out]⟩
    · have HR:Hid (rest (x::l') c=x::l'):=by
        show _=_
        unfold rest;rw [HTK.out,decide_eq_false hxc];rfl
      have HT:Hid (takes (x::l') c=false):=by rw [HTK.out];exact decide_eq_false hxc
      have hne2:((x:Int) != (c:Int))=true:=by rw [bne_iff_ne];omega
      have hne3:((x:Int) == (c:Int))=false:=by rw [beq_eq_false_iff_ne];omega
      have hss:=Lib.hid hs;clear hs
      go_enter Tryz.func156,Tryz.ntmps156
      go_wp2
      go_ret
      exact ⟨by rw [HT.out];rfl,by rw [HR.out,hss.out];exact hself.out.symm⟩
def Throws (n:Int) (w:World) (e:Ending) (w':World):Prop:=e=.panicked [{ v:=.iface 31 (.int .i64 n),recovered:=false }]∧w'=w
def DigsGives (g:Nat) (l:List Nat) (w:World) (e:Ending) (w':World):Prop:=e=.returned (.string (txt (digs l)))∧w'=w.setCell ⟨g,0,none⟩ (.string (txt (undigs l)))
theorem digs_at {l:List Nat} {k:Nat} (h:k<(digs l).length):48≤l.getD k 0∧l.getD k 0≤57∧k<l.length:=by
  have h1:=digs_len l
  have h2:=digs_ok l (digs l)[k] (List.getElem_mem h)
  have e:(digs l)[k]=l[k]'(by omega):=by
    have:=(List.takeWhile_prefix isd (l:=l))
    exact this.getElem h
  rw [e] at h2
  have e2:l.getD k 0=l[k]'(by omega):=by simp [List.getD,show k<l.length by omega]
  rw [e2]
  exact ⟨h2.1,h2.2,by omega⟩
theorem digs_end {l:List Nat} (h:(digs l).length<l.length):¬ (48≤l.getD (digs l).length 0∧l.getD (digs l).length 0≤57):=by
  induction l with
  | nil=>simp at h
  | cons x l ih =>
    unfold digs at h ⊢
    rw [List.takeWhile_cons] at h ⊢
    by_cases hx:isd x=true
    · rw [if_pos hx] at h ⊢
      simp only [List.length_cons] at h ⊢
      have:=ih (by unfold digs;omega)
      simpa [digs] using this
    · rw [if_neg hx]
      simpa [isd] using hx
theorem digs_split (l:List Nat):l.take (digs l).length=digs l∧l.drop (digs l).length=undigs l:=by
  have e:digs l++undigs l=l:=List.takeWhile_append_dropWhile
  generalize digs l=a at *
  generalize undigs l=b at *
  subst e
  exact ⟨List.take_left,List.drop_left⟩
theorem digs_nil {l:List Nat} (h:(digs l).length=0):digs l=[]:=List.eq_nil_of_length_eq_zero h
def DigsPost (g:Nat) (l:List Nat) (w:World) (e:Ending) (w':World):Prop:=(digs l=[]∧Throws 2 w e w')∨(digs l ≠ []∧DigsGives g l w e w')
def DLoop (D:Nat) (w:World) (k:Nat) (i:Value) (wr:World):Prop:=k≤D∧i=.int .i64 ((D - k:Nat):Int)∧wr=w
theorem ten_cases {x:Nat} (h1:48≤x) (h2:x≤57):x=48∨x=49∨x=50∨x=51∨x=52∨x=53∨x=54∨x=55∨x=56∨x=57:=by omega
theorem digits_any2 (g:Nat) (l:List Nat) (w:World) (ho:Okb l) (hl:l.length≤100000) (hcell:w.cell? ⟨g,0,none⟩=some (.string (txt l))) (hfz:w.frozen? ⟨g,0,none⟩=false) :
    Calls Tryz.prog 157 #[.pointer (some ⟨g,0,none⟩)] w (DigsPost g l w):=by
  have hsz:(txt l).size=l.length:=txt_size l
  have hDl:=digs_len l
  have HEND:=Lib.hid (@digs_end l)
  have HAT:=Lib.hid (txt_at l ho)
  have HDA:=Lib.hid (fun k=>@digs_at l k)
  have HT1:=Lib.hid ((txt_take l (digs l).length hDl).trans (congrArg txt (digs_split l).1))
  have HT2:=Lib.hid ((txt_drop l (digs l).length).trans (congrArg txt (digs_split l).2))
  have HND:=Lib.hid (@digs_nil l)
  have HN2:Hid (digs l=[]→(digs l).length=0):=fun h=>by rw [h];rfl
  rw [hsz] at HT2
  have HOB:=Lib.hid ho;clear ho
  generalize hD:(digs l).length=D at *
  generalize hL:l.length=n at *
  have HDD:=Lib.hid hD;clear hD
  have HLL:=Lib.hid hL;clear hL
  have HSZ:=Lib.hid hsz
  go_enter Tryz.func157,Tryz.ntmps157
  go_wp2
  go_step3
  go_wp2
  go_step3
  go_wp2
  go_loopg [3] D (fun k i wr=>DLoop D w k i wr)
  case atStart=>exact ⟨Nat.le_refl _,by rw [Nat.sub_self];rfl,rfl⟩
  case round =>
    obtain ⟨hk,rfl,rfl⟩:=hrel
    rcases gk with _ | m
    · rw [Nat.sub_zero]
      by_cases hend:D<n
      · have hlt:(D:Int)<(n:Int):=by omega
        have h0:D<(txt l).size:=by rw [hsz];exact hend
        have hx:=HAT.out D h0
        have hb:=HOB.out.getD D
        have hn:=HEND.out hend
        generalize hs:txt l=s at *
        generalize l.getD D 0=x at *
        have h48:((x:Int) == 48)=false:=by rw [beq_eq_false_iff_ne];omega
        have h49:((x:Int) == 49)=false:=by rw [beq_eq_false_iff_ne];omega
        have h50:((x:Int) == 50)=false:=by rw [beq_eq_false_iff_ne];omega
        have h51:((x:Int) == 51)=false:=by rw [beq_eq_false_iff_ne];omega
        have h52:((x:Int) == 52)=false:=by rw [beq_eq_false_iff_ne];omega
        have h53:((x:Int) == 53)=false:=by rw [beq_eq_false_iff_ne];omega
        have h54:((x:Int) == 54)=false:=by rw [beq_eq_false_iff_ne];omega
        have h55:((x:Int) == 55)=false:=by rw [beq_eq_false_iff_ne];omega
        have h56:((x:Int) == 56)=false:=by rw [beq_eq_false_iff_ne];omega
        have h57:((x:Int) == 57)=false:=by rw [beq_eq_false_iff_ne];omega
        clear hn
        have HSS:=Lib.hid hs;clear hs
        by_cases hD0:D=0
        · have HD0:=Lib.hid (HND.out hD0)
          subst hD0
          go_wp2
          exact ⟨rfl,.inl ⟨HD0.out,rfl,rfl⟩⟩
        · have HD0:=Lib.hid (fun h=>hD0 (HN2.out h))
          have hDb:((D:Int) == 0)=false:=by rw [beq_eq_false_iff_ne];omega
          go_wp2
          try rw [Exit.noGoto_ret]
          go_ret
          exact .inr ⟨HD0.out,rets (by rw [← HT1.out];try rfl),by rw [← HT2.out];first | done | rfl | simp⟩
      · have hlt:¬ ((D:Int)<(n:Int)):=by omega
        obtain rfl:D=n:=by omega
        generalize hs:txt l=s at *
        have HSS:=Lib.hid hs;clear hs
        by_cases hD0:D=0
        · have HD0:=Lib.hid (HND.out hD0)
          subst hD0
          go_wp2
          exact ⟨rfl,.inl ⟨HD0.out,rfl,rfl⟩⟩
        · have HD0:=Lib.hid (fun h=>hD0 (HN2.out h))
          have hDb:((D:Int) == 0)=false:=by rw [beq_eq_false_iff_ne];omega
          go_wp2
          try rw [Exit.noGoto_ret]
          go_ret
          exact .inr ⟨HD0.out,rets (by rw [← HT1.out];try rfl),by rw [← HT2.out];first | done | rfl | simp⟩
    · have hlt:((D - (m+1):Nat):Int)<(n:Int):=by omega
      obtain ⟨d1,d2,d3⟩:=HDA.out (D - (m+1)) (by omega)
      have h0:D - (m+1)<(txt l).size:=by rw [hsz];omega
      have hx:=HAT.out (D - (m+1)) h0
      have hnx:((D - (m+1):Nat):Int)+1=((D - m:Nat):Int):=by omega
      have HNX:=Lib.hid hnx;clear hnx
      have hbig:D - (m+1)≤100000:=by omega
      have HM:Hid (m≤D):=by show m≤D;omega
      generalize D - (m+1)=q at *
      generalize hs:txt l=s at *
      have HSS:=Lib.hid hs;clear hs
      generalize l.getD q 0=x at *
      have hcs:=ten_cases d1 d2
      clear d1 d2
      rcases hcs with rfl | rfl | rfl | rfl | rfl | rfl | rfl | rfl | rfl | rfl
      all_goals
        go_wp2
        go_roundg m
        case measure=>omega
        case rel=>exact ⟨HM.out,by rw [← HNX.out],rfl⟩
def PtV (p:Pt):Value:=.agg #[.bool p.neg,.string (txt p.whole),.string (txt p.frac),.bool p.down,.string (txt p.exp)]
def ReadPost (l:List Nat) (w:World) (e:Ending) (w':World):Prop :=
  (readL l=none∧e=.panicked [{ v:=.iface 31 (.int .i64 2),recovered:=false }]∧Below w.heap.size w w')∨(∃ p,readL l=some p∧e=.returned (PtV p)∧Below w.heap.size w w')
theorem okb_rest {l:List Nat} (h:Okb l) (c:Nat):Okb (rest l c):=by
  unfold rest;split
  · exact fun x hx=>h x (List.mem_of_mem_tail hx)
  · exact h
theorem okb_undigs {l:List Nat} (h:Okb l):Okb (undigs l):=fun x hx=>h x ((List.dropWhile_sublist isd).subset hx)
theorem third_cell (w:World) (o1 o2:Obj) (c:Array Value) (t:TypeId) (i:Nat):(((w.alloc o1).alloc o2).alloc (.cells c t)).cell? ⟨w.heap.size+1+1,i,none⟩=c[i]?:=by
  have:=World.cell?_alloc_new ((w.alloc o1).alloc o2) c t i
  simpa using this
theorem third_free (w:World) (o1 o2:Obj) (c:Array Value) (t:TypeId) (i:Nat):(((w.alloc o1).alloc o2).alloc (.cells c t)).frozen? ⟨w.heap.size+1+1,i,none⟩=false:=by
  have h:(((w.alloc o1).alloc o2).alloc (.cells c t)).heap[w.heap.size+1+1]? = some (.cells c t):=by
    have:=heap_alloc_new ((w.alloc o1).alloc o2) (.cells c t)
    simpa using this
  unfold World.frozen?
  simp only [h]
  simp
theorem below_read (w:World) (a b c:Array Value):Below w.heap.size w (((w.alloc (.cells a 138)).alloc (.cells b 138)).alloc (.cells c 172)) :=
  (((Below.refl _ _).alloc (Nat.le_refl _) _).alloc (by simp) _).alloc (by simp <;> omega) _
theorem readL_bad {l:List Nat} (h:wholeBad (digs (rest l 45))):readL l=none:=by unfold readL;rw [if_pos h]
theorem readL_frac {l:List Nat} (h:¬ wholeBad (digs (rest l 45))) (h2:fracL (undigs (rest l 45))=none):readL l=none:=by unfold readL;rw [if_neg h,h2]
theorem readL_exp {l:List Nat} {f l3:List Nat} (h:¬ wholeBad (digs (rest l 45))) (h2:fracL (undigs (rest l 45))=some (f,l3)) (h3:expL l3=none):readL l=none:=by unfold readL;rw [if_neg h,h2];simp only;rw [h3]
theorem readL_left {l:List Nat} {f l3:List Nat} {d:Bool} {x l4:List Nat} (h:¬ wholeBad (digs (rest l 45))) (h2:fracL (undigs (rest l 45))=some (f,l3)) (h3:expL l3=some (d,x,l4)) (h4:l4 ≠ []):readL l=none:=by
  unfold readL;rw [if_neg h,h2];simp only;rw [h3];simp only;rw [if_neg h4]
theorem readL_ok {l:List Nat} {f l3:List Nat} {d:Bool} {x:List Nat} (h:¬ wholeBad (digs (rest l 45))) (h2:fracL (undigs (rest l 45))=some (f,l3)) (h3:expL l3=some (d,x,[])):readL l=some ⟨takes l 45,digs (rest l 45),f,d,x⟩:=by
  unfold readL;rw [if_neg h,h2];simp only;rw [h3];simp
def FracCut (w : World) (ng : Bool) (D l2 : List Nat) (wx : World) : Prop :=
  ∃ f l3, fracL l2 = some (f, l3) ∧ Okb l3 ∧ l3.length ≤ l2.length ∧ Okd f ∧ f.length ≤ l2.length ∧
    wx = (((w.alloc (.cells #[.bool false, .string { data := #[] }, .string { data := #[] }, .bool false, .string { data := #[] }] 138)).alloc (.cells #[.bool ng, .string (txt D), .string (txt f), .bool false, .string { data := #[] }] 138)).alloc (.cells #[.string (txt l3)] 172))
def hasE (l:List Nat):Bool:=takes l 101 || takes l 69
def ECut (w : World) (ng : Bool) (D f l3 : List Nat) (s : Value) (wx : World) : Prop :=
  s = .bool (hasE l3) ∧
    wx = (((w.alloc (.cells #[.bool false, .string { data := #[] }, .string { data := #[] }, .bool false, .string { data := #[] }] 138)).alloc (.cells #[.bool ng, .string (txt D), .string (txt f), .bool false, .string { data := #[] }] 138)).alloc (.cells #[.string (txt (if hasE l3 = true then l3.tail else l3))] 172))
def ExpCut (w : World) (ng : Bool) (D f l3 : List Nat) (wx : World) : Prop :=
  ∃ d x l4, expL l3 = some (d, x, l4) ∧ Okb l4 ∧ l4.length ≤ l3.length ∧ Okd x ∧ x.length ≤ l3.length ∧
    wx = (((w.alloc (.cells #[.bool false, .string { data := #[] }, .string { data := #[] }, .bool false, .string { data := #[] }] 138)).alloc (.cells #[.bool ng, .string (txt D), .string (txt f), .bool d, .string (txt x)] 138)).alloc (.cells #[.string (txt l4)] 172))
theorem hasE_iff (l:List Nat):(takes l 101=true∨takes l 69=true) ↔ hasE l=true:=by unfold hasE;simp
theorem expL_yes {l:List Nat} (h:hasE l=true):expL l=if digs (signL l.tail)=[] then none else some (takes l.tail 45,digs (signL l.tail),undigs (signL l.tail)):=by unfold expL;rw [if_pos ((hasE_iff l).2 h)]
theorem expL_no {l:List Nat} (h:hasE l=false):expL l=some (false,[],l):=by unfold expL;rw [if_neg (fun h1=>by rw [(hasE_iff l).1 h1] at h;cases h)]
theorem okb_sign {l:List Nat} (h:Okb l):Okb (signL l):=by
  unfold signL;split
  · exact fun x hx=>h x (List.mem_of_mem_tail hx)
  · exact okb_rest h _
theorem sign_len (l:List Nat):(signL l).length≤l.length:=by
  unfold signL;split
  · simp
  · exact rest_len _ _
theorem read_any (l:List Nat) (w:World) (ho:Okb l) (hl:l.length≤2000) :
    Calls Tryz.prog 118 #[.string (txt l)] w (ReadPost l w):=by
  have ho1:=okb_rest ho 45
  have ho2:=okb_undigs ho1
  have hl1:=rest_len l 45
  have hl2:=undigs_len (rest l 45)
  have hld:=digs_len (rest l 45)
  have hod:=digs_ok (rest l 45)
  have R1:=Lib.hid (fun h=>@readL_bad l h)
  have R2:=Lib.hid (fun h h2=>@readL_frac l h h2)
  have R3:=Lib.hid (fun f l3 h h2 h3=>@readL_exp l f l3 h h2 h3)
  have R4:=Lib.hid (fun f l3 d x l4 h h2 h3 h4=>@readL_left l f l3 d x l4 h h2 h3 h4)
  have R5:=Lib.hid (fun f l3 d x h h2 h3=>@readL_ok l f l3 d x h h2 h3)
  go_enter Tryz.func118,Tryz.ntmps118
  go_wp2_with fail
  refine (take_any (w.heap.size+1+1) l 45 _ ho (by omega) (by omega) (third_cell _ _ _ _ _ _) (third_free _ _ _ _ _ _)).mono ?_
  rintro r w' ⟨rfl,rfl⟩
  go_wp2_with fail
  refine (digits_any2 (w.heap.size+1+1) (rest l 45) _ ho1 (by omega) (third_cell _ _ _ _ _ _) (third_free _ _ _ _ _ _)).mono ?_
  generalize takes l 45=ng at *
  generalize rest l 45=l1 at *
  rintro r w' (⟨h0,rfl,rfl⟩ | ⟨h0,rfl,rfl⟩)
  · go_wp2
    exact ⟨rfl,.inl ⟨R1.out (.inl h0),rfl,below_read _ _ _ _⟩⟩
  · have hsd:(txt (digs l1)).size=(digs l1).length:=txt_size _
    have hdp:0<(digs l1).length:=by
      rcases Nat.eq_zero_or_pos (digs l1).length with h | h
      · exact absurd (List.eq_nil_of_length_eq_zero h) h0
      · exact h
    have H0:=Lib.hid h0;clear h0
    have hat:=txt_at (digs l1) hod.b 0 (by rw [hsd];exact hdp)
    have hpd:0<(txt (digs l1)).size:=by rw [hsd];exact hdp
    have hhd:(digs l1).head? = some ((digs l1).getD 0 0):=by
      cases hdd:digs l1 with
      | nil=>rw [hdd] at hdp;simp at hdp
      | cons a b=>rfl
    have hb0:(digs l1).getD 0 0<256:=hod.b.getD 0
    generalize hD:digs l1=D at *
    generalize undigs l1=l2 at *
    generalize D.getD 0 0=d0 at *
    have HH:=Lib.hid hhd;clear hhd
    by_cases hbad:1<D.length∧d0=48
    · obtain ⟨hb1,hb2⟩:=hbad
      have HBAD:=Lib.hid (R1.out (.inr ⟨hb1,by rw [HH.out,hb2]⟩))
      have hb1':(1:Int)<(D.length:Int):=by omega
      subst hb2
      go_wp2
      exact ⟨rfl,.inl ⟨HBAD.out,rfl,below_read _ _ _ _⟩⟩
    · have hgood:¬ wholeBad D:=by
        rintro (h | ⟨h1,h2⟩)
        · exact H0.out h
        · rw [HH.out] at h2;exact hbad ⟨h1,Option.some.inj h2⟩
      have HG:=Lib.hid hgood;clear hgood
      go_upto_region 5 with fail
      go_cut [20] (fun s wx=>s=.bool false∧wx=(((w.alloc (.cells #[.bool false,.string { data:=#[] },.string { data:=#[] },.bool false,.string { data:=#[] }] 138)).alloc (.cells #[.bool ng,.string (txt D),.string { data:=#[] },.bool false,.string { data:=#[] }] 138)).alloc (.cells #[.string (txt l2)] 172)))
      case first =>
        by_cases hlen:1<D.length
        · have hlen':(1:Int)<(D.length:Int):=by omega
          have hd48:((d0:Int) == 48)=false:=by rw [beq_eq_false_iff_ne];omega
          go_wp2_with fail
          go_meet
          exact ⟨rfl,rfl⟩
        · have hlen':¬ (1:Int)<(D.length:Int):=by omega
          go_wp2_with fail
          go_meet
          exact ⟨rfl,rfl⟩
      case rest =>
        obtain ⟨rfl,rfl⟩:=hcut
        clear hbad hat hb0 HH hpd
        have KT2:=Lib.hid (fun W h1 h2=>take_any (w.heap.size+1+1) l2 46 W ho2 (by omega) (by omega) h1 h2)
        go_upto_if 22 with (first | (go_at_call 156;refine (KT2.out _ (third_cell _ _ _ _ _ _) (third_free _ _ _ _ _ _)).mono ?_;rintro r w' ⟨rfl,rfl⟩))
        go_cut [] (fun wx=>FracCut w ng D l2 wx)
        case first =>
          by_cases hp:takes l2 46=true
          · obtain ⟨l2',rfl⟩:=takes_true hp
            have hrs:rest (46::l2') 46=l2':=by unfold rest;rw [hp];rfl
            have ho3:Okb l2':=fun x hx=>ho2 x (by simp [hx])
            have hlt:l2'.length≤2000:=by simp at hl2;omega
            rw [hrs,hp]
            have KD:=Lib.hid (fun W h1 h2=>digits_any2 (w.heap.size+1+1) l2' W ho3 (by omega) h1 h2)
            have HF:Hid (fracL (46::l2')=if digs l2'=[] then none else some (digs l2',undigs l2')):=by show _=_;unfold fracL;rw [if_pos hp];rfl
            go_wp2_with fail
            refine (KD.out _ (third_cell _ _ _ _ _ _) (third_free _ _ _ _ _ _)).mono ?_
            rintro r w' (⟨h0,rfl,rfl⟩ | ⟨h0,rfl,rfl⟩)
            · go_wp2
              exact ⟨rfl,.inl ⟨R2.out HG.out (by rw [HF.out,if_pos h0]),rfl,below_read _ _ _ _⟩⟩
            · have HFF:=Lib.hid (HF.out.trans (if_neg h0))
              clear h0
              go_wp2
              go_meet
              exact ⟨digs l2',undigs l2',HFF.out,okb_undigs ho3,by have:=undigs_len l2';simp;omega,digs_ok _,by have:=digs_len l2';simp;omega,rfl⟩
          · have hp':takes l2 46=false:=by simpa using hp
            have hrs:rest l2 46=l2:=by unfold rest;rw [if_neg hp]
            have HF:Hid (fracL l2=some ([],l2)):=by show _=_;unfold fracL;rw [if_neg hp]
            rw [hrs,hp']
            go_wp2
            go_meet
            exact ⟨[],l2,HF.out,ho2,Nat.le_refl _,Okd.nil,by simp,rfl⟩
        case rest =>
          obtain ⟨f,l3,hfr,ho3,hl3,hof,hlf,rfl⟩:=hcut
          have hfl:f.length≤2000:=by omega
          have hl3b:l3.length≤2000:=by omega
          have HFR:=Lib.hid hfr;clear hfr KT2
          have KE1:=Lib.hid (fun W h1 h2=>take_any (w.heap.size+1+1) l3 101 W ho3 (by omega) (by omega) h1 h2)
          have KE2:=Lib.hid (fun W h1 h2=>take_any (w.heap.size+1+1) l3 69 W ho3 (by omega) (by omega) h1 h2)
          go_upto_region 9 with fail
          go_cut [28] (fun s wx=>ECut w ng D f l3 s wx)
          case first =>
            by_cases hp:takes l3 101=true
            · have hrs:rest l3 101=l3.tail:=by unfold rest;rw [if_pos hp]
              have HH1:Hid (hasE l3=true):=by show _=_;unfold hasE;rw [hp];rfl
              go_wp2_with fail
              refine (KE1.out _ (third_cell _ _ _ _ _ _) (third_free _ _ _ _ _ _)).mono ?_
              rintro r w' ⟨rfl,rfl⟩
              rw [hrs,hp]
              go_wp2_with fail
              go_meet
              exact ⟨by rw [HH1.out],by rw [HH1.out];rfl⟩
            · have hp':takes l3 101=false:=by simpa using hp
              have hrs:rest l3 101=l3:=by unfold rest;rw [if_neg hp]
              have HH1:Hid (hasE l3=takes l3 69):=by show _=_;unfold hasE;rw [hp'];rfl
              have HH2:Hid (rest l3 69=if takes l3 69=true then l3.tail else l3):=rfl
              go_wp2_with fail
              refine (KE1.out _ (third_cell _ _ _ _ _ _) (third_free _ _ _ _ _ _)).mono ?_
              rintro r w' ⟨rfl,rfl⟩
              rw [hrs,hp']
              go_wp2_with fail
              refine (KE2.out _ (third_cell _ _ _ _ _ _) (third_free _ _ _ _ _ _)).mono ?_
              rintro r w' ⟨rfl,rfl⟩
              go_wp2_with fail
              go_meet
              exact ⟨by rw [HH1.out],by rw [HH1.out,HH2.out];try rfl⟩
          case rest =>
            obtain ⟨rfl,rfl⟩:=hcut
            clear KE1 KE2
            go_upto_if 28 with fail
            go_cut [] (fun wx=>ExpCut w ng D f l3 wx)
            case first =>
              by_cases hE:hasE l3=true
              · have HX:Hid (expL l3=if digs (signL l3.tail)=[] then none else some (takes l3.tail 45,digs (signL l3.tail),undigs (signL l3.tail))):=expL_yes hE
                rw [hE,if_pos rfl]
                have hot:Okb l3.tail:=fun x hx=>ho3 x (List.mem_of_mem_tail hx)
                have htl:l3.tail.length≤l3.length:=by simp
                generalize l3.tail=t at *
                have KM:=Lib.hid (fun W h1 h2=>take_any (w.heap.size+1+1) t 45 W hot (by omega) (by omega) h1 h2)
                have KP:=Lib.hid (fun W h1 h2=>take_any (w.heap.size+1+1) t 43 W hot (by omega) (by omega) h1 h2)
                have hos:Okb (signL t):=okb_sign hot
                have hsl:(signL t).length≤t.length:=sign_len t
                have KD:=Lib.hid (fun W h1 h2=>digits_any2 (w.heap.size+1+1) (signL t) W hos (by omega) h1 h2)
                by_cases hm:takes t 45=true
                · have HSG:Hid (signL t=rest t 45):=by show _=_;unfold signL rest;rw [if_pos hm,if_pos hm]
                  go_wp2_with fail
                  refine (KM.out _ (third_cell _ _ _ _ _ _) (third_free _ _ _ _ _ _)).mono ?_
                  rintro r w' ⟨rfl,rfl⟩
                  rw [hm,← HSG.out]
                  rw [hm] at HX
                  generalize signL t=sg at *
                  go_wp2_with fail
                  refine (KD.out _ (third_cell _ _ _ _ _ _) (third_free _ _ _ _ _ _)).mono ?_
                  rintro r w' (⟨h0,rfl,rfl⟩ | ⟨h0,rfl,rfl⟩)
                  · go_wp2
                    exact ⟨rfl,.inl ⟨R3.out f l3 HG.out HFR.out (by rw [HX.out,if_pos h0]),rfl,below_read _ _ _ _⟩⟩
                  · have HXX:=Lib.hid (HX.out.trans (if_neg h0))
                    clear h0
                    go_wp2
                    go_meet
                    exact ⟨true,digs sg,undigs sg,HXX.out,okb_undigs hos,by have:=undigs_len sg;omega,digs_ok _,by have:=digs_len sg;omega,rfl⟩
                · have hm':takes t 45=false:=by simpa using hm
                  have hrs:rest t 45=t:=by unfold rest;rw [if_neg hm]
                  have HSG:Hid (signL t=rest t 43):=by show _=_;unfold signL;rw [if_neg hm]
                  go_wp2_with fail
                  refine (KM.out _ (third_cell _ _ _ _ _ _) (third_free _ _ _ _ _ _)).mono ?_
                  rintro r w' ⟨rfl,rfl⟩
                  rw [hm',hrs]
                  rw [hm'] at HX
                  go_wp2_with fail
                  refine (KP.out _ (third_cell _ _ _ _ _ _) (third_free _ _ _ _ _ _)).mono ?_
                  rintro r w' ⟨rfl,rfl⟩
                  rw [← HSG.out]
                  generalize signL t=sg at *
                  go_wp2_with fail
                  refine (KD.out _ (third_cell _ _ _ _ _ _) (third_free _ _ _ _ _ _)).mono ?_
                  rintro r w' (⟨h0,rfl,rfl⟩ | ⟨h0,rfl,rfl⟩)
                  · go_wp2
                    exact ⟨rfl,.inl ⟨R3.out f l3 HG.out HFR.out (by rw [HX.out,if_pos h0]),rfl,below_read _ _ _ _⟩⟩
                  · have HXX:=Lib.hid (HX.out.trans (if_neg h0))
                    clear h0
                    go_wp2
                    go_meet
                    exact ⟨false,digs sg,undigs sg,HXX.out,okb_undigs hos,by have:=undigs_len sg;omega,digs_ok _,by have:=digs_len sg;omega,rfl⟩
              · have hE':hasE l3=false:=by simpa using hE
                have HX:Hid (expL l3=some (false,[],l3)):=expL_no hE'
                rw [hE',if_neg (by decide)]
                go_wp2
                go_meet
                exact ⟨false,[],l3,HX.out,ho3,Nat.le_refl _,Okd.nil,by simp,rfl⟩
            case rest =>
              obtain ⟨d,x,l4,hex,ho4,hl4,hox,hlx,rfl⟩:=hcut
              have HEX:=Lib.hid hex;clear hex
              cases l4 with
              | nil =>
                have HOK:=Lib.hid (R5.out f l3 d x HG.out HFR.out HEX.out)
                rw [txt_nil]
                go_wp2
                exact bodyPost_ret (v:=.agg #[.bool ng,.string (txt D),.string (txt f),.bool d,.string (txt x)]) (by simp [results,Tryz.results118,go_sem,World.cell?_alloc_lt]) rfl (.inr ⟨_,HOK.out,rfl,below_read _ _ _ _⟩)
              | cons y l5 =>
                have HBAD:=Lib.hid (R4.out f l3 d x (y::l5) HG.out HFR.out HEX.out (by simp))
                have hne:=txt_cons_ne y l5
                have hemp:=txt_cons_emp y l5
                generalize txt (y::l5)=s4 at *
                go_wp2
                exact ⟨rfl,.inl ⟨HBAD.out,rfl,below_read _ _ _ _⟩⟩
theorem trim_txt {x:List Nat} (h:Okd x):(⟨(Lib.trimLeftB (txt x).data.toList 48).toArray⟩:ByteArray)=txt (x.dropWhile (· == 48)):=by
  rw [txt_list]
  unfold Lib.trimLeftB
  have e:∀ l:List Nat,Okd l→(l.map UInt8.ofNat).dropWhile (· == 48)=(l.dropWhile (· == 48)).map UInt8.ofNat:=by
    intro l
    induction l with
    | nil=>intro _;rfl
    | cons a l ih =>
      intro ho
      have ha:=ho a (by simp)
      rw [List.map_cons,List.dropWhile_cons,List.dropWhile_cons]
      by_cases h48:a=48
      · subst h48
        simpa using ih ho.tail
      · have h1:(UInt8.ofNat a == 48)=false:=by
          rw [beq_eq_false_iff_ne]
          intro h2
          have:=congrArg UInt8.toNat h2
          rw [UInt8.toNat_ofNat'] at this
          have h3:(48:UInt8).toNat=48:=rfl
          omega
        have h2:(a == 48)=false:=by rw [beq_eq_false_iff_ne];exact h48
        rw [h1,h2];simp
  rw [e x h];rfl
theorem okd_drop {x:List Nat} (h:Okd x):Okd (x.dropWhile (· == 48)):=fun a ha=>h a ((List.dropWhile_sublist _).subset ha)
theorem take_snoc2 (l:List Nat) (k:Nat) (h:k<l.length):hval (l.take (k+1))=10*hval (l.take k)+(l.getD k 0 - 48):=by rw [take_snoc' l k h,hval_snoc]
def boxP (w:World) (p:Pt):World:=w.alloc (.cells #[.bool p.neg,.string (txt p.whole),.string (txt p.frac),.bool p.down,.string (txt p.exp)] 138)
def TensPost (p:Pt) (w:World) (e:Ending) (w':World):Prop:=e=.returned (.int .i64 (expV p))∧w'=boxP w p
theorem ptens_any (p:Pt) (w:World) (hx:Okd p.exp) (h6:(expN p).length≤6) :
    Calls Tryz.prog 160 #[.agg #[.bool p.neg,.string (txt p.whole),.string (txt p.frac),.bool p.down,.string (txt p.exp)]] w (TensPost p w):=by
  have HT:=Lib.hid (trim_txt hx)
  have hod:Okd (expN p):=okd_drop hx
  have HN:Hid (p.exp.dropWhile (· == 48)=expN p):=rfl
  have HV:Hid (expV p=if p.down=true then -(hval (expN p):Int) else (hval (expN p):Int)):=rfl
  have HP:Hid (boxP w p=w.alloc (.cells #[.bool p.neg,.string (txt p.whole),.string (txt p.frac),.bool p.down,.string (txt p.exp)] 138)):=rfl
  unfold TensPost
  generalize hbx:boxP w p=WB at *
  generalize hT:expN p=T at *
  generalize hE:expV p=E at *
  clear hx hT hE
  have hsz:(txt T).size=T.length:=txt_size T
  have HAT:=Lib.hid (txt_at T hod.b)
  have HWB:=Lib.hid hbx;clear hbx
  go_enter Tryz.func160,Tryz.ntmps160
  go_wp2_with fail
  refine (Tryz.strings_TrimLeft_one (txt p.exp) 48 (by decide) _).mono ?_
  rintro r w' ⟨rfl,rfl⟩
  rw [HT.out,HN.out]
  rw [← HP.out]
  go_wp2_with fail
  go_loop [4,15] (fun v i=>∃ (k x:Nat),k≤T.length∧i=.int .i64 (k:Int)∧v=.int .i64 (x:Int)∧x=hval (T.take k)) (fun _ i=>T.length - (intOf i).toNat)
  case atStart=>exact ⟨0,0,Nat.zero_le _,rfl,rfl,rfl⟩
  case round =>
    obtain ⟨k,x,hk,rfl,rfl,hxv⟩:=hrel
    have HX:=Lib.hid hxv;clear hxv
    by_cases hlt:k<T.length
    · have hlt':(k:Int)<(T.length:Int):=by omega
      have hxb:x<1000000:=by
        have h1:=hval_lt (hod.take k)
        rw [← HX.out,List.length_take,Nat.min_eq_left hk] at h1
        have h2:=tenN_le (show k≤6 by omega)
        have h3:tenN 6=1000000:=by decide
        omega
      have h0:k<(txt T).size:=by rw [hsz];exact hlt
      have hat:=HAT.out k h0
      have hok:48≤T.getD k 0∧T.getD k 0≤57:=by
        have:=hod T[k] (List.getElem_mem hlt)
        simpa [List.getD,hlt] using this
      have HS:=Lib.hid (take_snoc2 T k hlt)
      generalize T.getD k 0=y at *
      generalize txt T=s at *
      obtain ⟨hy1,hy2⟩:=hok
      go_wp2
      go_round
      case rel=>exact ⟨k+1,10*x+(y - 48),by omega,by go_num,by first | go_num | (congr 1;omega),by rw [HS.out,HX.out]⟩
      case measure=>simp [intOf];omega
    · obtain rfl:k=T.length:=by omega
      have hlt':¬ ((T.length:Int)<(T.length:Int)):=by omega
      have hxv:=HX.out
      rw [List.take_length] at hxv
      have hxb:x<1000000:=by
        have h1:=hval_lt hod
        rw [← hxv] at h1
        have h2:=tenN_le (show T.length≤6 by omega)
        have h3:tenN 6=1000000:=by decide
        omega
      have HXV:=Lib.hid hxv;clear hxv
      have hcell:WB.cell? ⟨w.heap.size,3,none⟩=some (.bool p.down):=by rw [HP.out];simp
      cases hdn:p.down
      · rw [hdn] at hcell
        have HE:Hid (E=(x:Int)):=by show _=_;rw [HV.out,hdn,HXV.out];rfl
        generalize p.neg=b1 at *
        go_wp2
        go_ret
        exact ⟨by rw [HE.out];rfl,by first | rfl | exact HWB.out | exact HP.out | exact HP.out.symm⟩
      · rw [hdn] at hcell
        have HE:Hid (E = -(x:Int)):=by show _=_;rw [HV.out,hdn,HXV.out];rfl
        go_wp2
        go_ret
        exact ⟨by rw [HE.out];rfl,by first | rfl | exact HWB.out | exact HP.out | exact HP.out.symm⟩
def TensFail (p:Pt) (w:World) (e:Ending) (w':World):Prop:=e=.panicked [{ v:=.iface 31 (.int .i64 4),recovered:=false }]∧w'=boxP w p
theorem ptens_wide (p:Pt) (w:World) (hx:Okd p.exp) (hl:p.exp.length≤100000) (h6:6<(expN p).length) :
    Calls Tryz.prog 160 #[.agg #[.bool p.neg,.string (txt p.whole),.string (txt p.frac),.bool p.down,.string (txt p.exp)]] w (TensFail p w):=by
  have HT:=Lib.hid (trim_txt hx)
  have HN:Hid (p.exp.dropWhile (· == 48)=expN p):=rfl
  have HP:Hid (boxP w p=w.alloc (.cells #[.bool p.neg,.string (txt p.whole),.string (txt p.frac),.bool p.down,.string (txt p.exp)] 138)):=rfl
  unfold TensFail
  have hle:(expN p).length≤100000:=Nat.le_trans (List.dropWhile_sublist _).length_le hl
  generalize boxP w p=WB at *
  generalize expN p=T at *
  have hsz:(txt T).size=T.length:=txt_size T
  have h6':(6:Int)<(T.length:Int):=by omega
  clear hx
  go_enter Tryz.func160,Tryz.ntmps160
  go_wp2_with fail
  refine (Tryz.strings_TrimLeft_one (txt p.exp) 48 (by decide) _).mono ?_
  rintro r w' ⟨rfl,rfl⟩
  rw [HT.out,HN.out]
  rw [← HP.out]
  go_wp2
  exact ⟨rfl,rfl,rfl⟩
end Go.Proofs.YtijaphbccnadbaaGreatDoor
