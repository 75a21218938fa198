/- Texts of the claim. -/
import Derived.Test.YticgggjfmhiilaaDoorLo
import Derived.Lib.AppendIntMem
set_option linter.unusedVariables false
set_option linter.unusedSimpArgs false
set_option maxHeartbeats 16000000
set_option maxRecDepth 100000
namespace Go.Proofs.YticgggjfmhiilaaDoor
open Go.RowKit Go.Shelf
theorem bldP_below {T e:TypeId} {B b:Nat} {bs:List Value} {w w':World} (h:Lib.IsBuilderF T e B b bs w) (hb:Below w.heap.size w w'):Lib.IsBuilderF T e B b bs w':=by
  have key:∀ p,Lib.BuilderAtF T e B b p bs w→Lib.BuilderAtF T e B b p bs w':=by
    intro p h
    have hlt:=h.lt
    obtain ⟨hB,v,hv,hown,hne⟩:=h
    refine ⟨hB,v,by rw [hb.block b hlt];exact hv,⟨hown.1,?_⟩,hne⟩
    rcases hown.2 with h2 | ⟨g,cap,cur,fz,rfl,hB2,hg,rest⟩
    · exact .inl h2
    · refine .inr ⟨g,cap,cur,fz,rfl,hB2,?_,rest⟩
      rw [hb.block g (Array.getElem?_eq_some_iff.1 hg).1];exact hg
  exact h.elim (fun x=>.inl (key _ x)) (fun x=>.inr (key _ x))
def ldat (l:List ByteArray):List (List UInt8):=l.map fun x=>x.data.toList
theorem escPt_len (l:List UInt8):(escPt l).length≤2*l.length:=by
  induction l with
  | nil=>simp [escPt]
  | cons b l ih =>
    rw [esc_cons,List.length_append]
    have:(if b=126 then [126,48] else if b=47 then [126,49] else [b]:List UInt8).length≤2:=by split;simp;split <;> simp
    simp;omega
theorem textP_len (p:List (List UInt8)) (m:Nat) (h:∀ t∈p,t.length≤m):(txtPt p).length≤p.length*(1+2*m):=by
  induction p with
  | nil=>simp [txtPt]
  | cons t p ih =>
    rw [textP_cons,List.length_cons,List.length_append,List.length_cons,Nat.succ_mul]
    have h1:=escPt_len t
    have h2:=h t (by simp)
    have h3:=ih (fun x hx=>h x (by simp [hx]))
    omega
theorem textP_step (l:List ByteArray) (j:Nat) (h:j<l.length):txtPt (ldat (l.take (j+1)))=txtPt (ldat (l.take j))++47::escPt (l.getD j ByteArray.empty).data.toList:=by
  have:l.take (j+1)=l.take j++[l.getD j ByteArray.empty]:=by rw [List.take_add_one];simp [List.getD,h]
  rw [this];unfold ldat;rw [List.map_append,textP_append,List.map_singleton,textP_cons,textP_nil,List.append_nil]
theorem one_len (q:List UInt8):(q.flatMap fun b=>if b=126 then [126,48] else [b]).length≤2*q.length:=by
  induction q with
  | nil=>simp
  | cons b q ih =>
    rw [List.flatMap_cons,List.length_append,List.length_cons]
    have:(if b=126 then [126,48] else [b]:List UInt8).length≤2:=by split <;> simp
    omega
def TxI (l:List ByteArray) (B b n:Nat) (w:World) (k:Nat) (i:Value) (wr:World):Prop :=
  ∃ j:Nat,j≤n∧n - j≤k∧i=.int .i64 (j:Int)∧Lib.IsBuilderF 77 5 B b (Lib.byteCells (txtPt (ldat (l.take j)))) wr∧Below B w wr∧b<wr.heap.size
theorem ptText_any (ad:Option Addr) (n cap:Nat) (l:List ByteArray) (w:World) (hM:ML w) (hl:l.length=n) (hcap:n≤cap) (hn:n≤1000) (hs:∀ x∈l,x.size≤1000000) (hr:RdV w ad (sv l)) :
    Calls Tryd.prog 18 #[.slice ad n cap] w fun e w'=>e=.returned (.string (mkB (txtPt (ldat l))))∧Below w.heap.size w w':=by
  have KR1:=Lib.hid (fun (s:ByteArray) W (h:Below w.heap.size w W) (hs:s.size≤4000000000)=>repAll_any s ⟨#[126]⟩ ⟨#[126,48]⟩ W (hM.below h) hs (by decide) (by decide))
  have KR2:=Lib.hid (fun (s:ByteArray) W (h:Below w.heap.size w W) (hs:s.size≤4000000000)=>repAll_any s ⟨#[47]⟩ ⟨#[126,49]⟩ W (hM.below h) hs (by decide) (by decide))
  have HLEN:=Lib.hid (fun (j:Nat)=>(by
    have h1:=textP_len (ldat (l.take j)) 1000000 (fun t ht=>by
      unfold ldat at ht
      obtain ⟨x,hx,rfl⟩:=List.mem_map.1 ht
      have:=hs x (List.mem_of_mem_take hx)
      rw [← Lib.size_eq];exact this)
    have h2:(ldat (l.take j)).length≤1000:=by simp [ldat];omega
    have h3:=Nat.mul_le_mul_right (1+2*1000000) h2
    omega:(txtPt (ldat (l.take j))).length≤3000000000))
  have HS:=Lib.hid hs
  have HR:=Lib.hid hr
  have HL:=Lib.hid hl
  obtain ⟨w0,hw0⟩:∃ W,w.alloc (.cells #[.pointer none,.slice none 0 0] 77)=W:=⟨_,rfl⟩
  have hb0:Below w.heap.size w w0:=by rw [← hw0];exact (Below.refl _ _).alloc (Nat.le_refl _) _
  have hbf:Lib.IsBuilderF 77 5 w.heap.size w.heap.size (Lib.byteCells []) w0:=by
    refine Lib.IsBuilderF.of (.inl ⟨Nat.le_refl _,.slice none 0 0,?_,World.ownsRow_nil _ _ _ _,by simp [Value.ownBlock]⟩)
    rw [← hw0];exact heap_alloc_new w _
  have HST:=Lib.hid (show TxI l w.heap.size w.heap.size n w n (.int .i64 0) w0 from ⟨0,by omega,by omega,rfl,by simpa [ldat,txtPt] using hbf,hb0,by rw [← hw0];simp⟩)
  have HW:=Lib.hid (show TxI l w.heap.size w.heap.size n w n (.int .i64 0) (w.alloc (.cells #[.pointer none,.slice none 0 0] 77)) by rw [hw0];exact HST.out)
  clear hs hr hl hM hw0 hb0 hbf HST w0
  have HUN:=Lib.hid (fun W (h:Below w.heap.size w W)=>h.size)
  go_enter Tryd.func18,Tryd.ntmps18
  go_wp2
  obtain ⟨B,hB⟩:∃ B,w.heap.size=B:=⟨_,rfl⟩
  have HRW:=Lib.hid (fun W (h:Below B w W)=>HR.out.on (by rw [hB];exact h))
  rw [hB] at HW HUN KR1 KR2 ⊢
  have HB0:=Lib.hid hB
  clear hB
  go_loopg [8] n (fun k i wr=>TxI l B B n w k i wr)
  case atStart=>exact HW.out
  case round =>
    obtain ⟨j,hj,hk,rfl,hI,hbl,hlt⟩:=hrel
    by_cases hjn:j<n
    · obtain ⟨k,rfl⟩:∃ k,gk=k+1:=⟨gk - 1,by omega⟩
      have hjz:(j:Int)<(n:Int):=by omega
      have hjl:j<l.length:=by rw [HL.out];exact hjn
      obtain ⟨bk,o,rfl,_,hc⟩:=HRW.out wr hbl j (by rw [sv_len];exact hjl)
      rw [sv_get _ _ hjl] at hc
      have hxs:(l.getD j ByteArray.empty).size≤1000000:=HS.out _ (by simp [List.getD,hjl])
      have htk:=textP_step l j hjl
      have hesc:=esc_eq (l.getD j ByteArray.empty).data.toList
      have h1:=HLEN.out j
      have h2:=HLEN.out (j+1)
      have h3:(Lib.replaceAll (l.getD j ByteArray.empty).data.toList [126] [126,48]).length≤2*(l.getD j ByteArray.empty).size:=by
        rw [repl_one _ _ (by decide),Lib.size_eq];exact one_len _
      generalize l.getD j ByteArray.empty=x at *
      generalize txtPt (ldat (l.take j))=acc at *
      have HTK:=Lib.hid htk
      have HESC:=Lib.hid hesc
      have KB:=Lib.hid (writeByte_k B B (Lib.byteCells acc) 47 wr hI (by rw [Lib.byteCells_length];omega) (HUN.out _ hbl))
      have HBL:=Lib.hid hbl
      clear htk hesc hI hbl
      go_wp2_with fail
      refine KB.out.mono ?_
      rintro r w2 ⟨rfl,h2b,hb2,_⟩
      have hbl2:=HBL.out.trans hb2
      have hlt2:B<w2.heap.size:=by have:=hb2.size;omega
      have hI2:Lib.IsBuilderF 77 5 B B (Lib.byteCells (acc++[47])) w2:=by
        rw [Lib.byteCells_append];exact .inr h2b
      have K1:=Lib.hid (KR1.out x w2 hbl2 (by omega))
      have HI2:=Lib.hid hI2
      have HBL2:=Lib.hid hbl2
      clear h2b hb2 hbl2 hI2 KB HBL
      go_wp2_with fail
      refine K1.out.mono ?_
      rintro r w3 ⟨rfl,hb3⟩
      have hI3:=bldP_below HI2.out hb3
      have hbl3:=HBL2.out.trans (hb3.mono (HUN.out _ HBL2.out))
      have K2:=Lib.hid (KR2.out (mkB (Lib.replaceAll x.data.toList [126] [126,48])) w3 hbl3 (by rw [mkB_size];omega))
      rw [mkB_list] at K2
      have HI3:=Lib.hid hI3
      have HBL3:=Lib.hid hbl3
      have hs3:=hb3.size
      clear hb3 hI3 hbl3 HI2 HBL2 K1
      generalize mkB (Lib.replaceAll x.data.toList [126] [126,48])=y at *
      go_wp2_with fail
      refine K2.out.mono ?_
      rintro r w4 ⟨rfl,hb4⟩
      rw [HESC.out]
      have hI4:=bldP_below HI3.out hb4
      have hbl4:=HBL3.out.trans (hb4.mono (HUN.out _ HBL3.out))
      have hs4:=hb4.size
      have hle:=congrArg List.length HTK.out
      rw [List.length_append,List.length_cons] at hle
      have KW:=Lib.hid (writeString_k B B (Lib.byteCells (acc++[47])) (mkB (escPt x.data.toList)) w4 hI4 (by rw [Lib.byteCells_length,List.length_append,mkB_size];simp;omega) (HUN.out _ hbl4))
      have HBL4:=Lib.hid hbl4
      clear hb4 hI4 hbl4 HI3 HBL3 K2 hle
      have HMS:=Lib.hid (show Lib.byteCells (acc++[47])++Lib.strCells (mkB (escPt x.data.toList))=Lib.byteCells (txtPt (ldat (l.take (j+1)))) by
        have hxc:Lib.strCells (mkB (escPt x.data.toList))=Lib.byteCells (escPt x.data.toList):=by unfold Lib.strCells;rw [mkB_list];rfl
        rw [HTK.out,hxc,← Lib.byteCells_append,List.append_assoc];rfl)
      generalize mkB (escPt x.data.toList)=z at *
      go_wp2_with fail
      refine KW.out.mono ?_
      rintro r w5 ⟨rfl,h5,hb5,_⟩
      rw [HMS.out] at h5
      have HN:=Lib.hid (show TxI l B B n w k (.int .i64 ((j:Int)+1)) w5 from ⟨j+1,by omega,by omega,rfl,.inr h5,HBL4.out.trans hb5,by have:=hb5.size;omega⟩)
      clear h5 hb5 KW
      go_wp2
      go_roundg k
      case rel=>exact HN.out
      case measure=>omega
    · obtain rfl:j=n:=by omega
      have hjz:¬ (j:Int)<(j:Int):=by omega
      rw [← HL.out,List.take_length] at hI
      have KS:=Lib.hid (Tryd.Builder_String_any_k B B (txtPt (ldat l)) wr hI (HUN.out _ hbl))
      have HBL:=Lib.hid hbl
      clear hI hbl
      go_wp2_with fail
      refine KS.out.mono ?_
      rintro r w2 ⟨rfl,_,hb2,_⟩
      have HF:=Lib.hid (HBL.out.trans hb2)
      clear hb2 KS
      go_wp2
      go_ret
      exact ⟨rfl,by rw [HB0.out];exact HF.out⟩
theorem sameStrP_any (ad:Option Addr) (n cap:Nat) (l:List ByteArray) (ad':Option Addr) (cap':Nat) (w:World) (hl:l.length=n) (hc:n≤cap) (hc':n≤cap') (hm:n≤1000000000) (hr:RdV w ad (sv l)) (hr':RdV w ad' (sv l)) :
    Calls Tryd.prog 17 #[.slice ad n cap,.slice ad' n cap'] w fun e w'=>e=.returned (.bool true)∧∃ q,w'=w.drewN q:=by
  have HN:=Lib.hid hl;have HR:=Lib.hid hr;have HR':=Lib.hid hr'
  clear hl hr hr'
  have h0:((n:Int) != (n:Int))=false:=by simp
  go_enter Tryd.func17,Tryd.ntmps17
  go_wp2
  clear h0
  go_loopw [5] (fun i wr=>∃ k q:Nat,k≤n∧i=.int .i64 (k:Int)∧wr=w.drewN q) (fun i _=>n - (intOf i).toNat)
  case atStart=>exact ⟨0,0,Nat.zero_le _,rfl,rfl⟩
  case round =>
    obtain ⟨k,q,hk,rfl,hq⟩:=hrel
    by_cases hlt:k<n
    · have h1:(k:Int)<(n:Int):=by omega
      have h2:(0:Int)≤(k:Int):=by omega
      obtain ⟨b,o,rfl,_,hc1⟩:=HR.out k (by rw [sv_len,HN.out];exact hlt)
      obtain ⟨b',o',rfl,_,hc2⟩:=HR'.out k (by rw [sv_len,HN.out];exact hlt)
      rw [sv_get _ _ (by rw [HN.out];exact hlt)] at hc1 hc2
      generalize l.getD k ByteArray.empty=x at hc1 hc2
      have h3:(x.toList == x.toList)=true:=by simp
      subst hq
      go_wp2
      go_quiet (fail)
      go_wp2
      go_roundw
      case rel=>exact ⟨k+1,_,by omega,by go_num,rfl⟩
      case measure=>simp [intOf];omega
    · obtain rfl:k=n:=by omega
      have h1:¬ (k:Int)<(k:Int):=by omega
      subst hq
      go_wp2
      go_ret
      exact ⟨rfl,_,rfl⟩
def startsB (a b:List ByteArray):Bool:=decide (a.length≤b.length∧a=b.take a.length)
theorem starts_any (ad:Option Addr) (n cap:Nat) (l:List ByteArray) (ad':Option Addr) (n' cap':Nat) (l':List ByteArray) (w:World) (hl:l.length=n) (hl':l'.length=n') (hcap:n≤cap) (hcap':n'≤cap') (hm:n≤1000000000) (hm':n'≤1000000000) (hr:RdV w ad (sv l)) (hr':RdV w ad' (sv l')) :
    Calls Tryd.prog 21 #[.slice ad n cap,.slice ad' n' cap'] w fun e w'=>e=.returned (.bool (startsB l l'))∧∃ q,w'=w.drewN q:=by
  by_cases hn:n≤n'
  case neg =>
    have hnz:¬ (n:Int)≤(n':Int):=by omega
    have HF:=Lib.hid (show startsB l l'=false from decide_eq_false (by omega))
    clear hr hr' hl hl'
    go_enter Tryd.func21,Tryd.ntmps21
    go_wp2
    go_ret
    exact ⟨by rw [HF.out];rfl,0,rfl⟩
  have hnz:(n:Int)≤(n':Int):=by omega
  have hx1:(0:Int)≤(n:Int)∧(n:Int)≤(cap':Int):=by omega
  have KE:=Lib.hid (show Calls Tryd.prog 51 #[.slice ad n cap,.slice ad' n cap'] w fun e w'=>e=.returned (.bool (startsB l l'))∧∃ q,w'=w.drewN q from by
    cases n with
    | zero =>
      have:startsB l l'=true:=decide_eq_true ⟨by omega,by rw [List.eq_nil_of_length_eq_zero hl];rfl⟩
      rw [this]
      refine (Tryd.slices_Equal_string_empty ad ad' cap 0 cap' w (by omega)).mono ?_
      rintro r w' ⟨rfl,rfl⟩
      exact ⟨rfl,0,rfl⟩
    | succ n =>
      obtain ⟨b,o,rfl,_⟩:=hr.shape (by rw [sv_len];omega)
      obtain ⟨b',o',rfl,_⟩:=hr'.shape (by rw [sv_len];omega)
      have:=Tryd.slices_Equal_string b o (n+1) cap b' o' (n+1) cap' l l' w (by omega) (by omega) (by omega) (by omega) (fun j hj=>by rw [hr.at j (by rw [sv_len];exact hj),sv_get _ _ hj]) (fun j hj=>by rw [hr'.at j (by rw [sv_len];exact hj),sv_get _ _ hj])
      have e:decide (l.take (n+1)=l'.take (n+1))=startsB l l':=by
        unfold startsB
        rw [List.take_of_length_le (by omega),hl]
        congr 1
        exact propext ⟨fun h=>⟨by omega,h⟩,fun h=>h.2⟩
      rw [e] at this
      exact this)
  clear hr hr'
  go_enter Tryd.func21,Tryd.ntmps21
  go_wp2_with fail
  refine KE.out.mono ?_
  rintro r w1 ⟨rfl,q,rfl⟩
  go_wp2
  go_ret
  exact ⟨rfl,q,rfl⟩
theorem awp_parse:parsePt [47,97,126,49,98,47,48]=.inl [[97,47,98],[48]]:=by decide +kernel
theorem awp_text:txtPt [[97,47,98],[48]]=[47,97,126,49,98,47,48]:=by decide +kernel
/-- The document's example. -/
theorem awake14_any (w:World) (hT:UT w) (hM:ML w):Calls Tryd.prog 12 #[] w fun e w'=>e=.returned (.bool true)∧Below w.heap.size w w':=by
  have KP:=Lib.hid (parseP_any ⟨#[47,97,126,49,98,47,48]⟩ w hT hM (by decide))
  have HM:=Lib.hid (fun W (h:Below w.heap.size w W)=>hM.below h)
  clear hT hM
  go_enter Tryd.func12,Tryd.ntmps12
  go_wp2_with fail
  refine KP.out.mono ?_
  intro r w1 hp
  rcases hp with ⟨x,h1,_⟩ | ⟨p,ad,cap,h1,rfl,h3,h4,h5,h6⟩
  · rw [awp_parse] at h1;cases h1
  · rw [awp_parse] at h1
    obtain rfl:p=[[97,47,98],[48]]:=(Sum.inl.inj h1).symm
    have h2:([[97,47,98],[48]]:List (List UInt8)).length=2:=rfl
    rw [h2] at h3 h5
    have h7:([[97,47,98],[48]]:List (List UInt8)).map mkB=[⟨#[97,47,98]⟩,⟨#[48]⟩]:=rfl
    rw [h7] at h4
    rw [h2]
    clear h1 h2 h5 h7 KP
    obtain ⟨w2,hw2⟩:∃ W,w1.alloc (.cells #[.string ⟨#[97,47,98]⟩,.string ⟨#[48]⟩] 9)=W:=⟨_,rfl⟩
    have hb2:Below w1.heap.size w1 w2:=by rw [← hw2];exact (Below.refl _ _).alloc (Nat.le_refl _) _
    have hr2:RdV w2 (some ⟨w1.heap.size,0,none⟩) (sv [⟨#[97,47,98]⟩,⟨#[48]⟩]):=by
      have:BlkV w2 w1.heap.size 9 (sv [⟨#[97,47,98]⟩,⟨#[48]⟩]):=by rw [← hw2];exact heap_alloc_new w1 _
      exact this.all
    have KS:=Lib.hid (sameStrP_any ad 2 cap [⟨#[97,47,98]⟩,⟨#[48]⟩] (some ⟨w1.heap.size,0,none⟩) 2 w2 rfl h3 (Nat.le_refl _) (by decide) (h4.on hb2) hr2)
    have hb22:=h6.trans (hb2.mono h6.size)
    have KX:=Lib.hid (fun q=>ptText_any ad 2 cap [⟨#[97,47,98]⟩,⟨#[48]⟩] (w2.drewN q) (HM.out _ (below_drewN hb22 q)) rfl h3 (by decide) (by intro x hx;simp at hx;rcases hx with rfl | rfl <;> decide) (h4.on (below_drewN hb2 q)))
    have HB:=Lib.hid hb22
    have HW:=Lib.hid hw2
    clear h4 h6 hb2 hr2 hb22 hw2
    go_wp2_with fail
    rw [HW.out]
    refine KS.out.mono ?_
    rintro r w3 ⟨rfl,q,rfl⟩
    have KX1:=Lib.hid (KX.out q)
    have hbq:=below_drewN HB.out q
    have HBQ:=Lib.hid hbq
    clear KX KS hbq HW
    generalize w2.drewN q=w3 at *
    go_wp2_with fail
    refine KX1.out.mono ?_
    rintro r w4 ⟨rfl,hb4⟩
    have HF:=Lib.hid (HBQ.out.trans (hb4.mono HBQ.out.size))
    have e:mkB (txtPt (ldat [⟨#[97,47,98]⟩,⟨#[48]⟩]))=⟨#[47,97,126,49,98,47,48]⟩:=by
      have:ldat [⟨#[97,47,98]⟩,⟨#[48]⟩]=[[97,47,98],[48]]:=rfl
      rw [this,awp_text];rfl
    rw [e]
    clear hb4 KX1 e
    go_wp2
    go_ret
    exact ⟨rfl,HF.out⟩
def placeM (t:MT) (s:ByteArray):Option Nat :=
  if t.c.k=7 then (if 0≤Lib.idxOfS t.k s∧Lib.idxOfS t.k s<(t.c.vn:Int) then some (Lib.idxOfS t.k s).toNat else none)
  else if t.c.k=6 then idxL s.data.toList ((t.c.vn:Int) - 1) else none
theorem placeM_lt {t:MT} {s:ByteArray} {j:Nat} (h:placeM t s=some j):j<t.c.vn:=by
  unfold placeM at h
  split at h
  · split at h
    · rename_i h2;simp at h;omega
    · cases h
  · split at h
    · have:=idxL_lt h;omega
    · cases h
def PlP (t:MT) (s:ByteArray) (w:World) (e:Ending) (w':World):Prop :=
  ∃ i:Int,e=.returned (.tuple #[.int .i64 i,.bool (placeM t s).isSome])∧(∀ j,placeM t s=some j→i=(j:Int))∧Below w.heap.size w w'
theorem place_t (t:MT) (s:ByteArray) (w:World) (hR:Rep w t) (hs:s.size≤4000000000000) :
    Calls Tryd.prog 53 #[t.c.val,.string s] w (PlP t s w):=by
  have own:=hR.own
  obtain ⟨Wb,hWb⟩:∃ x,w.alloc (.cells t.c.cells.toArray 28)=x:=⟨_,rfl⟩
  have hb0:Below w.heap.size w Wb:=by rw [← hWb];exact (Below.refl _ _).alloc (Nat.le_refl _) _
  have hbx:BoxT Wb w.heap.size t.c:=by unfold BoxT;rw [← hWb];exact heap_alloc_new w _
  have hlm:=own.lm
  have hkc:=own.kc
  have KI:=Lib.hid (fun W=>ptIndex_any s ((t.c.vn:Int) - 1) W (by omega) hs)
  have hidx:Calls Tryd.prog 78 #[.slice t.c.ka t.c.kn t.c.kc,.string s] Wb fun e w'=>e=.returned (.int .i64 (Lib.idxOfS t.k s))∧w'=Wb:=by
    have hkr:=own.kr.on hb0
    have hkn:=own.kn
    cases hn:t.c.kn with
    | zero =>
      have:t.k=[]:=List.eq_nil_of_length_eq_zero (by omega)
      rw [this]
      exact Tryd.slices_Index_string_empty t.c.ka t.c.kc s Wb
    | succ m =>
      obtain ⟨b,o,e,_⟩:=hkr.shape (by rw [sv_len];omega)
      rw [e] at hkr
      have:=Tryd.slices_Index_string b o (m+1) t.c.kc t.k s Wb (by omega) (by omega) (fun j hj=>by rw [hkr.at j (by rw [sv_len];exact hj),sv_get _ _ hj])
      rw [List.take_of_length_le (by omega)] at this
      rw [e]
      exact this
  have KX:=Lib.hid hidx
  have HB:=Lib.hid hb0
  have HWB:=Lib.hid hWb
  have HBX:=Lib.hid hbx
  have hpl:placeM t s=placeM t s:=rfl
  conv at hpl=>rhs;unfold placeM
  have HPL:=Lib.hid hpl
  obtain ⟨c0,c1,c2,c3,c4,c5,c6,c7⟩:=hbx.cells
  clear own hR hidx hpl hbx hb0 hWb
  generalize Lib.idxOfS t.k s=ix at *
  obtain ⟨pm,hpm⟩:∃ p,placeM t s=p:=⟨_,rfl⟩
  have HFN:=Lib.hid (fun (i:Int) (b:Bool) W (h1:pm.isSome=b) (h2:∀ j,pm=some j→i=(j:Int)) (h3:Below w.heap.size w W)=>(show PlP t s w (.returned (.tuple #[.int .i64 i,.bool b])) W from ⟨i,by rw [hpm,h1],by rw [hpm];exact h2,h3⟩))
  rw [hpm] at HPL
  clear hpm
  generalize t.c=c at *
  obtain ⟨k,b0,neg,ma,mn,mc,e,st,ka,kn,kc,va,vn,vc⟩:=c
  unfold Cel.val
  unfold Cel.cells at HWB
  simp only at HWB KI KX HPL c0 c1 c2 c3 c4 c5 c6 c7 hlm
  obtain ⟨hl1,hl2,hl3⟩:=hlm
  by_cases k7:k=7
  · subst k7
    rw [if_pos rfl] at HPL
    go_enter Tryd.func53,Tryd.ntmps53
    go_wp2_with fail
    rw [HWB.out]
    refine KX.out.mono ?_
    rintro r w2 ⟨rfl,rfl⟩
    by_cases h0:0≤ix
    · have d0:decide ((0:Int)≤ix)=true:=decide_eq_true h0
      by_cases h1:ix<(vn:Int)
      · rw [if_pos ⟨h0,h1⟩] at HPL
        have d1:decide (ix<(vn:Int))=true:=decide_eq_true h1
        have HF:=Lib.hid (fun q=>HFN.out ix true (w2.drewN q) (by rw [HPL.out];rfl) (fun j hj=>by rw [HPL.out] at hj;simp at hj;omega) (below_drewN HB.out q))
        go_wp2
        go_quiet (fail)
        go_wp2
        go_ret2
        exact HF.out _
      · rw [if_neg (fun h=>h1 h.2)] at HPL
        have d1:decide (ix<(vn:Int))=false:=decide_eq_false h1
        have HF:=Lib.hid (fun q=>HFN.out ix false (w2.drewN q) (by rw [HPL.out];rfl) (fun j hj=>by rw [HPL.out] at hj;cases hj) (below_drewN HB.out q))
        go_wp2
        go_quiet (fail)
        go_wp2
        go_ret2
        exact HF.out _
    · rw [if_neg (fun h=>h0 h.1)] at HPL
      have d0:decide ((0:Int)≤ix)=false:=decide_eq_false h0
      have HF:=Lib.hid (fun q=>HFN.out ix false (w2.drewN q) (by rw [HPL.out];rfl) (fun j hj=>by rw [HPL.out] at hj;cases hj) (below_drewN HB.out q))
      go_wp2
      go_quiet (fail)
      go_wp2
      go_ret2
      exact HF.out _
  · rw [if_neg k7] at HPL
    by_cases k6:k=6
    · subst k6
      rw [if_pos rfl] at HPL
      have hx1:-9223372036854775808≤(vn:Int) - 1∧(vn:Int) - 1≤9223372036854775807:=by omega
      go_enter Tryd.func53,Tryd.ntmps53
      go_wp2_with fail
      rw [HWB.out]
      refine (KI.out _).mono ?_
      rintro r w2 ⟨rfl,h2⟩
      have HF:=Lib.hid (HFN.out (idxV (idxL s.data.toList ((vn:Int) - 1))) (idxL s.data.toList ((vn:Int) - 1)).isSome w2 (by rw [HPL.out]) (fun j hj=>by rw [← HPL.out,hj];rfl) (HB.out.trans (h2.mono HB.out.size)))
      clear h2
      generalize idxV (idxL s.data.toList ((vn:Int) - 1))=iv at *
      generalize (idxL s.data.toList ((vn:Int) - 1)).isSome=bv at *
      go_wp2
      go_ret2
      exact HF.out
    · rw [if_neg k6] at HPL
      have HF:=Lib.hid (HFN.out 0 false Wb (by rw [HPL.out];rfl) (fun j hj=>by rw [HPL.out] at hj;cases hj) HB.out)
      go_enter Tryd.func53,Tryd.ntmps53
      go_wp2_with fail
      rw [HWB.out]
      go_ret2
      exact HF.out
def stepM (t:MT) (s:ByteArray):Option MT:=(placeM t s).map fun j=>t.v.getD j (leafT 0 false ⟨#[]⟩)
def getM (t:MT):List ByteArray→Option MT
  | []=>some t
  | s::r=>(stepM t s).bind fun u=>getM u r
theorem getM_append (a b:List ByteArray):∀ t,getM t (a++b)=(getM t a).bind fun u=>getM u b:=by
  induction a with
  | nil=>intro t;rfl
  | cons s a ih =>
    intro t
    rw [List.cons_append,getM,getM]
    cases stepM t s with
    | none=>rfl
    | some u=>exact ih u
theorem stepM_rep {w:World} {t u:MT} {s:ByteArray} (hR:Rep w t) (h:stepM t s=some u):Rep w u:=by
  unfold stepM at h
  cases e:placeM t s with
  | none=>rw [e] at h;cases h
  | some j =>
    rw [e] at h
    have hj:=placeM_lt e
    have hv:=hR.own.vn
    simp at h
    subst h
    exact hR.part (by simp [show j<t.v.length by omega])
theorem getM_rep {w:World}:∀ (l:List ByteArray) {t u:MT},Rep w t→getM t l=some u→Rep w u:=by
  intro l
  induction l with
  | nil=>intro t u hR h;simp [getM] at h;subst h;exact hR
  | cons s l ih =>
    intro t u hR h
    rw [getM] at h
    cases e:stepM t s with
    | none=>rw [e] at h;cases h
    | some x=>rw [e] at h;exact ih (stepM_rep hR e) h
def zeroV:Value:=.agg #[.int .i64 0,.bool false,.bool false,.slice none 0 0,.int .i64 0,.string ⟨#[]⟩,.slice none 0 0,.slice none 0 0]
def GetP (t:MT) (l:List ByteArray) (w:World) (e:Ending) (w':World):Prop :=
  ((∃ u,getM t l=some u∧e=.returned (.tuple #[u.c.val,.bool true]))∨(getM t l=none∧e=.returned (.tuple #[zeroV,.bool false])))∧Below w.heap.size w w'
def GtI (t:MT) (l:List ByteArray) (w:World) (b n k:Nat) (i:Value) (wr:World):Prop :=
  ∃ (j:Nat) (u:MT),j≤n∧n - j≤k∧i=.int .i64 (j:Int)∧getM t (l.take j)=some u∧BoxT wr b u.c∧BoxT wr (b+1) (leafC 0 false ⟨#[]⟩)∧Below w.heap.size w wr
theorem get_t (t:MT) (ad:Option Addr) (n cap:Nat) (l:List ByteArray) (w:World) (hR:Rep w t) (hl:l.length=n) (hr:RdV w ad (sv l)) (hn:n≤1000000000000000) (hcap:n≤cap) (hs:∀ x∈l,x.size≤4000000000000) :
    Calls Tryd.prog 24 #[t.c.val,.slice ad n cap] w (GetP t l w):=by
  obtain ⟨Wb,hWb⟩:∃ x,two2 w t.c (leafC 0 false ⟨#[]⟩)=x:=⟨_,rfl⟩
  have hb0:Below w.heap.size w Wb:=by rw [← hWb];exact two_below2 _ _ _
  have hb2:BoxT Wb w.heap.size t.c∧BoxT Wb (w.heap.size+1) (leafC 0 false ⟨#[]⟩):=by rw [← hWb];exact two2_box w t.c (leafC 0 false ⟨#[]⟩)
  have HST:=Lib.hid (show GtI t l w w.heap.size n n (.int .i64 0) Wb from ⟨0,t,by omega,by omega,rfl,by simp [getM],hb2.1,hb2.2,hb0⟩)
  have HRR:=Lib.hid (fun W (h:Below w.heap.size w W)=>(hR.on h:Rep W t))
  have HPR:=Lib.hid (fun W (h:Below w.heap.size w W)=>hr.on h)
  have HL:=Lib.hid hl
  have HS:=Lib.hid hs
  obtain ⟨b,hb⟩:∃ b,w.heap.size=b:=⟨_,rfl⟩
  have HBB:=Lib.hid hb
  clear hR hr hs hl hb0 hb2
  generalize hc:t.c=c at *
  obtain ⟨zk,zb,zneg,zma,zmn,zmc,ze,zs,zka,zkn,zkc,zva,zvn,zvc⟩:=c
  unfold Cel.val
  unfold two2 Cel.cells leafC at hWb
  simp only at hWb
  have HWB:=Lib.hid hWb
  clear hWb hc
  go_enter Tryd.func24,Tryd.ntmps24
  go_wp2_with fail
  rw [HWB.out]
  rw [hb] at HST
  clear HWB hb
  go_loopg [12] n (fun k i wr=>GtI t l w b n k i wr)
  case atStart=>exact HST.out
  case round =>
    clear HST
    obtain ⟨j,u,hj,hk,rfl,hg,hx1,hx2,hbw⟩:=hrel
    have HG:=Lib.hid hg
    have HBW:=Lib.hid hbw
    have hur:=getM_rep _ (HRR.out wr hbw) hg
    have HX1:=Lib.hid hx1
    have HX2:=Lib.hid hx2
    obtain ⟨c0,c1,c2,c3,c4,c5,c6,c7⟩:=hx1.cells
    clear hg hx1 hx2 hbw
    by_cases hlt:j<n
    · obtain ⟨k,rfl⟩:∃ k,gk=k+1:=⟨gk - 1,by omega⟩
      have hjz:(j:Int)<(n:Int):=by omega
      have hjl:j<l.length:=by rw [HL.out];exact hlt
      obtain ⟨bk,o,rfl,_,hcx⟩:=HPR.out wr HBW.out j (by rw [sv_len];exact hjl)
      rw [sv_get _ _ hjl] at hcx
      have htk:l.take (j+1)=l.take j++[l.getD j ByteArray.empty]:=by rw [List.take_add_one];simp [List.getD,hjl]
      have hdr:l=l.take j++l.getD j ByteArray.empty::l.drop (j+1):=by
        conv=>lhs;rw [← List.take_append_drop j l,List.drop_eq_getElem_cons hjl]
        simp [List.getD,hjl]
      have hxs:=HS.out (l.getD j ByteArray.empty) (by simp [List.getD,hjl])
      generalize l.getD j ByteArray.empty=x at *
      have HGS:=Lib.hid (show getM t (l.take (j+1))=stepM u x by rw [htk,getM_append,HG.out];simp [getM])
      have HGN:=Lib.hid (fun (h:stepM u x=none)=>(show getM t l=none by rw [hdr,getM_append,HG.out];simp [getM,h]))
      have KPL:=Lib.hid (place_t u x wr hur hxs)
      have HUR:=Lib.hid (fun W (h:Below wr.heap.size wr W)=>hur.on h)
      clear htk hdr hur
      generalize hc:u.c=c at *
      have HC:=Lib.hid hc
      clear hc
      obtain ⟨uk,ub,uneg,uma,umn,umc,ue,us,uka,ukn,ukc,uva,uvn,uvc⟩:=c
      unfold Cel.val at KPL
      simp only at c0 c1 c2 c3 c4 c5 c6 c7
      go_wp2_with fail
      refine KPL.out.mono ?_
      rintro r w5 ⟨i,rfl,hi,h5⟩
      have hx1:=HX1.out.on (h5.block _ HX1.out.lt)
      have hx2:=HX2.out.on (h5.block _ HX2.out.lt)
      have hb5:=HBW.out.trans (h5.mono HBW.out.size)
      have hur:=HUR.out _ h5
      clear c0 c1 c2 c3 c4 c5 c6 c7 KPL h5
      cases hpm:placeM u x with
      | none =>
        have HE:=Lib.hid (show GetP t l w (.returned (.tuple #[zeroV,.bool false])) (put0 w5 (b+1) (leafC 0 false ⟨#[]⟩)) from ⟨.inr ⟨HGN.out (by unfold stepM;rw [hpm];rfl),rfl⟩,hb5.trans ((put0_but _ _ _).below (by have:=HBB.out;omega) hb5.size)⟩)
        obtain ⟨⟨g0,g1,g2,g3,g4,g5,g6,g7⟩,f0,f1,f2,f3,f4,f5,f6,f7⟩:=hx2.var
        have hbx:=(put0_box hx2 (c:=leafC 0 false ⟨#[]⟩)).cells
        unfold put0 leafC at hbx HE
        unfold zeroV at HE
        simp only [leafC] at hbx HE g0 g1 g2 g3 g4 g5 g6 g7
        obtain ⟨d0,d1,d2,d3,d4,d5,d6,d7⟩:=hbx
        clear hx1 hx2 hb5 hur hi
        go_wp2
        exact bodyPost_ret (v:=.tuple #[.agg #[.int .i64 0,.bool false,.bool false,.slice none 0 0,.int .i64 0,.string ⟨#[]⟩,.slice none 0 0,.slice none 0 0],.bool false]) (by simp [results,Tryd.results24,go_sem,d0,d1,d2,d3,d4,d5,d6,d7]) rfl HE.out
      | some q =>
        obtain rfl:i=(q:Int):=hi q hpm
        have hq:=placeM_lt hpm
        rw [HC.out] at hq
        simp only at hq
        have hqz:(q:Int)<(uvn:Int):=by omega
        have hvn:=hur.own.vn
        rw [HC.out] at hvn
        simp only at hvn
        have hqv:q<u.v.length:=by omega
        have hrd:=hur.own.vr
        rw [HC.out] at hrd
        simp only at hrd
        have hvm:=hur.own.lm.2.2
        rw [HC.out] at hvm
        simp only at hvm
        obtain ⟨xbk,xo,rfl,hxl⟩:=hrd.shape (by rw [flat_len,List.length_map];omega)
        obtain ⟨x0,x1,x2,x3,x4,x5,x6,x7⟩:=flat_at hrd q (by rw [List.length_map];omega) (c:=(u.v.getD q (leafT 0 false ⟨#[]⟩)).c) (getD_mapc hqv _)
        have HN:=Lib.hid (show GtI t l w b n k (.int .i64 ((j:Int)+1)) (put0 w5 b (u.v.getD q (leafT 0 false ⟨#[]⟩)).c) from ⟨j+1,u.v.getD q (leafT 0 false ⟨#[]⟩),by omega,by omega,rfl,by rw [HGS.out];unfold stepM;rw [hpm];rfl,put0_box hx1,hx2.on ((put0_but w5 b _).block _ hx2.lt (by omega)),hb5.trans ((put0_but _ _ _).below (by have:=HBB.out;omega) hb5.size)⟩)
        obtain ⟨⟨g0,g1,g2,g3,g4,g5,g6,g7⟩,f0,f1,f2,f3,f4,f5,f6,f7⟩:=hx1.var
        clear hrd hx1 hx2 hb5 hur hi hvn
        generalize (u.v.getD q (leafT 0 false ⟨#[]⟩)).c=xc at *
        obtain ⟨xk,xb,xneg,xma,xmn,xmc,xe,xs,xka,xkn,xkc,xva,xvn,xvc⟩:=xc
        simp only at x0 x1 x2 x3 x4 x5 x6 x7 g0 g1 g2 g3 g4 g5 g6 g7
        unfold put0 at HN
        simp only at HN
        go_wp2
        go_roundg k
        case rel=>exact HN.out
        case measure=>omega
    · obtain rfl:j=n:=by omega
      have hjz:¬ (j:Int)<(j:Int):=by omega
      have hal:l.take j=l:=by rw [← HL.out];exact List.take_length
      have HG2:=Lib.hid (show getM t l=some u by rw [← hal];exact HG.out)
      obtain ⟨⟨g0,g1,g2,g3,g4,g5,g6,g7⟩,f0,f1,f2,f3,f4,f5,f6,f7⟩:=HX2.out.var
      have HE:=Lib.hid (show GetP t l w (.returned (.tuple #[u.c.val,.bool true])) (put0 wr (b+1) u.c) from ⟨.inl ⟨u,HG2.out,rfl⟩,HBW.out.trans ((put0_but _ _ _).below (by have:=HBB.out;omega) HBW.out.size)⟩)
      have hbx:=(put0_box HX2.out (c:=u.c)).cells
      clear hal hur
      generalize u.c=c at *
      obtain ⟨uk,ub,uneg,uma,umn,umc,ue,us,uka,ukn,ukc,uva,uvn,uvc⟩:=c
      unfold put0 at hbx HE
      unfold Cel.val at HE
      simp only [leafC] at hbx HE g0 g1 g2 g3 g4 g5 g6 g7 c0 c1 c2 c3 c4 c5 c6 c7
      obtain ⟨d0,d1,d2,d3,d4,d5,d6,d7⟩:=hbx
      go_wp2
      exact bodyPost_ret (v:=.tuple #[.agg #[.int .i64 uk,.bool ub,.bool uneg,.slice uma umn umc,.int .i64 ue,.string us,.slice uka ukn ukc,.slice uva uvn uvc],.bool true]) (by simp [results,Tryd.results24,go_sem,d0,d1,d2,d3,d4,d5,d6,d7]) rfl HE.out
def setV (t v:MT) (j g:Nat):MT:=.mk { t.c with va:=some ⟨g,0,none⟩,vc:=t.c.vn } t.m t.k (t.v.set j v)
theorem setV_rep {w:World} {t v:MT} {j g:Nat} (hR:Rep w t) (hV:Rep w v) (hb:RdV w (some ⟨g,0,none⟩) (flat ((t.v.set j v).map MT.c))):Rep w (setV t v j g):=by
  have o:=hR.own
  refine Rep.mk ⟨o.mn,o.mc,o.mo,o.mr,o.kn,o.kc,o.kr,by show (t.v.set j v).length=_;rw [List.length_set];exact o.vn,Nat.le_refl _,hb,o.lm,o.ls,o.lk,o.le,o.lq⟩ ?_
  intro s hs
  rcases List.mem_or_eq_of_mem_set hs with h | rfl
  · exact hR.part h
  · exact hV
theorem box_set7 {w:World} {b:Nat} {c:Cel} (h:BoxT w b c) (a:Option Addr) (n m:Nat):BoxT (w.setCell ⟨b,7,none⟩ (.slice a n m)) b { c with va:=a,vn:=n,vc:=m }:=by
  have:=(box_blk h).set 7 (.slice a n m)
  refine blk_box ?_
  have e:(flat [c]).set 7 (.slice a n m)=flat [{ c with va:=a,vn:=n,vc:=m }]:=by simp [flat,Cel.cells]
  rw [← e];exact this
theorem rep_ind0 {w:World} {t:MT} (hR:Rep w t):Ind (fun _=>False) w (fun W=>Rep W t):=by
  intro W hs hk s hsub
  have h:=hR s hsub
  exact ⟨h.mn,h.mc,h.mo,ind_rd (X:=fun _=>False) h.mr (fun _ _ h=>h) W hs hk,h.kn,h.kc,ind_rdv (X:=fun _=>False) h.kr (fun _ _ h=>h) W hs hk,h.vn,h.vc,ind_rdv (X:=fun _=>False) h.vr (fun _ _ h=>h) W hs hk,h.lm,h.ls,h.lk,h.le,h.lq⟩
def PutP1 (X:Nat→Prop) (t v:MT) (s:ByteArray) (w:World) (e:Ending) (w':World):Prop :=
  ((placeM t s=none∧e=.returned (.tuple #[zeroV,.bool false]))∨(∃ j g,placeM t s=some j∧e=.returned (.tuple #[(setV t v j g).c.val,.bool true])∧Ind X w' (fun W=>Rep W (setV t v j g))))∧Below w.heap.size w w'
def thrP (w:World) (c d e:Cel):World:=(two2 w c d).alloc (.cells e.cells.toArray 28)
theorem thrP_below (w:World) (c d e:Cel):Below w.heap.size w (thrP w c d e):=(two_below2 w c d).alloc (two_below2 w c d).size _
theorem thrP_box (w:World) (c d e:Cel):BoxT (thrP w c d e) w.heap.size c∧BoxT (thrP w c d e) (w.heap.size+1) d∧BoxT (thrP w c d e) (w.heap.size+1+1) e:=by
  have h:=two2_box w c d
  have hs:=two2_size w c d
  have h3:=heap_alloc_new (two2 w c d) (.cells e.cells.toArray 28)
  rw [hs] at h3
  exact ⟨h.1.on (Below.heap_alloc _ _ _ (by omega)),h.2.on (Below.heap_alloc _ _ _ (by omega)),h3⟩
theorem set_map (l:List MT) (j:Nat) (v:MT):(l.set j v).map MT.c=(l.map MT.c).set j v.c:=by
  rw [List.map_set]
theorem putIn_t (X:Nat→Prop) (t v:MT) (s:ByteArray) (w:World) (hX:∀ k,X k→k<w.heap.size) (hR:Ind X w (fun W=>Rep W t)) (hV:Ind X w (fun W=>Rep W v)) (hs:s.size≤4000000000000) (hvn:t.c.vn≤1000000) :
    Calls Tryd.prog 56 #[t.c.val,.string s,v.c.val] w (PutP1 X t v s w):=by
  obtain ⟨Wb,hWb⟩:∃ x,thrP w t.c v.c (leafC 0 false ⟨#[]⟩)=x:=⟨_,rfl⟩
  have hb0:Below w.heap.size w Wb:=by rw [← hWb];exact thrP_below _ _ _ _
  have hbx:BoxT Wb w.heap.size t.c∧BoxT Wb (w.heap.size+1) v.c∧BoxT Wb (w.heap.size+1+1) (leafC 0 false ⟨#[]⟩):=by rw [← hWb];exact thrP_box _ _ _ _
  have KP:=Lib.hid (place_t t s Wb (hR.below hb0).here hs)
  have HRT:=Lib.hid (fun W (h:Below w.heap.size w W)=>(⟨(hR.below h).here,(hV.below h).here⟩:Rep W t∧Rep W v))
  have HRI:=Lib.hid (fun W (h:Below w.heap.size w W)=>(⟨hR.below h,hV.below h⟩:Ind X W (fun W=>Rep W t)∧Ind X W (fun W=>Rep W v)))
  have HXX:=Lib.hid hX
  have HB0:=Lib.hid hb0
  have HBX:=Lib.hid hbx
  have hlt:=hbx.1.lt
  obtain ⟨c0,c1,c2,c3,c4,c5,c6,c7⟩:=hbx.1.cells
  obtain ⟨b,hb⟩:∃ b,w.heap.size=b:=⟨_,rfl⟩
  have HBB:=Lib.hid hb
  have HVN:=Lib.hid hR.here.own.vn
  clear hR hV hb0 hbx hX
  obtain ⟨ct,hct⟩:∃ c,t.c=c:=⟨_,rfl⟩
  obtain ⟨cv,hcv⟩:∃ c,v.c=c:=⟨_,rfl⟩
  have HCT:=Lib.hid hct
  have HCV:=Lib.hid hcv
  rw [hct] at hWb KP HBX hvn HVN c0 c1 c2 c3 c4 c5 c6 c7 ⊢
  rw [hcv] at hWb HBX ⊢
  clear hct hcv
  obtain ⟨tk,tb,tneg,tma,tmn,tmc,te,ts,tka,tkn,tkc,tva,tvn,tvc⟩:=ct
  obtain ⟨zk,zb,zneg,zma,zmn,zmc,ze,zs,zka,zkn,zkc,zva,zvn,zvc⟩:=cv
  unfold Cel.val at KP ⊢
  unfold thrP two2 Cel.cells leafC at hWb
  simp only at hWb hvn HVN c0 c1 c2 c3 c4 c5 c6 c7
  have HWB:=Lib.hid hWb
  clear hWb
  go_enter Tryd.func56,Tryd.ntmps56
  go_wp2_with fail
  rw [HWB.out]
  refine KP.out.mono ?_
  rintro r w2 ⟨i,rfl,hi,h2⟩
  have hx1:=HBX.out.1.on (h2.block _ HBX.out.1.lt)
  have hx2:=HBX.out.2.1.on (h2.block _ HBX.out.2.1.lt)
  have hx3:=HBX.out.2.2.on (h2.block _ HBX.out.2.2.lt)
  have hb2:=HB0.out.trans (h2.mono HB0.out.size)
  clear c0 c1 c2 c3 c4 c5 c6 c7 KP h2
  rw [hb] at hx1 hx2 hx3
  cases hpm:placeM t s with
  | none =>
    have HE:=Lib.hid (show PutP1 X t v s w (.returned (.tuple #[zeroV,.bool false])) (put0 w2 (b+1+1) (leafC 0 false ⟨#[]⟩)) from ⟨.inl ⟨hpm,rfl⟩,hb2.trans ((put0_but _ _ _).below (by omega) hb2.size)⟩)
    obtain ⟨⟨g0,g1,g2,g3,g4,g5,g6,g7⟩,f0,f1,f2,f3,f4,f5,f6,f7⟩:=hx3.var
    have hbx:=(put0_box hx3 (c:=leafC 0 false ⟨#[]⟩)).cells
    unfold put0 leafC at hbx HE
    unfold zeroV at HE
    simp only [leafC] at hbx HE g0 g1 g2 g3 g4 g5 g6 g7
    obtain ⟨d0,d1,d2,d3,d4,d5,d6,d7⟩:=hbx
    clear hx1 hx2 hx3 hb2 hi
    go_wp2
    exact bodyPost_ret (v:=.tuple #[.agg #[.int .i64 0,.bool false,.bool false,.slice none 0 0,.int .i64 0,.string ⟨#[]⟩,.slice none 0 0,.slice none 0 0],.bool false]) (by simp [results,Tryd.results56,go_sem,d0,d1,d2,d3,d4,d5,d6,d7]) rfl HE.out
  | some q =>
    obtain rfl:i=(q:Int):=hi q hpm
    have hq:=placeM_lt hpm
    rw [HCT.out] at hq
    simp only at hq
    have HPM:=Lib.hid hpm
    have HB2:=Lib.hid hb2
    have HX1:=Lib.hid hx1
    have HX2:=Lib.hid hx2
    have HX3:=Lib.hid hx3
    obtain ⟨c0,c1,c2,c3,c4,c5,c6,c7⟩:=hx1.cells
    simp only at c0 c1 c2 c3 c4 c5 c6 c7
    clear hx1 hx2 hx3 hb2 hi hpm
    have hvn0:(0:Int)≤(tvn:Int):=by omega
    have hszT:(Tryd.prog.info? 28).map (·.size)=some 8:=by kernel_rfl
    have HLEN:=Lib.hid (show (flat (t.v.map MT.c)).length=Nat.min tvn tvn*8 by rw [flat_len,List.length_map,HVN.out];show _=min tvn tvn*8;rw [Nat.min_self])
    have HRV:=Lib.hid (fun W (h:Below w2.heap.size w2 W)=>((by
      have:=(HRT.out W (HB2.out.trans (h.mono HB2.out.size))).1.own.vr
      rw [HCT.out] at this;exact this):RdV W tva (flat (t.v.map MT.c))))
    have HFI:=Lib.hid (show 0+(flat (t.v.map MT.c)).length≤(flat (List.replicate tvn zeroC)).length by rw [flat_len,flat_len,List.length_map,HVN.out,List.length_replicate];omega)
    obtain ⟨g,hg⟩:∃ g,w2.heap.size=g:=⟨_,rfl⟩
    have HGG:=Lib.hid hg
    have hbg:b<g:=by rw [← hg];exact HX1.out.lt
    have hbg1:b+1<g:=by rw [← hg];exact HX2.out.lt
    have hbg2:b+1+1<g:=by rw [← hg];exact HX3.out.lt
    clear hg
    go_upto_region 6 with (first
      | (at_make;refine wpl_make_trees _ rfl _ _ rfl _ _ _ _ tvn rfl rfl rfl rfl (by omega) ?_;intro w3 hg3 hb3;have y7:=(HX1.out.on (hb3.block _ HX1.out.lt)).cells.2.2.2.2.2.2.2;simp only at y7)
      | (with_reducible refine wpl_spliceN rfl (.tmp 24) (.tmp 26) _ _ rfl 28 8 Tryd.underlying26 hszT _ _ _ _ _ _ rfl rfl _ 0 _ _ hg3 (flat (t.v.map MT.c)) (by decide) HLEN.out (fun _=>rfl) (HRV.out _ hb3) HFI.out (flat_oneC _) _ w2 hb3 (Nat.le_refl _) ?_;intro w4 hg4 hb4))
    clear hg3 hb3 y7
    rw [HGG.out] at hg4 ⊢
    have hg5:BlkV w4 g 28 (flat (t.v.map MT.c)):=by
      have:=hg4.out
      rwa [show splice (flat (List.replicate tvn zeroC)) 0 (flat (t.v.map MT.c))=flat (t.v.map MT.c) by
        unfold splice
        rw [List.take_zero,List.nil_append,Nat.zero_add,List.drop_eq_nil_of_le (by have:=HFI.out;rw [flat_len,flat_len,List.length_map,HVN.out,List.length_replicate] at *;omega),List.append_nil]] at this
    have hql:q<(t.v.map MT.c).length:=by rw [List.length_map,HVN.out];exact hq
    obtain ⟨⟨p0,o0⟩,⟨p1,o1⟩,⟨p2,o2⟩,⟨p3,o3⟩,⟨p4,o4⟩,⟨p5,o5⟩,⟨p6,o6⟩,⟨p7,o7⟩⟩:=blk_olds hg5 hql
    have q0:=hg5.free (q*8)
    have q1:=hg5.free (q*8+1)
    have q2:=hg5.free (q*8+2)
    have q3:=hg5.free (q*8+3)
    have q4:=hg5.free (q*8+4)
    have q5:=hg5.free (q*8+5)
    have q6:=hg5.free (q*8+6)
    have q7:=hg5.free (q*8+7)
    have hx1:=HX1.out.on (hb4.block _ HX1.out.lt)
    have hx2:=HX2.out.on (hb4.block _ HX2.out.lt)
    have hx3:=HX3.out.on (hb4.block _ HX3.out.lt)
    obtain ⟨e0,e1,e2,e3,e4,e5,e6,e7⟩:=hx2.cells
    simp only at e0 e1 e2 e3 e4 e5 e6 e7
    have hqz:(q:Int)<(tvn:Int):=by omega
    have hp8:=put8_but w4 g (q*8) ⟨zk,zb,zneg,zma,zmn,zmc,ze,zs,zka,zkn,zkc,zva,zvn,zvc⟩
    have HX16:=Lib.hid (hx1.on (hp8.block _ hx1.lt (by omega)))
    have HX36:=Lib.hid (hx3.on (hp8.block _ hx3.lt (by omega)))
    have HG6:=Lib.hid (put8_blk hg5 q hql ⟨zk,zb,zneg,zma,zmn,zmc,ze,zs,zka,zkn,zkc,zva,zvn,zvc⟩)
    have HB6:=Lib.hid (HB2.out.trans (hb4.trans (hp8.below (by rw [HGG.out];exact Nat.le_refl _) hb4.size) |>.mono HB2.out.size))
    obtain ⟨W6,hW6⟩:∃ W,put8 w4 g (q*8) ⟨zk,zb,zneg,zma,zmn,zmc,ze,zs,zka,zkn,zkc,zva,zvn,zvc⟩=W:=⟨_,rfl⟩
    rw [hW6] at HX16 HX36 HG6 HB6
    unfold put8 at hW6
    simp only at hW6
    have HW6:=Lib.hid hW6
    clear hW6 hp8 hx1 hx2 hx3 hg5 hg4 hb4
    go_upto_region 7 with fail
    rw [HW6.out]
    clear HW6 o0 o1 o2 o3 o4 o5 o6 o7 q0 q1 q2 q3 q4 q5 q6 q7 e0 e1 e2 e3 e4 e5 e6 e7 c0 c1 c2 c3 c4 c5 c6 c7
    have y7:=HX16.out.cells.2.2.2.2.2.2.2
    have z7:=HX16.out.free 7
    simp only at y7
    have HX17:=Lib.hid (box_set7 HX16.out (some ⟨g,0,none⟩) tvn tvn)
    have hb7:But b W6 (W6.setCell ⟨b,7,none⟩ (.slice (some ⟨g,0,none⟩) tvn tvn)):=(But.refl _ _).setCell _ _
    have HX37:=Lib.hid (HX36.out.on (hb7.block _ HX36.out.lt (by omega)))
    have HG7:=Lib.hid (hb7.blk HG6.out (by omega))
    have HB7:=Lib.hid (HB6.out.trans (hb7.below (by rw [HBB.out];exact Nat.le_refl _) HB6.out.size))
    obtain ⟨W7,hW7⟩:∃ W,W6.setCell ⟨b,7,none⟩ (.slice (some ⟨g,0,none⟩) tvn tvn)=W:=⟨_,rfl⟩
    rw [hW7] at HX17 HX37 HG7 HB7
    have HW7:=Lib.hid hW7
    clear hW7 hb7
    go_upto_region 8 with fail
    rw [HW7.out]
    clear HW7 y7 z7
    obtain ⟨c0,c1,c2,c3,c4,c5,c6,c7⟩:=HX17.out.cells
    simp only at c0 c1 c2 c3 c4 c5 c6 c7
    obtain ⟨⟨g0,g1,g2,g3,g4,g5,g6,g7⟩,f0,f1,f2,f3,f4,f5,f6,f7⟩:=HX37.out.var
    simp only [leafC] at g0 g1 g2 g3 g4 g5 g6 g7
    have hp9:=put0_but W7 (b+1+1) ⟨tk,tb,tneg,tma,tmn,tmc,te,ts,tka,tkn,tkc,some ⟨g,0,none⟩,tvn,tvn⟩
    have hB9:=HB7.out.trans (hp9.below (by have:=HBB.out;omega) HB7.out.size)
    have hg9:=hp9.blk HG7.out (by omega)
    have hrep:=HRI.out _ hB9
    have hsz9:=hB9.size
    have hgs:w.heap.size≤g:=by rw [← HGG.out];exact HB2.out.size
    have HE:=Lib.hid (show PutP1 X t v s w (.returned (.tuple #[(⟨tk,tb,tneg,tma,tmn,tmc,te,ts,tka,tkn,tkc,some ⟨g,0,none⟩,tvn,tvn⟩:Cel).val,.bool true])) (put0 W7 (b+1+1) ⟨tk,tb,tneg,tma,tmn,tmc,te,ts,tka,tkn,tkc,some ⟨g,0,none⟩,tvn,tvn⟩) from
      ⟨.inr ⟨q,g,HPM.out,by unfold setV;rw [HCT.out];rfl,fun W hs hk=>setV_rep (hrep.1 W hs hk) (hrep.2 W hs hk) (by rw [set_map,HCV.out];exact ind_rdv (X:=X) hg9.all (fun a e hx=>by cases e;have:=HXX.out _ hx;simp at this;omega) W hs hk)⟩,hB9⟩)
    have hbx:=(put0_box HX37.out (c:=⟨tk,tb,tneg,tma,tmn,tmc,te,ts,tka,tkn,tkc,some ⟨g,0,none⟩,tvn,tvn⟩)).cells
    unfold put0 at hbx HE
    unfold Cel.val at HE
    simp only at hbx HE
    obtain ⟨d0,d1,d2,d3,d4,d5,d6,d7⟩:=hbx
    clear hp9 hB9 hg9 hrep hsz9 hgs
    go_wp2
    exact bodyPost_ret (v:=.tuple #[.agg #[.int .i64 tk,.bool tb,.bool tneg,.slice tma tmn tmc,.int .i64 te,.string ts,.slice tka tkn tkc,.slice (some ⟨g,0,none⟩) tvn tvn],.bool true]) (by simp [results,Tryd.results56,go_sem,d0,d1,d2,d3,d4,d5,d6,d7]) rfl HE.out
end Go.Proofs.YticgggjfmhiilaaDoor
namespace Go.Proofs.YticgggjfmhiilaaDoor
open Go.RowKit Go.Sort
open Go.RowKit Go.Sort
def TB (w:World):Prop:=Lib.TabIs Tryd.prog w "internal/strconv.uint64pow10" .u64 Lib.pow10Tab
theorem TB.below {w w':World} (h:TB w) (hb:Below w.heap.size w w'):TB w':=Lib.tabBelow_of_tabIs h w' hb
end Go.Proofs.YticgggjfmhiilaaDoor
namespace Go.Proofs.YticgggjfmhiilaaDoor
open Go.RowKit Go.Sort
open Go.RowKit Go.Sort
open Go.RowKit Go.Sort

end Go.Proofs.YticgggjfmhiilaaDoor
