/- Texts of the claim. -/
import Derived.Test.YtnacbakcalcgaaaGreatDoorEz
import Derived.Deep.QuietTactic
import Derived.BigQuiet
import Derived.Lib.AppendStr
set_option linter.unusedVariables false
set_option linter.unusedSimpArgs false
set_option maxHeartbeats 4000000
set_option maxRecDepth 100000
namespace Go.Proofs.YtnacbakcalcgaaaGreatDoor
open Go.RowKit Go.Lib Go.Sort
def strV (l:List Nat):Value:=.string (strB l)
theorem strB_size (l:List Nat):(strB l).size=l.length:=by simp [strB,ByteArray.size]
theorem strB_data (l:List Nat):(strB l).data.toList=l.map fun x=>UInt8.ofNat x:=by simp [strB]
theorem piece_short {w0:World} {g:Nat} {l:List Nat} {d n:Nat} {w:World} (hr:RdC w0 g l d n w) (m i k:Nat) (h:l.length<k) (hk:k<18446744073709551616) :
    Calls Tryz.prog 148 #[.pointer (some ⟨g,0,none⟩),hdV (m,i,k)] w (TakC w0 g d n strV (cbPiece m k l) w):=by
  have hb1:Below w.heap.size w (w.alloc (.cells #[.int .i64 (m:Int),.int .i64 (i:Int),.int .u64 (k:Int)] 111)):=(Below.refl _ _).alloc (Nat.le_refl _) _
  have hn1:=heap_alloc_new w (.cells #[.int .i64 (m:Int),.int .i64 (i:Int),.int .u64 (k:Int)] 111)
  have hr1:=hr.on hb1
  obtain ⟨ad,cap,q1,q2,q3,_⟩:=hr1.cell
  have c0:(w.alloc (.cells #[.int .i64 (m:Int),.int .i64 (i:Int),.int .u64 (k:Int)] 111)).cell? ⟨g,0,none⟩=some (.slice ad l.length cap):=by simp only [World.cell?,q1];rfl
  have y2:(w.alloc (.cells #[.int .i64 (m:Int),.int .i64 (i:Int),.int .u64 (k:Int)] 111)).cell? ⟨w.heap.size,2,none⟩=some (.int .u64 (k:Int)):=by simp only [World.cell?,hn1];rfl
  have H1:=Lib.hid (StC.of_below hr hb1)
  have HE:Hid (cbPiece m k l=.inr 2):=Lib.hid (by unfold cbPiece;rw [if_pos h])
  have hll:=hr.len
  have e1:IntKind.u64.wrap (l.length:Int)=(l.length:Int):=u64_wrap _ (by omega) (by omega)
  have e2:decide ((l.length:Int)<(k:Int))=true:=decide_eq_true (by omega)
  unfold hdV
  clear hr hr1 hn1 hb1 q1 q2 q3
  generalize l.length=ln at *
  go_enter Tryz.func148,Tryz.ntmps148
  go_wp2_with fail
  go_quiet (fail)
  go_wp2_with fail
  exact ⟨rfl,TakC.no HE.out (ThrowC.mk (H1.out.drewN _))⟩
theorem shp_end {ad:Option Addr} {cap:Nat} (h:Shp ad cap):Shp ad 0:=by
  rcases h with ⟨h,_⟩ | h
  · exact .inl ⟨h,rfl⟩
  · exact .inr h
theorem piece_yes {m k:Nat} {l:List Nat} (h:¬ l.length<k) (hv:m=3→validB (l.take k)=true):cbPiece m k l=.inl (l.take k,l.drop k):=by
  unfold cbPiece
  rw [if_neg h,if_neg]
  rintro ⟨h1,h2⟩
  rw [hv h1] at h2
  cases h2
theorem piece_bad {k:Nat} {l:List Nat} (h:¬ l.length<k) (hv:validB (l.take k)=false):cbPiece 3 k l=.inr 2:=by
  unfold cbPiece
  rw [if_neg h,if_pos ⟨rfl,hv⟩]
theorem piece_long {w0:World} (hU:UT w0) {g:Nat} {l:List Nat} {d n:Nat} {w:World} (hr:RdC w0 g l d n w) (m i k:Nat) (h:¬ l.length<k) :
    Calls Tryz.prog 148 #[.pointer (some ⟨g,0,none⟩),hdV (m,i,k)] w (TakC w0 g d n strV (cbPiece m k l) w):=by
  have hb1:Below w.heap.size w (w.alloc (.cells #[.int .i64 (m:Int),.int .i64 (i:Int),.int .u64 (k:Int)] 111)):=(Below.refl _ _).alloc (Nat.le_refl _) _
  have hn1:=heap_alloc_new w (.cells #[.int .i64 (m:Int),.int .i64 (i:Int),.int .u64 (k:Int)] 111)
  have hr1:=hr.on hb1
  obtain ⟨ad,cap,q1,q2,q3,_⟩:=hr1.cell
  have c0:(w.alloc (.cells #[.int .i64 (m:Int),.int .i64 (i:Int),.int .u64 (k:Int)] 111)).cell? ⟨g,0,none⟩=some (.slice ad l.length cap):=by simp only [World.cell?,q1];rfl
  have y0:(w.alloc (.cells #[.int .i64 (m:Int),.int .i64 (i:Int),.int .u64 (k:Int)] 111)).cell? ⟨w.heap.size,0,none⟩=some (.int .i64 (m:Int)):=by simp only [World.cell?,hn1];rfl
  have y2:(w.alloc (.cells #[.int .i64 (m:Int),.int .i64 (i:Int),.int .u64 (k:Int)] 111)).cell? ⟨w.heap.size,2,none⟩=some (.int .u64 (k:Int)):=by simp only [World.cell?,hn1];rfl
  have H1:=Lib.hid (StC.of_below hr hb1)
  have hll:=hr.len
  have e1:IntKind.u64.wrap (l.length:Int)=(l.length:Int):=u64_wrap _ (by omega) (by omega)
  have e2:¬ l.length<k:=h
  have hsz:(strB (l.take k)).size≤maxLen:=by rw [strB_size,List.length_take];unfold maxLen;omega
  have hcv:∀ q,Sem.run Tryz.prog (convert 22 9 (.slice ad k cap)) ((w.alloc (.cells #[.int .i64 (m:Int),.int .i64 (i:Int),.int .u64 (k:Int)] 111)).drewN q)=.ok (.string (strB (l.take k))) ((w.alloc (.cells #[.int .i64 (m:Int),.int .i64 (i:Int),.int .u64 (k:Int)] 111)).drewN q):=fun q =>
    conv_bv _ ad k cap (l.take k) (by rw [List.length_take];omega) (by
      have:=(q3.take k).below hr1.env (fun a e hp=>q3.lt a e (by rw [List.length_take] at hp;omega))
      rw [bc_take] at this
      exact this)
  have hkc:k≤cap:=by omega
  have KV:=Lib.hid (fun W (hb:Below w0.heap.size w0 W)=>valid_any (strB (l.take k)) W hsz (hU.below hb))
  have HV:=Lib.hid (strB_data (l.take k))
  have hg:=hr.lt
  have HR:=Lib.hid hr1
  have HQ3:=Lib.hid q3
  have HPY:=Lib.hid (fun hv=>piece_yes (m:=m) h hv)
  have HPB:=Lib.hid (fun hv=>piece_bad h hv)
  unfold hdV
  clear hr hr1 hn1 hb1 q1 q3 h hsz
  generalize hln:l.length=ln at *
  have HLN:=Lib.hid hln
  clear hln
  generalize hs:strB (l.take k)=s at *
  have HS:=Lib.hid hs
  clear hs
  by_cases hm:m=3
  · have e3:((m:Int) == 3)=true:=by rw [beq_iff_eq];omega
    have HM:=Lib.hid hm
    clear hm
    cases hvb:validB (l.take k) with
    | false =>
      have HE:Hid (cbPiece m k l=.inr 2):=Lib.hid (by rw [HM.out];exact HPB.out hvb)
      have HVB:=Lib.hid hvb
      clear hvb
      go_enter Tryz.func148,Tryz.ntmps148
      go_wp2_with fail
      go_quiet (fail)
      go_wp2_with fail
      go_quiet (fail)
      go_wp2_with fail
      refine (KV.out _ ?_).mono ?_
      · exact (H1.out.drewN _).rd.env
      rintro r w1 ⟨rfl,hb⟩
      have HB:=Lib.hid ((H1.out.drewN _).more hb)
      have hvf:validL s.data.toList=false:=by rw [HV.out];exact HVB.out
      rw [hvf]
      clear hb hcv c0 y0 y2
      go_wp2_with fail
      exact ⟨rfl,TakC.no HE.out (ThrowC.mk HB.out)⟩
    | true =>
      have HE:=Lib.hid (HPY.out (fun _=>hvb))
      have HVB:=Lib.hid hvb
      clear hvb
      go_enter Tryz.func148,Tryz.ntmps148
      go_wp2_with fail
      go_quiet (fail)
      go_wp2_with fail
      go_quiet (fail)
      go_wp2_with fail
      refine (KV.out _ ?_).mono ?_
      · exact (H1.out.drewN _).rd.env
      rintro r W1 ⟨rfl,hb⟩
      have HB:=Lib.hid ((H1.out.drewN _).more hb)
      have hvf:validL s.data.toList=true:=by rw [HV.out];exact HVB.out
      rw [hvf]
      have y2:W1.cell? ⟨w.heap.size,2,none⟩=some (.int .u64 (k:Int)):=(hb.cell (p:=⟨w.heap.size,2,none⟩) (by simp [World.drewN])).trans y2
      clear hb hcv c0 y0
      go_wp2_with fail
      obtain ⟨adx,capx,p1,p2,p3,p4⟩:=HB.out.rd.cell
      have c0:W1.cell? ⟨g,0,none⟩=some (.slice adx ln capx):=by simp only [World.cell?,p1];rw [← HLN.out];rfl
      have q4:=rdv_left p3 k (by have:=HLN.out;omega) p2
      have f0:=HB.out.rd.fz 0
      have hdl:(l.drop k).length=ln - k:=by rw [List.length_drop,HLN.out]
      have hcx:ln≤capx:=by have:=HLN.out;omega
      by_cases hcc:capx=k
      · have HC:=Lib.hid ((HB.out.zero (l':=l.drop k) (ad:=adx) (k:=0) (cap:=0) (okb_drop HR.out.ok k) (by rw [hdl];omega) (by rw [hdl];omega) (by omega) (q4.1 hcc) (shp_end p4)).drew)
        obtain rfl:ln=k:=by omega
        subst hcc
        clear p1 p2 p3 q4 hdl
        go_region
        all_goals
          go_wp2_with fail
          go_ret
          exact TakC.yes HE.out (by unfold strV;rw [HS.out];rfl) HC.out
      · have hlt1:k<capx:=by omega
        obtain ⟨b,o,rfl⟩:∃ b o,adx=some ⟨b,o,none⟩:=by
          rcases p4 with ⟨_,h⟩ | h
          · omega
          · exact h
        have HC:=Lib.hid ((HB.out.zero (l':=l.drop k) (ad:=some ⟨b,o+k,none⟩) (k:=ln - k) (cap:=capx - k) (okb_drop HR.out.ok k) (by rw [hdl];omega) hdl (by omega) (q4.2 b o rfl) (.inr ⟨_,_,rfl⟩)).drew)
        clear p1 p2 p3 q4 hdl
        go_region
        all_goals
          go_wp2_with fail
          go_ret
          exact TakC.yes HE.out (by unfold strV;rw [HS.out];rfl) HC.out
  · have e3:((m:Int) == 3)=false:=by rw [beq_eq_false_iff_ne];omega
    have HE:=Lib.hid (HPY.out (fun h=>absurd h hm))
    clear hm
    go_enter Tryz.func148,Tryz.ntmps148
    go_wp2_with fail
    go_quiet (fail)
    go_wp2_with fail
    go_quiet (fail)
    go_wp2_with fail
    generalize hW1:(World.drewN (w.alloc _) _)=W1
    have HB:=Lib.hid (show StC w0 g l d n w W1 by rw [← hW1];exact H1.out.drewN _)
    have y2':W1.cell? ⟨w.heap.size,2,none⟩=some (.int .u64 (k:Int)):=by rw [← hW1];exact y2
    clear hW1 hcv c0 y0 y2
    obtain ⟨adx,capx,p1,p2,p3,p4⟩:=HB.out.rd.cell
    have c0:W1.cell? ⟨g,0,none⟩=some (.slice adx ln capx):=by simp only [World.cell?,p1];rw [← HLN.out];rfl
    have q4:=rdv_left p3 k (by have:=HLN.out;omega) p2
    have f0:=HB.out.rd.fz 0
    have hdl:(l.drop k).length=ln - k:=by rw [List.length_drop,HLN.out]
    have hcx:ln≤capx:=by have:=HLN.out;omega
    by_cases hcc:capx=k
    · have HC:=Lib.hid ((HB.out.zero (l':=l.drop k) (ad:=adx) (k:=0) (cap:=0) (okb_drop HR.out.ok k) (by rw [hdl];omega) (by rw [hdl];omega) (by omega) (q4.1 hcc) (shp_end p4)).drew)
      obtain rfl:ln=k:=by omega
      subst hcc
      clear p1 p2 p3 q4 hdl
      go_region
      all_goals
        go_wp2_with fail
        go_ret
        exact TakC.yes HE.out (by unfold strV;rw [HS.out];rfl) HC.out
    · have hlt1:k<capx:=by omega
      obtain ⟨b,o,rfl⟩:∃ b o,adx=some ⟨b,o,none⟩:=by
        rcases p4 with ⟨_,h⟩ | h
        · omega
        · exact h
      have HC:=Lib.hid ((HB.out.zero (l':=l.drop k) (ad:=some ⟨b,o+k,none⟩) (k:=ln - k) (cap:=capx - k) (okb_drop HR.out.ok k) (by rw [hdl];omega) hdl (by omega) (q4.2 b o rfl) (.inr ⟨_,_,rfl⟩)).drew)
      clear p1 p2 p3 q4 hdl
      go_region
      all_goals
        go_wp2_with fail
        go_ret
        exact TakC.yes HE.out (by unfold strV;rw [HS.out];rfl) HC.out
theorem own_keep {w w':World} {B:Nat} {e:TypeId} {size:Nat} {v:Value} {n:Nat} {xs:List Value} (h:w.ownsRow B e size v n xs) (hb:∀ k,v.ownBlock=some k→w'.heap[k]? = w.heap[k]?):w'.ownsRow B e size v n xs:=by
  refine ⟨h.1,?_⟩
  rcases h.2 with h2 | ⟨g,cap,cur,rfl,hB,hg,rest⟩
  · exact .inl h2
  · exact .inr ⟨g,cap,cur,rfl,hB,(hb g rfl).trans hg,rest⟩
theorem own_bd {w:World} {B:Nat} {e:TypeId} {size:Nat} {v:Value} {n:Nat} {xs:List Value} (h:w.ownsRow B e size v n xs) {k:Nat} (hk:v.ownBlock=some k):B≤k∧k<w.heap.size:=by
  rcases h.2 with ⟨rfl,_⟩ | ⟨g,cap,cur,rfl,hB,hg,_⟩
  · cases hk
  · cases hk
    exact ⟨hB,(Array.getElem?_eq_some_iff.1 hg).1⟩
theorem own_but {w w':World} {B g:Nat} {e:TypeId} {size:Nat} {v:Value} {n:Nat} {xs:List Value} (h:w.ownsRow B e size v n xs) (hb:But g w w') (hg:g<B):w'.ownsRow B e size v n xs :=
  own_keep h (fun k hk=>by have:=own_bd h hk;exact hb.block k this.2 (by omega))
theorem StC.grown {w0:World} {g:Nat} {l:List Nat} {d n:Nat} {w wr w':World} (h:StC w0 g l d n w wr) {B:Nat} {e:TypeId} {size:Nat} {v:Value} {m:Nat} {xs:List Value} (ho:wr.ownsRow B e size v m xs) (hB:w.heap.size≤B) (hg:wr.grownBy w' v.ownBlock) (hgl:g<w.heap.size) (hw0:w0.heap.size≤w.heap.size):StC w0 g l d n w w':=by
  have hblk:∀ k,k<wr.heap.size→k<w.heap.size→w'.heap[k]? = wr.heap[k]?:=fun k hk hk2=>hg.block k hk (fun e=>by have:=own_bd ho e.symm;omega)
  have hsz:=h.oth.size
  refine ⟨⟨hg.os.trans h.oth.os,hg.tape.trans h.oth.tape,hg.output.trans h.oth.output,Nat.le_trans h.oth.size hg.size,fun k hk hk2=>(hblk k (by omega) hk).trans (h.oth.block k hk hk2)⟩,?_⟩
  obtain ⟨ad,cap,h1,h2,h3,h4⟩:=h.rd.cell
  refine ⟨h.rd.low,⟨hg.os.trans h.rd.env.os,hg.tape.trans h.rd.env.tape,hg.output.trans h.rd.env.output,Nat.le_trans h.rd.env.size hg.size,fun k hk=>(hblk k (by omega) (by omega)).trans (h.rd.env.block k hk)⟩,h.rd.ok,h.rd.len,ad,cap,(hblk g (by omega) hgl).trans h1,h2,h3,h4⟩
theorem strCells_bc (l:List Nat) (h:Okb l):strCells (strB l)=bc l:=by
  unfold strCells bc
  rw [strB_data,List.map_map]
  apply List.map_congr_left
  intro x hx
  have h1:x<256:=h x hx
  have h2:(UInt8.ofNat x).toNat=x:=by simp;omega
  simp only [Function.comp,h2]
theorem cbParts_end {m f:Nat} {a l r:List Nat} (h:cbEnds l=.inl (true,r)):cbParts m (f+1) a l=.inl (a,r):=by
  rw [cbParts,h]
theorem cbParts_no {m f:Nat} {a l:List Nat} {x:Int} (h:cbEnds l=.inr x):cbParts m (f+1) a l=.inr x:=by
  rw [cbParts,h]
theorem cbParts_head {m f:Nat} {a l r:List Nat} {x:Int} (h:cbEnds l=.inl (false,r)) (h2:cbHead r=.inr x):cbParts m (f+1) a l=.inr x:=by
  rw [cbParts,h];simp only;rw [h2]
theorem cbParts_wrong {m f:Nat} {a l r r2:List Nat} {hd:HdC} (h:cbEnds l=.inl (false,r)) (h2:cbHead r=.inl (hd,r2)) (h3:hd.1 ≠ m∨hd.2.1=31):cbParts m (f+1) a l=.inr 2:=by
  rw [cbParts,h];simp only;rw [h2];simp only;rw [if_pos h3]
theorem cbParts_piece {m f:Nat} {a l r r2:List Nat} {hd:HdC} {x:Int} (h:cbEnds l=.inl (false,r)) (h2:cbHead r=.inl (hd,r2)) (h3:¬ (hd.1 ≠ m∨hd.2.1=31)) (h4:cbPiece hd.1 hd.2.2 r2=.inr x):cbParts m (f+1) a l=.inr x:=by
  rw [cbParts,h];simp only;rw [h2];simp only;rw [if_neg h3,h4]
theorem cbParts_limit {m f:Nat} {a l r r2 p r3:List Nat} {hd:HdC} (h:cbEnds l=.inl (false,r)) (h2:cbHead r=.inl (hd,r2)) (h3:¬ (hd.1 ≠ m∨hd.2.1=31)) (h4:cbPiece hd.1 hd.2.2 r2=.inl (p,r3)) (h5:2000<(a++p).length):cbParts m (f+1) a l=.inr 4:=by
  rw [cbParts,h];simp only;rw [h2];simp only;rw [if_neg h3,h4];simp only;rw [if_pos h5]
theorem cbParts_on {m f:Nat} {a l r r2 p r3:List Nat} {hd:HdC} (h:cbEnds l=.inl (false,r)) (h2:cbHead r=.inl (hd,r2)) (h3:¬ (hd.1 ≠ m∨hd.2.1=31)) (h4:cbPiece hd.1 hd.2.2 r2=.inl (p,r3)) (h5:¬ 2000<(a++p).length):cbParts m (f+1) a l=cbParts m f (a++p) r3:=by
  rw [cbParts,h];simp only;rw [h2];simp only;rw [if_neg h3,h4];simp only;rw [if_neg h5]
theorem cbEnds_len {l r:List Nat} {b:Bool} (h:cbEnds l=.inl (b,r)):r.length≤l.length:=by
  cases l with
  | nil=>cases h
  | cons c l =>
    unfold cbEnds at h
    simp only at h
    split at h <;> simp only [Sum.inl.injEq,Prod.mk.injEq] at h <;> obtain ⟨_,rfl⟩:=h <;> simp
theorem cbPiece_len {m k:Nat} {l p r:List Nat} (h:cbPiece m k l=.inl (p,r)):r.length≤l.length∧p=l.take k∧r=l.drop k∧k≤l.length:=by
  unfold cbPiece at h
  split at h
  · cases h
  · split at h
    · cases h
    · simp only [Sum.inl.injEq,Prod.mk.injEq] at h
      obtain ⟨rfl,rfl⟩:=h
      exact ⟨by rw [List.length_drop];omega,rfl,rfl,by omega⟩
theorem piece_cb {w0:World} (hU:UT w0) {g:Nat} {l:List Nat} {d n:Nat} {w:World} (hr:RdC w0 g l d n w) (m i k:Nat) (hk:k<18446744073709551616) :
    Calls Tryz.prog 148 #[.pointer (some ⟨g,0,none⟩),hdV (m,i,k)] w (TakC w0 g d n strV (cbPiece m k l) w):=by
  by_cases h:l.length<k
  · exact piece_short hr m i k h hk
  · exact piece_long hU hr m i k h
def PaRel (w0:World) (g d n m:Nat) (w:World) (R:(List Nat × List Nat) ⊕ Int) (k:Nat) (v:Value) (wr:World):Prop :=
  ∃ (a l:List Nat),wr.ownsRow w.heap.size 5 1 v a.length (bc a)∧Okb a∧a.length≤2000∧StC w0 g l d n w wr∧l.length<k∧cbParts m k a l=R
theorem parts_cb {w0:World} (hU:UT w0) {g:Nat} {l:List Nat} {d n:Nat} {w:World} (hr:RdC w0 g l d n w) (m:Nat) :
    Calls Tryz.prog 146 #[.pointer (some ⟨g,0,none⟩),.int .i64 (m:Int)] w (TakC w0 g d n strV (cbParts m (l.length+1) [] l) w):=by
  have H0:=Lib.hid (StC.refl hr)
  have hgl:=hr.lt
  have hw0:=hr.env.size
  clear hr
  generalize hR:cbParts m (l.length+1) [] l=R
  have HR:=Lib.hid hR
  clear hR
  go_enter Tryz.func146,Tryz.ntmps146
  go_wp2_with fail
  go_loopg [5] (l.length+1) (fun k v wr=>PaRel w0 g d n m w R k v wr)
  case atStart=>exact ⟨[],l,World.ownsRow_nil _ _ _ _,nofun,Nat.zero_le _,H0.out,Nat.lt_succ_self _,HR.out⟩
  case round =>
    obtain ⟨a,l1,ho,hoa,hal,hst,hk,hR1⟩:=hrel
    rcases gk with _ | f
    · omega
    · have KE:=Lib.hid (ends_cb hst.rd)
      have HO:=Lib.hid ho;have HOA:=Lib.hid hoa;have HST:=Lib.hid hst;have HR1:=Lib.hid hR1
      obtain ⟨ad,cap,rfl,hc,hrv,_,_,hnil⟩:=own_viewN ho
      clear ho hoa hst hR1 hrv hnil hc
      go_wp2_with fail
      refine KE.out.mono ?_
      intro r w1 hp
      cases he:cbEnds l1 with
      | inr x =>
        rw [he] at hp
        obtain ⟨rfl,l',d',n',h1⟩:=hp
        have H1:=Lib.hid (HST.out.trans h1)
        have HE:=Lib.hid (HR1.out.symm.trans (cbParts_no he))
        clear h1 he KE
        go_wp2_with fail
        exact ⟨rfl,TakC.no HE.out (ThrowC.mk H1.out)⟩
      | inl p =>
        obtain ⟨b,r1⟩:=p
        rw [he] at hp
        obtain ⟨rfl,h1⟩:=hp
        unfold boolV
        cases b with
        | true =>
          have H1:=Lib.hid (HST.out.trans h1)
          have HE:=Lib.hid (HR1.out.symm.trans (cbParts_end he))
          have ho1:=own_but HO.out h1.oth hgl
          obtain ⟨_,_,e1,hc,hrv,_,_,hnil⟩:=own_viewN ho1
          cases e1
          have hcv:=conv_bv w1 ad a.length cap a rfl hrv
          clear h1 he KE ho1 hc hrv hnil
          generalize hsa:strB a=sa at *
          have HSA:=Lib.hid hsa
          clear hsa
          generalize a.length=na at *
          go_wp2_with fail
          go_ret
          exact TakC.yes HE.out (by unfold strV;rw [HSA.out];rfl) H1.out
        | false =>
          have KH:=Lib.hid (head_cb h1.rd)
          have H1:=Lib.hid (HST.out.trans h1)
          have HEN:=Lib.hid he
          have HO1:=Lib.hid (own_but HO.out h1.oth hgl)
          clear h1 he KE
          go_wp2_with fail
          refine KH.out.mono ?_
          intro r w2 hp
          cases hh:cbHead r1 with
          | inr x =>
            rw [hh] at hp
            obtain ⟨rfl,l',d',n',h2⟩:=hp
            have H2:=Lib.hid (H1.out.trans h2)
            have HE:=Lib.hid (HR1.out.symm.trans (cbParts_head HEN.out hh))
            clear h2 hh KH
            go_wp2_with fail
            exact ⟨rfl,TakC.no HE.out (ThrowC.mk H2.out)⟩
          | inl p =>
            obtain ⟨⟨hm,hi,hn⟩,r2⟩:=p
            rw [hh] at hp
            obtain ⟨rfl,h2⟩:=hp
            have hok:=cbHead_ok H1.out.rd.ok hh
            have H2:=Lib.hid ((H1.out.trans h2).alloc (.cells #[.int .i64 (hm:Int),.int .i64 (hi:Int),.int .u64 (hn:Int)] 111))
            have HO2:=Lib.hid ((own_but HO1.out h2.oth hgl).alloc (.cells #[.int .i64 (hm:Int),.int .i64 (hi:Int),.int .u64 (hn:Int)] 111))
            have HH:=Lib.hid hh
            have hbx:=heap_alloc_new w2 (.cells #[.int .i64 (hm:Int),.int .i64 (hi:Int),.int .u64 (hn:Int)] 111)
            have HLT:=Lib.hid (show r2.length<f by have:=hok.lt;have:=cbEnds_len HEN.out;omega)
            have y0:(w2.alloc (.cells #[.int .i64 (hm:Int),.int .i64 (hi:Int),.int .u64 (hn:Int)] 111)).cell? ⟨w2.heap.size,0,none⟩=some (.int .i64 (hm:Int)):=by simp only [World.cell?,hbx];rfl
            have y1:(w2.alloc (.cells #[.int .i64 (hm:Int),.int .i64 (hi:Int),.int .u64 (hn:Int)] 111)).cell? ⟨w2.heap.size,1,none⟩=some (.int .i64 (hi:Int)):=by simp only [World.cell?,hbx];rfl
            have y2:(w2.alloc (.cells #[.int .i64 (hm:Int),.int .i64 (hi:Int),.int .u64 (hn:Int)] 111)).cell? ⟨w2.heap.size,2,none⟩=some (.int .u64 (hn:Int)):=by simp only [World.cell?,hbx];rfl
            have HNN:=Lib.hid hok.n
            unfold hdV
            clear h2 hh KH hbx hok hk
            by_cases hmm:hm=m
            · have e1:((hm:Int) != (m:Int))=false:=by rw [bne_eq_false_iff_eq];omega
              have HMM:=Lib.hid hmm
              clear hmm
              have KO:=Lib.hid (open_cb hm hi hn (w2.alloc (.cells #[.int .i64 (hm:Int),.int .i64 (hi:Int),.int .u64 (hn:Int)] 111)))
              go_wp2_with fail
              refine KO.out.mono ?_
              rintro r w3 ⟨rfl,h3⟩
              have H3:=Lib.hid (H2.out.more h3)
              have HO3:=Lib.hid (own_onN HO2.out h3)
              have y0:=(h3.cell (p:=⟨w2.heap.size,0,none⟩) (by simp)).trans y0
              have y1:=(h3.cell (p:=⟨w2.heap.size,1,none⟩) (by simp)).trans y1
              have y2:=(h3.cell (p:=⟨w2.heap.size,2,none⟩) (by simp)).trans y2
              clear h3 KO
              by_cases h31:hi=31
              · have e2:decide (hi=31)=true:=decide_eq_true h31
                have HE:=Lib.hid (HR1.out.symm.trans (cbParts_wrong HEN.out HH.out (.inr h31)))
                rw [e2]
                clear h31 e2
                go_wp2_with fail
                exact ⟨rfl,TakC.no HE.out (ThrowC.mk H3.out)⟩
              · have e2:decide (hi=31)=false:=decide_eq_false h31
                have HNW:Hid (¬ (hm ≠ m∨hi=31)):=Lib.hid (fun h=>h.elim (fun h=>h HMM.out) h31)
                have KP:=Lib.hid (piece_cb hU H3.out.rd hm hi hn HNN.out)
                rw [e2]
                clear h31 e2
                go_wp2_with fail
                refine KP.out.mono ?_
                intro r w4 hp
                cases hq:cbPiece hm hn r2 with
                | inr x =>
                  rw [hq] at hp
                  obtain ⟨rfl,l',d',n',h4⟩:=hp
                  have H4:=Lib.hid (H3.out.trans h4)
                  have HE:=Lib.hid (HR1.out.symm.trans (cbParts_piece HEN.out HH.out HNW.out hq))
                  clear h4 hq KP y0 y1 y2
                  go_wp2_with fail
                  exact ⟨rfl,TakC.no HE.out (ThrowC.mk H4.out)⟩
                | inl p =>
                  obtain ⟨p,r3⟩:=p
                  rw [hq] at hp
                  obtain ⟨rfl,h4⟩:=hp
                  obtain ⟨hl3,hp3,_,_⟩:=cbPiece_len hq
                  have H4:=Lib.hid (H3.out.trans h4)
                  have HO4:=Lib.hid (own_but HO3.out h4.oth hgl)
                  have HQ:=Lib.hid hq
                  have hop:Okb p:=by rw [hp3];exact okb_take H3.out.rd.ok _
                  have hpl:p.length≤1000000:=by rw [hp3,List.length_take];have:=H3.out.rd.len;omega
                  have HOP:=Lib.hid hop
                  have HL3:=Lib.hid hl3
                  have HBW:=Lib.hid H4.out.oth.size
                  have HSC:=Lib.hid (strCells_bc p hop)
                  have hsz:=strB_size p
                  have HPL:=Lib.hid hpl
                  clear h4 hq KP y0 y1 y2 hp3 hop
                  unfold strV
                  obtain ⟨i0,hi0,hz0,hz1,hz2⟩:=info_parts info_u8
                  generalize hsp:strB p=sp at *
                  have HSP:=Lib.hid hsp
                  have HI0:=Lib.hid hi0;have HZ0:=Lib.hid hz0;have HZ1:=Lib.hid hz1;have HZ2:=Lib.hid hz2;have HSZ:=Lib.hid hsz
                  clear hsp hi0 hz0 hz1 hz2 hsz hpl hl3
                  go_wp2_with (at_builtin;refine wpList_append_own_string _ rfl _ _ 22 9 rfl w.heap.size 5 i0 Tryz.underlying22 Tryz.underlying9 HI0.out HZ0.out HZ1.out HZ2.out _ a.length (bc a) rfl HO4.out sp rfl (by have:=HSZ.out;have:=HPL.out;unfold maxLen;omega) (by have:=HSZ.out;have:=HPL.out;omega) HBW.out ?_)
                  intro v' w5 ho5 hg5 _
                  have H5:=Lib.hid (H4.out.grown HO4.out (Nat.le_refl _) hg5 hgl hw0)
                  rw [HSC.out,← bc_app] at ho5
                  have HLE:Hid (a.length+sp.size=(a++p).length):=Lib.hid (by rw [List.length_append,HSZ.out])
                  rw [HLE.out] at ho5
                  have HO5:=Lib.hid ho5
                  have HOA5:Hid (Okb (a++p)):=Lib.hid (fun x hx=>(List.mem_append.1 hx).elim (HOA.out x) (HOP.out x))
                  obtain ⟨ad5,cap5,rfl,_⟩:=own_viewN ho5
                  clear ho5 hg5
                  by_cases h2k:2000<(a++p).length
                  · have HE:=Lib.hid (HR1.out.symm.trans (cbParts_limit HEN.out HH.out HNW.out HQ.out h2k))
                    generalize (a++p).length=nap at *
                    have e3:decide ((2000:Int)<(nap:Int))=true:=decide_eq_true (by omega)
                    go_wp2_with fail
                    exact ⟨rfl,TakC.no HE.out (ThrowC.mk H5.out)⟩
                  · have HE:=Lib.hid ((cbParts_on HEN.out HH.out HNW.out HQ.out h2k).symm.trans HR1.out)
                    generalize hap:a++p=ap at *
                    have HAP:=Lib.hid hap
                    generalize hnap:ap.length=nap at *
                    have HNAP:=Lib.hid hnap
                    clear hap hnap
                    have e3:¬ 2000<nap:=h2k
                    go_wp2_with fail
                    go_roundg f
                    case measure=>omega
                    case rel=>exact ⟨ap,r3,by rw [HNAP.out];exact HO5.out,HOA5.out,by rw [HNAP.out];omega,H5.out,Nat.lt_of_le_of_lt HL3.out HLT.out,HE.out⟩
            · have e1:((hm:Int) != (m:Int))=true:=by rw [bne_iff_ne];omega
              have HE:=Lib.hid (HR1.out.symm.trans (cbParts_wrong HEN.out HH.out (.inl hmm)))
              clear hmm
              go_wp2_with fail
              exact ⟨rfl,TakC.no HE.out (ThrowC.mk H2.out)⟩
def boxH (w:World) (h:HdC):World:=w.alloc (.cells #[.int .i64 (h.1:Int),.int .i64 (h.2.1:Int),.int .u64 (h.2.2:Int)] 111)
theorem boxH_cells (w:World) (h:HdC):(boxH w h).cell? ⟨w.heap.size,0,none⟩=some (.int .i64 (h.1:Int))∧(boxH w h).cell? ⟨w.heap.size,1,none⟩=some (.int .i64 (h.2.1:Int))∧(boxH w h).cell? ⟨w.heap.size,2,none⟩=some (.int .u64 (h.2.2:Int)):=by
  have hn1:=heap_alloc_new w (.cells #[.int .i64 (h.1:Int),.int .i64 (h.2.1:Int),.int .u64 (h.2.2:Int)] 111)
  unfold boxH
  refine ⟨?_,?_,?_⟩ <;> simp only [World.cell?,hn1] <;> rfl
theorem boxH_below (w:World) (h:HdC):Below w.heap.size w (boxH w h):=(Below.refl _ _).alloc (Nat.le_refl _) _
theorem boxH_size (w:World) (h:HdC):w.heap.size<(boxH w h).heap.size:=by unfold boxH;simp
theorem text_cb {w0:World} (hU:UT w0) {g:Nat} {l:List Nat} {d n:Nat} {w:World} (hr:RdC w0 g l d n w) (m i k:Nat) (hk:k<18446744073709551616) :
    Calls Tryz.prog 107 #[.pointer (some ⟨g,0,none⟩),hdV (m,i,k)] w (TakC w0 g d n strV (cbText (m,i,k) l) w):=by
  have hb1:=boxH_below w (m,i,k)
  obtain ⟨y0,y1,y2⟩:=boxH_cells w (m,i,k)
  have hsz:=boxH_size w (m,i,k)
  have H1:=Lib.hid (StC.of_below hr hb1)
  have KO:=Lib.hid (open_cb m i k (boxH w (m,i,k)))
  have HKB:=Lib.hid hk
  unfold hdV
  unfold boxH at *
  simp only at *
  clear hr hb1 hk
  go_enter Tryz.func107,Tryz.ntmps107
  go_wp2_with fail
  refine KO.out.mono ?_
  rintro r w1 ⟨rfl,hb⟩
  have H2:=Lib.hid (H1.out.more hb)
  have y0:=(hb.cell (p:=⟨w.heap.size,0,none⟩) hsz).trans y0
  have y1:=(hb.cell (p:=⟨w.heap.size,1,none⟩) hsz).trans y1
  have y2:=(hb.cell (p:=⟨w.heap.size,2,none⟩) hsz).trans y2
  have hlt1:w.heap.size<w1.heap.size:=Nat.lt_of_lt_of_le hsz hb.size
  clear hb KO
  by_cases h31:i=31
  · have e2:decide (i=31)=true:=decide_eq_true h31
    have HE:Hid (cbText (m,i,k) l=cbParts m (l.length+1) [] l):=Lib.hid (by unfold cbText;simp only;rw [if_pos h31])
    have KP:=Lib.hid (parts_cb hU H2.out.rd m)
    rw [e2]
    clear h31 e2
    go_wp2_with fail
    refine KP.out.mono ?_
    intro r w2 hp
    cases hq:cbParts m (l.length+1) [] l with
    | inr x =>
      rw [hq] at hp
      obtain ⟨rfl,l',d',n',h2⟩:=hp
      have H3:=Lib.hid (H2.out.trans h2)
      have HQ:=Lib.hid (HE.out.trans hq)
      clear h2 hq KP
      go_wp2_with fail
      exact ⟨rfl,TakC.no HQ.out (ThrowC.mk H3.out)⟩
    | inl p =>
      obtain ⟨p,r⟩:=p
      rw [hq] at hp
      obtain ⟨rfl,h2⟩:=hp
      have H3:=Lib.hid (H2.out.trans h2)
      have HQ:=Lib.hid (HE.out.trans hq)
      unfold strV
      clear h2 hq KP
      go_wp2_with fail
      go_ret
      exact TakC.yes HQ.out rfl H3.out
  · have e2:decide (i=31)=false:=decide_eq_false h31
    have KR:=Lib.hid (refuse_cb m i k 2000 w1)
    have HE0:Hid (cbText (m,i,k) l=if 2000<k then .inr 4 else cbPiece m k l):=Lib.hid (by unfold cbText;simp only;rw [if_neg h31])
    rw [e2]
    clear h31 e2
    go_wp2_with fail
    refine KR.out.mono ?_
    rintro r w2 ⟨hb,⟨hle,rfl⟩ | ⟨hlt,rfl⟩⟩
    · have H3:=Lib.hid (H2.out.more hb)
      have HE:Hid (cbText (m,i,k) l=cbPiece m k l):=Lib.hid (HE0.out.trans (if_neg (by omega)))
      have y0:=(hb.cell (p:=⟨w.heap.size,0,none⟩) hlt1).trans y0
      have y1:=(hb.cell (p:=⟨w.heap.size,1,none⟩) hlt1).trans y1
      have y2:=(hb.cell (p:=⟨w.heap.size,2,none⟩) hlt1).trans y2
      have KP:=Lib.hid (piece_cb hU H3.out.rd m i k HKB.out)
      clear hb KR hle
      go_wp2_with fail
      refine KP.out.mono ?_
      intro r w3 hp
      cases hq:cbPiece m k l with
      | inr x =>
        rw [hq] at hp
        obtain ⟨rfl,l',d',n',h2⟩:=hp
        have H4:=Lib.hid (H3.out.trans h2)
        have HQ:=Lib.hid (HE.out.trans hq)
        clear h2 hq KP
        go_wp2_with fail
        exact ⟨rfl,TakC.no HQ.out (ThrowC.mk H4.out)⟩
      | inl p =>
        obtain ⟨p,r⟩:=p
        rw [hq] at hp
        obtain ⟨rfl,h2⟩:=hp
        have H4:=Lib.hid (H3.out.trans h2)
        have HQ:=Lib.hid (HE.out.trans hq)
        unfold strV
        clear h2 hq KP
        go_wp2_with fail
        go_ret
        exact TakC.yes HQ.out rfl H4.out
    · have H3:=Lib.hid (H2.out.more hb)
      have HE:Hid (cbText (m,i,k) l=.inr 4):=Lib.hid (HE0.out.trans (if_pos hlt))
      clear hb KR hlt
      go_wp2_with fail
      exact ⟨rfl,TakC.no HE.out (ThrowC.mk H3.out)⟩
theorem more_cb {w0:World} {g:Nat} {l:List Nat} {d n:Nat} {w:World} (hr:RdC w0 g l d n w) (m i k t:Nat) (ht:t≤1000) :
    Calls Tryz.prog 149 #[.pointer (some ⟨g,0,none⟩),hdV (m,i,k),.int .i64 (t:Int)] w (TakC w0 g d n boolV (cbMore (decide (i=31)) k t l) w):=by
  have hb1:=boxH_below w (m,i,k)
  obtain ⟨y0,y1,y2⟩:=boxH_cells w (m,i,k)
  have hsz:=boxH_size w (m,i,k)
  have H1:=Lib.hid (StC.of_below hr hb1)
  have KO:=Lib.hid (open_cb m i k (boxH w (m,i,k)))
  have etw:IntKind.u64.wrap (t:Int)=(t:Int):=u64_wrap _ (by omega) (by omega)
  generalize hop:decide (i=31)=op at *
  clear hop
  unfold hdV
  unfold boxH at *
  simp only at *
  clear hr hb1
  go_enter Tryz.func149,Tryz.ntmps149
  go_wp2_with fail
  refine KO.out.mono ?_
  rintro r w1 ⟨rfl,hb⟩
  have H2:=Lib.hid (H1.out.more hb)
  have y2:=(hb.cell (p:=⟨w.heap.size,2,none⟩) hsz).trans y2
  clear hb KO y0 y1
  cases op with
  | false =>
    have HE:Hid (cbMore false k t l=.inl (decide (t<k),l)):=Lib.hid (by simp [cbMore])
    go_wp2_with fail
    go_ret
    exact TakC.yes HE.out (by unfold boolV;simp) H2.out
  | true =>
    have KE:=Lib.hid (ends_cb H2.out.rd)
    clear y2
    go_wp2_with fail
    refine KE.out.mono ?_
    intro r w2 hp
    cases he:cbEnds l with
    | inr x =>
      rw [he] at hp
      obtain ⟨rfl,l',d',n',h2⟩:=hp
      have H3:=Lib.hid (H2.out.trans h2)
      have HE:Hid (cbMore true k t l=.inr x):=Lib.hid (by simp [cbMore,he])
      clear h2 he KE
      go_wp2_with fail
      exact ⟨rfl,TakC.no HE.out (ThrowC.mk H3.out)⟩
    | inl p =>
      obtain ⟨b,r⟩:=p
      rw [he] at hp
      obtain ⟨rfl,h2⟩:=hp
      have H3:=Lib.hid (H2.out.trans h2)
      unfold boolV at *
      cases b with
      | true =>
        have HE:Hid (cbMore true k t l=.inl (false,r)):=Lib.hid (by simp [cbMore,he])
        clear h2 he KE
        go_wp2_with fail
        go_ret
        exact TakC.yes HE.out rfl H3.out
      | false =>
        by_cases h3:t=300
        · have HE:Hid (cbMore true k t l=.inr 4):=Lib.hid (by simp [cbMore,he,h3])
          have e3:((t:Int) == 300)=true:=by rw [beq_iff_eq];omega
          clear h2 he KE h3
          go_wp2_with fail
          exact ⟨rfl,TakC.no HE.out (ThrowC.mk H3.out)⟩
        · have HE:Hid (cbMore true k t l=.inl (true,r)):=Lib.hid (by simp [cbMore,he,h3])
          have e3:((t:Int) == 300)=false:=by rw [beq_eq_false_iff_ne];omega
          clear h2 he KE h3
          go_wp2_with fail
          go_ret
          exact TakC.yes HE.out rfl H3.out
theorem name_cb {w0:World} (hU:UT w0) {g:Nat} {l:List Nat} {d n:Nat} {w:World} (hr:RdC w0 g l d n w) :
    Calls Tryz.prog 150 #[.pointer (some ⟨g,0,none⟩)] w (TakC w0 g d n strV (cbName l) w):=by
  have KF:=Lib.hid (first_cb hr)
  clear hr
  go_enter Tryz.func150,Tryz.ntmps150
  go_wp2_with fail
  refine KF.out.mono ?_
  intro r w1 hp
  cases l with
  | nil =>
    obtain ⟨rfl,l',d',n',h1⟩:=hp
    have H1:=Lib.hid h1
    clear h1 KF
    go_wp2_with fail
    exact ⟨rfl,TakC.no rfl (ThrowC.mk H1.out)⟩
  | cons c r =>
    obtain ⟨rfl,h1⟩:=hp
    have H1:=Lib.hid h1
    have hc:c<256:=h1.rd.ok c (List.mem_cons_self ..)
    have KH:=Lib.hid (head_cb h1.rd)
    unfold u8V
    clear h1 KF
    by_cases h3:c / 32=3
    · have e1:((c:Int) / 32 != 3)=false:=by rw [bne_eq_false_iff_eq];omega
      have HE0:Hid (∀ x,cbHead (c::r)=.inr x→cbName (c::r)=.inr x):=Lib.hid (fun x hx=>by unfold cbName;simp [h3,hx])
      have HE1:Hid (∀ p,cbHead (c::r)=.inl p→cbName (c::r)=cbText p.1 p.2):=Lib.hid (fun x hx=>by unfold cbName;simp [h3,hx])
      clear h3
      go_wp2_with fail
      refine KH.out.mono ?_
      intro r2 w2 hp
      cases hh:cbHead (c::r) with
      | inr x =>
        rw [hh] at hp
        obtain ⟨rfl,l',d',n',h2⟩:=hp
        have H2:=Lib.hid (H1.out.trans h2)
        have HE:=Lib.hid (HE0.out x hh)
        clear h2 hh KH
        go_wp2_with fail
        exact ⟨rfl,TakC.no HE.out (ThrowC.mk H2.out)⟩
      | inl p =>
        obtain ⟨⟨m,i,k⟩,r3⟩:=p
        rw [hh] at hp
        obtain ⟨rfl,h2⟩:=hp
        have hok:=cbHead_ok H1.out.rd.ok hh
        have H2:=Lib.hid (H1.out.trans h2)
        have HE:=Lib.hid (HE1.out _ hh)
        have KT:=Lib.hid (text_cb hU h2.rd m i k hok.n)
        clear h2 hh KH hok
        go_wp2_with fail
        refine KT.out.mono ?_
        intro r4 w3 hp
        cases hq:cbText (m,i,k) r3 with
        | inr x =>
          rw [hq] at hp
          obtain ⟨rfl,l',d',n',h3⟩:=hp
          have H3:=Lib.hid (H2.out.trans h3)
          have HQ:=Lib.hid (HE.out.trans hq)
          clear h3 hq KT
          go_wp2_with fail
          exact ⟨rfl,TakC.no HQ.out (ThrowC.mk H3.out)⟩
        | inl p =>
          obtain ⟨p,r5⟩:=p
          rw [hq] at hp
          obtain ⟨rfl,h3⟩:=hp
          have H3:=Lib.hid (H2.out.trans h3)
          have HQ:=Lib.hid (HE.out.trans hq)
          unfold strV
          clear h3 hq KT
          go_wp2_with fail
          go_ret
          exact TakC.yes HQ.out rfl H3.out
    · have e1:((c:Int) / 32 != 3)=true:=by rw [bne_iff_ne];omega
      have HE:Hid (cbName (c::r)=.inr 3):=Lib.hid (by unfold cbName;simp [h3])
      clear h3 KH
      go_wp2_with fail
      exact ⟨rfl,TakC.no HE.out (ThrowC.mk H1.out)⟩
def IdxC (x:Nat) (l:List Nat) (w:World) (e:Ending) (w':World):Prop:=∃ r:Int,e=.returned (.int .i64 r)∧(0≤r ↔ x∈l)∧w'=w
theorem index_cb (b o n cap x:Nat) (l:List Nat) (w:World) (hl:l.length=n) (hn:n≤1000) (hr:RdV w (some ⟨b,o,none⟩) (bc l)) :
    Calls Tryz.prog 212 #[.slice (some ⟨b,o,none⟩) n cap,.int .u8 (x:Int)] w (IdxC x l w):=by
  have HR:=Lib.hid hr
  have HL:=Lib.hid hl
  clear hr hl
  go_enter Tryz.func212,Tryz.ntmps212
  go_wp2_with fail
  go_loopg [8] (n+1) (fun k v wr=>∃ j:Nat,v=.int .i64 (j:Int)∧j≤n∧k=n+1 - j∧wr=w∧Hid (∀ i,i<j→l.getD i 0 ≠ x))
  case atStart=>exact ⟨0,rfl,Nat.zero_le _,rfl,rfl,Lib.hid (fun i h=>absurd h (Nat.not_lt_zero _))⟩
  case round =>
    obtain ⟨j,rfl,hj,hk,rfl,hb⟩:=hrel
    by_cases hjn:j<n
    · have c0:wr.cell? ⟨b,o+j,none⟩=some (.int .u8 ((l.getD j 0:Nat):Int)):=by rw [HR.out.at j (by rw [bc_len,HL.out];exact hjn),bc_get l j (by rw [HL.out];exact hjn)]
      generalize hy:l.getD j 0=y at *
      have HY:=Lib.hid hy
      clear hy
      by_cases hxy:x=y
      · have e1:((x:Int) == (y:Int))=true:=by rw [beq_iff_eq];omega
        have HM:Hid (x∈l):=Lib.hid (by
          rw [hxy,← HY.out]
          have:l.getD j 0=l[j]'(by rw [HL.out];exact hjn):=by simp [List.getD,HL.out,hjn]
          rw [this];exact List.getElem_mem _)
        clear hxy
        go_wp2_with fail
        go_ret
        exact ⟨(j:Int),rfl,⟨fun _=>HM.out,fun _=>by omega⟩,rfl⟩
      · have e1:((x:Int) == (y:Int))=false:=by rw [beq_eq_false_iff_ne];omega
        have HB2:Hid (∀ i,i<j+1→l.getD i 0 ≠ x):=Lib.hid (fun i hi=>by
          rcases Nat.lt_or_ge i j with h | h
          · exact hb.out i h
          · obtain rfl:i=j:=by omega
            rw [HY.out];exact fun h=>hxy h.symm)
        clear hxy hb
        go_wp2_with fail
        go_roundg (n+1 - (j+1))
        case measure=>omega
        case rel=>exact ⟨j+1,by go_num,by omega,by omega,rfl,HB2⟩
    · obtain rfl:j=n:=by omega
      have HM:Hid (x ∉ l):=Lib.hid (fun hm=>by
        obtain ⟨i,hi,e⟩:=List.getElem_of_mem hm
        refine hb.out i (by rw [← HL.out];exact hi) ?_
        rw [← e];simp [List.getD,hi])
      clear hb
      go_wp2_with fail
      go_ret
      exact ⟨-1,rfl,⟨fun h=>absurd h (by decide),fun h=>absurd h HM.out⟩,rfl⟩
theorem contains_cb (b o n cap x:Nat) (l:List Nat) (w:World) (hl:l.length=n) (hn:n≤1000) (hr:RdV w (some ⟨b,o,none⟩) (bc l)) :
    Calls Tryz.prog 204 #[.slice (some ⟨b,o,none⟩) n cap,.int .u8 (x:Int)] w fun e w'=>e=.returned (.bool (decide (x∈l)))∧w'=w:=by
  have K:=Lib.hid (index_cb b o n cap x l w hl hn hr)
  clear hr hl
  by_cases hm:x∈l
  · have HD:=Lib.hid (decide_eq_true hm)
    have HM:=Lib.hid hm
    clear hm
    go_enter Tryz.func204,Tryz.ntmps204
    go_wp2_with fail
    refine K.out.mono ?_
    rintro r w1 ⟨k,rfl,h1,rfl⟩
    have H2:=Lib.hid (decide_eq_true (h1.2 HM.out))
    clear h1
    go_wp2_with fail
    go_ret
    exact ⟨by rw [HD.out,← H2.out];rfl,rfl⟩
  · have HD:=Lib.hid (decide_eq_false hm)
    have HM:=Lib.hid hm
    clear hm
    go_enter Tryz.func204,Tryz.ntmps204
    go_wp2_with fail
    refine K.out.mono ?_
    rintro r w1 ⟨k,rfl,h1,rfl⟩
    have H2:=Lib.hid (decide_eq_false (show ¬ 0≤k from fun h=>HM.out (h1.1 h)))
    clear h1
    go_wp2_with fail
    go_ret
    exact ⟨by rw [HD.out,← H2.out];rfl,rfl⟩
theorem part_mem {a b c:Nat} {ms:List Nat} (h:∀ x,x∈ms ↔ x=a∨x=b):c / 32∈ms ↔ ¬ (c / 32 ≠ a∧c / 32 ≠ b):=by
  rw [h];omega
theorem part_cb {w0:World} {g:Nat} {l:List Nat} {d n:Nat} {w:World} (hr:RdC w0 g l d n w) (a b:Nat) (ms:List Nat) (mb nm cap:Nat) (hms:∀ x,x∈ms ↔ x=a∨x=b) (hl:ms.length=nm) (hnm:nm≤1000) (hrm:RdV w (some ⟨mb,0,none⟩) (bc ms)) (hmb:0<nm) (hgm:mb ≠ g) :
    Calls Tryz.prog 192 #[.pointer (some ⟨g,0,none⟩),.slice (some ⟨mb,0,none⟩) nm cap] w (TakC w0 g d n hdV (cbPart a b l) w):=by
  have hb1:Below w.heap.size w (w.alloc (.cells #[.int .i64 0,.int .i64 0,.int .u64 0] 111)):=(Below.refl _ _).alloc (Nat.le_refl _) _
  have hn1:=heap_alloc_new w (.cells #[.int .i64 0,.int .i64 0,.int .u64 0] 111)
  have H1:=Lib.hid (StC.of_below hr hb1)
  have KF:=Lib.hid (first_cb H1.out.rd)
  have HRM:=Lib.hid (hrm.on hb1)
  have HML:=Lib.hid hl
  have hg:=hr.lt
  have hlow:=hr.env.size
  have HN1:=Lib.hid hn1
  have hne:¬ g=w.heap.size:=by omega
  have hne2:¬ w.heap.size=g:=by omega
  clear hr hb1 hrm hn1
  go_enter Tryz.func192,Tryz.ntmps192
  go_wp2_with fail
  refine KF.out.mono ?_
  intro r w1 hp
  cases l with
  | nil =>
    obtain ⟨rfl,l',d',n',h1⟩:=hp
    have H2:=Lib.hid (H1.out.trans h1)
    clear h1 KF
    go_wp2_with fail
    exact ⟨rfl,TakC.no rfl (ThrowC.mk H2.out)⟩
  | cons c r =>
    obtain ⟨rfl,h1⟩:=hp
    have H2:=Lib.hid (H1.out.trans h1)
    have hc:c<256:=h1.rd.ok c (List.mem_cons_self ..)
    have hrm1:RdV w1 (some ⟨mb,0,none⟩) (bc ms):=h1.oth.rd HRM.out (fun a e _=>by cases e;exact hgm)
    have KC:=Lib.hid (contains_cb mb 0 nm cap (c / 32) ms w1 HML.out hnm hrm1)
    have HBX:=Lib.hid ((h1.oth.block w.heap.size (by simp) hne2).trans HN1.out)
    have KH:=Lib.hid (head_cb h1.rd)
    have hcd:(((c / 32:Nat)):Int)=(c:Int) / 32:=by omega
    rw [hcd] at KC
    unfold u8V
    clear h1 KF hrm1 hcd
    go_wp2_with fail
    refine KC.out.mono ?_
    rintro x w2 ⟨rfl,rfl⟩
    by_cases hm:c / 32∈ms
    · have e1:decide (c / 32∈ms)=true:=decide_eq_true hm
      have hm2:=(part_mem (c:=c) hms).1 hm
      have e31:bits .and .u8 (c:Int) 31=((c % 32:Nat):Int):=by rw [u8_and31 (x:=(c:Int)) (by omega) (by omega)];omega
      rw [e1]
      clear e1 hm KC
      by_cases h31:c % 32=31
      · have e2:(((c % 32:Nat):Int) == 31)=true:=by rw [beq_iff_eq];omega
        have HE:Hid (cbPart a b (c::r)=.inr 3):=Lib.hid (by unfold cbPart;simp only;rw [if_pos (.inr h31)])
        generalize c % 32=cm at *
        clear h31 hm2
        go_wp2_with fail
        exact ⟨rfl,TakC.no HE.out (ThrowC.mk H2.out)⟩
      · have e2:(((c % 32:Nat):Int) == 31)=false:=by rw [beq_eq_false_iff_ne];omega
        have HE:Hid (cbPart a b (c::r)=cbHead (c::r)):=Lib.hid (by unfold cbPart;simp only;rw [if_neg (fun h=>h.elim hm2 h31)])
        generalize c % 32=cm at *
        clear h31 hm2
        go_wp2_with fail
        refine KH.out.mono ?_
        intro x w3 hp
        cases hh:cbHead (c::r) with
        | inr x =>
          rw [hh] at hp
          obtain ⟨rfl,l',d',n',h3⟩:=hp
          have H3:=Lib.hid (H2.out.trans h3)
          have HQ:=Lib.hid (HE.out.trans hh)
          clear h3 hh KH
          go_wp2_with fail
          exact ⟨rfl,TakC.no HQ.out (ThrowC.mk H3.out)⟩
        | inl p =>
          obtain ⟨⟨m,i,k⟩,r3⟩:=p
          rw [hh] at hp
          obtain ⟨rfl,h3⟩:=hp
          have hbx:=(h3.oth.block w.heap.size (Array.getElem?_eq_some_iff.1 HBX.out).1 hne2).trans HBX.out
          have H3:=Lib.hid ((((H2.out.trans h3).fresh (Nat.le_refl _) hne2 hlow 0 (.int .i64 (m:Int))).fresh (Nat.le_refl _) hne2 hlow 1 (.int .i64 (i:Int))).fresh (Nat.le_refl _) hne2 hlow 2 (.int .u64 (k:Int)))
          have HQ:=Lib.hid (HE.out.trans hh)
          have y0:w3.cell? ⟨w.heap.size,0,none⟩=some (.int .i64 0):=by simp [World.cell?,hbx]
          have y1:w3.cell? ⟨w.heap.size,1,none⟩=some (.int .i64 0):=by simp [World.cell?,hbx]
          have y2:w3.cell? ⟨w.heap.size,2,none⟩=some (.int .u64 0):=by simp [World.cell?,hbx]
          have z0:∀ i,w3.frozen? ⟨w.heap.size,i,none⟩=false:=fun i=>by simp [World.frozen?,hbx]
          unfold hdV
          clear h3 hh KH hbx
          go_wp2_with fail
          refine bodyPost_ret (v:=hdV (m,i,k)) (by simp [results,Tryz.results192,go_sem,y0,y1,y2,hdV]) rfl ?_
          exact TakC.yes HQ.out rfl H3.out
    · have e1:decide (c / 32∈ms)=false:=decide_eq_false hm
      have HE:Hid (cbPart a b (c::r)=.inr 3):=Lib.hid (by
        unfold cbPart
        simp only
        rw [if_pos (.inl (Classical.byContradiction fun h=>hm ((part_mem (c:=c) hms).2 h)))])
      rw [e1]
      clear e1 hm KC KH
      go_wp2_with fail
      exact ⟨rfl,TakC.no HE.out (ThrowC.mk H2.out)⟩
end Go.Proofs.YtnacbakcalcgaaaGreatDoor
