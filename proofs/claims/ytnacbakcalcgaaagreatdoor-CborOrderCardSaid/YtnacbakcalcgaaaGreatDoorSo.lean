/- Texts of the claim. -/
import Derived.Test.YtnacbakcalcgaaaGreatDoorSn
set_option linter.unusedVariables false
set_option linter.unusedSimpArgs false
set_option maxHeartbeats 8000000
set_option maxRecDepth 100000
namespace Go.Proofs.YtnacbakcalcgaaaGreatDoor
open Go.RowKit Go.Lib Go.Sort
theorem own_keep {w w':World} {B:Nat} {e:TypeId} {size:Nat} {v:Value} {n:Nat} {xs:List Value} (h:w.ownsRow B e size v n xs) (hb:∀ k,v.ownBlock=some k→w'.heap[k]? = w.heap[k]?):w'.ownsRow B e size v n xs:=by
  refine ⟨h.1,?_⟩
  rcases h.2 with h2 | ⟨g,cap,cur,rfl,hB,hg,rest⟩
  · exact .inl h2
  · exact .inr ⟨g,cap,cur,rfl,hB,(hb g rfl).trans hg,rest⟩
theorem own_bd {w:World} {B:Nat} {e:TypeId} {size:Nat} {v:Value} {n:Nat} {xs:List Value} (h:w.ownsRow B e size v n xs) {k:Nat} (hk:v.ownBlock=some k):B≤k∧k<w.heap.size:=by
  rcases h.2 with ⟨rfl,_⟩ | ⟨g,cap,cur,rfl,hB,hg,_⟩
  · cases hk
  · cases hk
    exact ⟨hB,(Array.getElem?_eq_some_iff.1 hg).1⟩
theorem own_but {w w':World} {B g:Nat} {e:TypeId} {size:Nat} {v:Value} {n:Nat} {xs:List Value} (h:w.ownsRow B e size v n xs) (hb:But g w w') (hg:g<B):w'.ownsRow B e size v n xs :=
  own_keep h (fun k hk=>by have:=own_bd h hk;exact hb.block k this.2 (by omega))
theorem StC.grown {w0:World} {g:Nat} {l:List Nat} {d n:Nat} {w wr w':World} (h:StC w0 g l d n w wr) {B:Nat} {e:TypeId} {size:Nat} {v:Value} {m:Nat} {xs:List Value} (ho:wr.ownsRow B e size v m xs) (hB:w.heap.size≤B) (hg:wr.grownBy w' v.ownBlock) (hgl:g<w.heap.size) (hw0:w0.heap.size≤w.heap.size):StC w0 g l d n w w':=by
  have hblk:∀ k,k<wr.heap.size→k<w.heap.size→w'.heap[k]? = wr.heap[k]?:=fun k hk hk2=>hg.block k hk (fun e=>by have:=own_bd ho e.symm;omega)
  have hsz:=h.oth.size
  refine ⟨⟨hg.os.trans h.oth.os,hg.tape.trans h.oth.tape,hg.output.trans h.oth.output,Nat.le_trans h.oth.size hg.size,fun k hk hk2=>(hblk k (by omega) hk).trans (h.oth.block k hk hk2)⟩,?_⟩
  obtain ⟨ad,cap,h1,h2,h3,h4⟩:=h.rd.cell
  refine ⟨h.rd.low,⟨hg.os.trans h.rd.env.os,hg.tape.trans h.rd.env.tape,hg.output.trans h.rd.env.output,Nat.le_trans h.rd.env.size hg.size,fun k hk=>(hblk k (by omega) (by omega)).trans (h.rd.env.block k hk)⟩,h.rd.ok,h.rd.len,ad,cap,(hblk g (by omega) hgl).trans h1,h2,h3,h4⟩
theorem strCells_bc (l:List Nat) (h:Okb l):strCells (strB l)=bc l:=by
  unfold strCells bc
  rw [strB_data,List.map_map]
  apply List.map_congr_left
  intro x hx
  have h1:x<256:=h x hx
  have h2:(UInt8.ofNat x).toNat=x:=by simp;omega
  simp only [Function.comp,h2]
theorem cbParts_end {m f:Nat} {a l r:List Nat} (h:cbEnds l=.inl (true,r)):cbParts m (f+1) a l=.inl (a,r):=by
  rw [cbParts,h]
theorem cbParts_no {m f:Nat} {a l:List Nat} {x:Int} (h:cbEnds l=.inr x):cbParts m (f+1) a l=.inr x:=by
  rw [cbParts,h]
theorem cbParts_head {m f:Nat} {a l r:List Nat} {x:Int} (h:cbEnds l=.inl (false,r)) (h2:cbHead r=.inr x):cbParts m (f+1) a l=.inr x:=by
  rw [cbParts,h];simp only;rw [h2]
theorem cbParts_wrong {m f:Nat} {a l r r2:List Nat} {hd:HdC} (h:cbEnds l=.inl (false,r)) (h2:cbHead r=.inl (hd,r2)) (h3:hd.1 ≠ m∨hd.2.1=31):cbParts m (f+1) a l=.inr 2:=by
  rw [cbParts,h];simp only;rw [h2];simp only;rw [if_pos h3]
theorem cbParts_piece {m f:Nat} {a l r r2:List Nat} {hd:HdC} {x:Int} (h:cbEnds l=.inl (false,r)) (h2:cbHead r=.inl (hd,r2)) (h3:¬ (hd.1 ≠ m∨hd.2.1=31)) (h4:cbPiece hd.1 hd.2.2 r2=.inr x):cbParts m (f+1) a l=.inr x:=by
  rw [cbParts,h];simp only;rw [h2];simp only;rw [if_neg h3,h4]
theorem cbParts_limit {m f:Nat} {a l r r2 p r3:List Nat} {hd:HdC} (h:cbEnds l=.inl (false,r)) (h2:cbHead r=.inl (hd,r2)) (h3:¬ (hd.1 ≠ m∨hd.2.1=31)) (h4:cbPiece hd.1 hd.2.2 r2=.inl (p,r3)) (h5:2000<(a++p).length):cbParts m (f+1) a l=.inr 4:=by
  rw [cbParts,h];simp only;rw [h2];simp only;rw [if_neg h3,h4];simp only;rw [if_pos h5]
theorem cbParts_on {m f:Nat} {a l r r2 p r3:List Nat} {hd:HdC} (h:cbEnds l=.inl (false,r)) (h2:cbHead r=.inl (hd,r2)) (h3:¬ (hd.1 ≠ m∨hd.2.1=31)) (h4:cbPiece hd.1 hd.2.2 r2=.inl (p,r3)) (h5:¬ 2000<(a++p).length):cbParts m (f+1) a l=cbParts m f (a++p) r3:=by
  rw [cbParts,h];simp only;rw [h2];simp only;rw [if_neg h3,h4];simp only;rw [if_neg h5]
theorem cbEnds_len {l r:List Nat} {b:Bool} (h:cbEnds l=.inl (b,r)):r.length≤l.length:=by
  cases l with
  | nil=>cases h
  | cons c l =>
    unfold cbEnds at h
    simp only at h
    split at h <;> simp only [Sum.inl.injEq,Prod.mk.injEq] at h <;> obtain ⟨_,rfl⟩:=h <;> simp
theorem cbPiece_len {m k:Nat} {l p r:List Nat} (h:cbPiece m k l=.inl (p,r)):r.length≤l.length∧p=l.take k∧r=l.drop k∧k≤l.length:=by
  unfold cbPiece at h
  split at h
  · cases h
  · split at h
    · cases h
    · simp only [Sum.inl.injEq,Prod.mk.injEq] at h
      obtain ⟨rfl,rfl⟩:=h
      exact ⟨by rw [List.length_drop];omega,rfl,rfl,by omega⟩
theorem piece_cb {w0:World} (hU:UT w0) {g:Nat} {l:List Nat} {d n:Nat} {w:World} (hr:RdC w0 g l d n w) (m i k:Nat) (hk:k<18446744073709551616) :
    Calls Tryz.prog 148 #[.pointer (some ⟨g,0,none⟩),hdV (m,i,k)] w (TakC w0 g d n strV (cbPiece m k l) w):=by
  by_cases h:l.length<k
  · exact piece_short hr m i k h hk
  · exact piece_long hU hr m i k h
def PaRel (w0:World) (g d n m:Nat) (w:World) (R:(List Nat × List Nat) ⊕ Int) (k:Nat) (v:Value) (wr:World):Prop :=
  ∃ (a l:List Nat),wr.ownsRow w.heap.size 5 1 v a.length (bc a)∧Okb a∧a.length≤2000∧StC w0 g l d n w wr∧l.length<k∧cbParts m k a l=R
theorem parts_cb {w0:World} (hU:UT w0) {g:Nat} {l:List Nat} {d n:Nat} {w:World} (hr:RdC w0 g l d n w) (m:Nat) :
    Calls Tryz.prog 146 #[.pointer (some ⟨g,0,none⟩),.int .i64 (m:Int)] w (TakC w0 g d n strV (cbParts m (l.length+1) [] l) w):=by
  have H0:=Lib.hid (StC.refl hr)
  have hgl:=hr.lt
  have hw0:=hr.env.size
  clear hr
  generalize hR:cbParts m (l.length+1) [] l=R
  have HR:=Lib.hid hR
  clear hR
  go_enter Tryz.func146,Tryz.ntmps146
  go_wp2_with fail
  go_loopg [5] (l.length+1) (fun k v wr=>PaRel w0 g d n m w R k v wr)
  case atStart=>exact ⟨[],l,World.ownsRow_nil _ _ _ _,nofun,Nat.zero_le _,H0.out,Nat.lt_succ_self _,HR.out⟩
  case round =>
    obtain ⟨a,l1,ho,hoa,hal,hst,hk,hR1⟩:=hrel
    rcases gk with _ | f
    · omega
    · have KE:=Lib.hid (ends_cb hst.rd)
      have HO:=Lib.hid ho;have HOA:=Lib.hid hoa;have HST:=Lib.hid hst;have HR1:=Lib.hid hR1
      obtain ⟨ad,cap,rfl,hc,hrv,_,_,hnil⟩:=own_viewN ho
      clear ho hoa hst hR1 hrv hnil hc
      go_wp2_with fail
      refine KE.out.mono ?_
      intro r w1 hp
      cases he:cbEnds l1 with
      | inr x =>
        rw [he] at hp
        obtain ⟨rfl,l',d',n',h1⟩:=hp
        have H1:=Lib.hid (HST.out.trans h1)
        have HE:=Lib.hid (HR1.out.symm.trans (cbParts_no he))
        clear h1 he KE
        go_wp2_with fail
        exact ⟨rfl,TakC.no HE.out (ThrowC.mk H1.out)⟩
      | inl p =>
        obtain ⟨b,r1⟩:=p
        rw [he] at hp
        obtain ⟨rfl,h1⟩:=hp
        unfold boolV
        cases b with
        | true =>
          have H1:=Lib.hid (HST.out.trans h1)
          have HE:=Lib.hid (HR1.out.symm.trans (cbParts_end he))
          have ho1:=own_but HO.out h1.oth hgl
          obtain ⟨_,_,e1,hc,hrv,_,_,hnil⟩:=own_viewN ho1
          cases e1
          have hcv:=conv_bv w1 ad a.length cap a rfl hrv
          clear h1 he KE ho1 hc hrv hnil
          generalize hsa:strB a=sa at *
          have HSA:=Lib.hid hsa
          clear hsa
          generalize a.length=na at *
          go_wp2_with fail
          go_ret
          exact TakC.yes HE.out (by unfold strV;rw [HSA.out];rfl) H1.out
        | false =>
          have KH:=Lib.hid (head_cb h1.rd)
          have H1:=Lib.hid (HST.out.trans h1)
          have HEN:=Lib.hid he
          have HO1:=Lib.hid (own_but HO.out h1.oth hgl)
          clear h1 he KE
          go_wp2_with fail
          refine KH.out.mono ?_
          intro r w2 hp
          cases hh:cbHead r1 with
          | inr x =>
            rw [hh] at hp
            obtain ⟨rfl,l',d',n',h2⟩:=hp
            have H2:=Lib.hid (H1.out.trans h2)
            have HE:=Lib.hid (HR1.out.symm.trans (cbParts_head HEN.out hh))
            clear h2 hh KH
            go_wp2_with fail
            exact ⟨rfl,TakC.no HE.out (ThrowC.mk H2.out)⟩
          | inl p =>
            obtain ⟨⟨hm,hi,hn⟩,r2⟩:=p
            rw [hh] at hp
            obtain ⟨rfl,h2⟩:=hp
            have hok:=cbHead_ok H1.out.rd.ok hh
            have H2:=Lib.hid ((H1.out.trans h2).alloc (.cells #[.int .i64 (hm:Int),.int .i64 (hi:Int),.int .u64 (hn:Int)] 111))
            have HO2:=Lib.hid ((own_but HO1.out h2.oth hgl).alloc (.cells #[.int .i64 (hm:Int),.int .i64 (hi:Int),.int .u64 (hn:Int)] 111))
            have HH:=Lib.hid hh
            have hbx:=heap_alloc_new w2 (.cells #[.int .i64 (hm:Int),.int .i64 (hi:Int),.int .u64 (hn:Int)] 111)
            have HLT:=Lib.hid (show r2.length<f by have:=hok.lt;have:=cbEnds_len HEN.out;omega)
            have y0:(w2.alloc (.cells #[.int .i64 (hm:Int),.int .i64 (hi:Int),.int .u64 (hn:Int)] 111)).cell? ⟨w2.heap.size,0,none⟩=some (.int .i64 (hm:Int)):=by simp only [World.cell?,hbx];rfl
            have y1:(w2.alloc (.cells #[.int .i64 (hm:Int),.int .i64 (hi:Int),.int .u64 (hn:Int)] 111)).cell? ⟨w2.heap.size,1,none⟩=some (.int .i64 (hi:Int)):=by simp only [World.cell?,hbx];rfl
            have y2:(w2.alloc (.cells #[.int .i64 (hm:Int),.int .i64 (hi:Int),.int .u64 (hn:Int)] 111)).cell? ⟨w2.heap.size,2,none⟩=some (.int .u64 (hn:Int)):=by simp only [World.cell?,hbx];rfl
            have HNN:=Lib.hid hok.n
            unfold hdV
            clear h2 hh KH hbx hok hk
            by_cases hmm:hm=m
            · have e1:((hm:Int) != (m:Int))=false:=by rw [bne_eq_false_iff_eq];omega
              have HMM:=Lib.hid hmm
              clear hmm
              have KO:=Lib.hid (open_cb hm hi hn (w2.alloc (.cells #[.int .i64 (hm:Int),.int .i64 (hi:Int),.int .u64 (hn:Int)] 111)))
              go_wp2_with fail
              refine KO.out.mono ?_
              rintro r w3 ⟨rfl,h3⟩
              have H3:=Lib.hid (H2.out.more h3)
              have HO3:=Lib.hid (own_onN HO2.out h3)
              have y0:=(h3.cell (p:=⟨w2.heap.size,0,none⟩) (by simp)).trans y0
              have y1:=(h3.cell (p:=⟨w2.heap.size,1,none⟩) (by simp)).trans y1
              have y2:=(h3.cell (p:=⟨w2.heap.size,2,none⟩) (by simp)).trans y2
              clear h3 KO
              by_cases h31:hi=31
              · have e2:decide (hi=31)=true:=decide_eq_true h31
                have HE:=Lib.hid (HR1.out.symm.trans (cbParts_wrong HEN.out HH.out (.inr h31)))
                rw [e2]
                clear h31 e2
                go_wp2_with fail
                exact ⟨rfl,TakC.no HE.out (ThrowC.mk H3.out)⟩
              · have e2:decide (hi=31)=false:=decide_eq_false h31
                have HNW:Hid (¬ (hm ≠ m∨hi=31)):=Lib.hid (fun h=>h.elim (fun h=>h HMM.out) h31)
                have KP:=Lib.hid (piece_cb hU H3.out.rd hm hi hn HNN.out)
                rw [e2]
                clear h31 e2
                go_wp2_with fail
                refine KP.out.mono ?_
                intro r w4 hp
                cases hq:cbPiece hm hn r2 with
                | inr x =>
                  rw [hq] at hp
                  obtain ⟨rfl,l',d',n',h4⟩:=hp
                  have H4:=Lib.hid (H3.out.trans h4)
                  have HE:=Lib.hid (HR1.out.symm.trans (cbParts_piece HEN.out HH.out HNW.out hq))
                  clear h4 hq KP y0 y1 y2
                  go_wp2_with fail
                  exact ⟨rfl,TakC.no HE.out (ThrowC.mk H4.out)⟩
                | inl p =>
                  obtain ⟨p,r3⟩:=p
                  rw [hq] at hp
                  obtain ⟨rfl,h4⟩:=hp
                  obtain ⟨hl3,hp3,_,_⟩:=cbPiece_len hq
                  have H4:=Lib.hid (H3.out.trans h4)
                  have HO4:=Lib.hid (own_but HO3.out h4.oth hgl)
                  have HQ:=Lib.hid hq
                  have hop:Okb p:=by rw [hp3];exact okb_take H3.out.rd.ok _
                  have hpl:p.length≤1000000:=by rw [hp3,List.length_take];have:=H3.out.rd.len;omega
                  have HOP:=Lib.hid hop
                  have HL3:=Lib.hid hl3
                  have HBW:=Lib.hid H4.out.oth.size
                  have HSC:=Lib.hid (strCells_bc p hop)
                  have hsz:=strB_size p
                  have HPL:=Lib.hid hpl
                  clear h4 hq KP y0 y1 y2 hp3 hop
                  unfold strV
                  obtain ⟨i0,hi0,hz0,hz1,hz2⟩:=info_parts info_u8
                  generalize hsp:strB p=sp at *
                  have HSP:=Lib.hid hsp
                  have HI0:=Lib.hid hi0;have HZ0:=Lib.hid hz0;have HZ1:=Lib.hid hz1;have HZ2:=Lib.hid hz2;have HSZ:=Lib.hid hsz
                  clear hsp hi0 hz0 hz1 hz2 hsz hpl hl3
                  go_wp2_with (at_builtin;refine wpList_append_own_string _ rfl _ _ 22 9 rfl w.heap.size 5 i0 Tryz.underlying22 Tryz.underlying9 HI0.out HZ0.out HZ1.out HZ2.out _ a.length (bc a) rfl HO4.out sp rfl (by have:=HSZ.out;have:=HPL.out;unfold maxLen;omega) (by have:=HSZ.out;have:=HPL.out;omega) HBW.out ?_)
                  intro v' w5 ho5 hg5 _
                  have H5:=Lib.hid (H4.out.grown HO4.out (Nat.le_refl _) hg5 hgl hw0)
                  rw [HSC.out,← bc_app] at ho5
                  have HLE:Hid (a.length+sp.size=(a++p).length):=Lib.hid (by rw [List.length_append,HSZ.out])
                  rw [HLE.out] at ho5
                  have HO5:=Lib.hid ho5
                  have HOA5:Hid (Okb (a++p)):=Lib.hid (fun x hx=>(List.mem_append.1 hx).elim (HOA.out x) (HOP.out x))
                  obtain ⟨ad5,cap5,rfl,_⟩:=own_viewN ho5
                  clear ho5 hg5
                  by_cases h2k:2000<(a++p).length
                  · have HE:=Lib.hid (HR1.out.symm.trans (cbParts_limit HEN.out HH.out HNW.out HQ.out h2k))
                    generalize (a++p).length=nap at *
                    have e3:decide ((2000:Int)<(nap:Int))=true:=decide_eq_true (by omega)
                    go_wp2_with fail
                    exact ⟨rfl,TakC.no HE.out (ThrowC.mk H5.out)⟩
                  · have HE:=Lib.hid ((cbParts_on HEN.out HH.out HNW.out HQ.out h2k).symm.trans HR1.out)
                    generalize hap:a++p=ap at *
                    have HAP:=Lib.hid hap
                    generalize hnap:ap.length=nap at *
                    have HNAP:=Lib.hid hnap
                    clear hap hnap
                    have e3:¬ 2000<nap:=h2k
                    go_wp2_with fail
                    go_roundg f
                    case measure=>omega
                    case rel=>exact ⟨ap,r3,by rw [HNAP.out];exact HO5.out,HOA5.out,by rw [HNAP.out];omega,H5.out,Nat.lt_of_le_of_lt HL3.out HLT.out,HE.out⟩
            · have e1:((hm:Int) != (m:Int))=true:=by rw [bne_iff_ne];omega
              have HE:=Lib.hid (HR1.out.symm.trans (cbParts_wrong HEN.out HH.out (.inl hmm)))
              clear hmm
              go_wp2_with fail
              exact ⟨rfl,TakC.no HE.out (ThrowC.mk H2.out)⟩
def boxH (w:World) (h:HdC):World:=w.alloc (.cells #[.int .i64 (h.1:Int),.int .i64 (h.2.1:Int),.int .u64 (h.2.2:Int)] 111)
theorem boxH_cells (w:World) (h:HdC):(boxH w h).cell? ⟨w.heap.size,0,none⟩=some (.int .i64 (h.1:Int))∧(boxH w h).cell? ⟨w.heap.size,1,none⟩=some (.int .i64 (h.2.1:Int))∧(boxH w h).cell? ⟨w.heap.size,2,none⟩=some (.int .u64 (h.2.2:Int)):=by
  have hn1:=heap_alloc_new w (.cells #[.int .i64 (h.1:Int),.int .i64 (h.2.1:Int),.int .u64 (h.2.2:Int)] 111)
  unfold boxH
  refine ⟨?_,?_,?_⟩ <;> simp only [World.cell?,hn1] <;> rfl
theorem boxH_below (w:World) (h:HdC):Below w.heap.size w (boxH w h):=(Below.refl _ _).alloc (Nat.le_refl _) _
theorem boxH_size (w:World) (h:HdC):w.heap.size<(boxH w h).heap.size:=by unfold boxH;simp
theorem text_cb {w0:World} (hU:UT w0) {g:Nat} {l:List Nat} {d n:Nat} {w:World} (hr:RdC w0 g l d n w) (m i k:Nat) (hk:k<18446744073709551616) :
    Calls Tryz.prog 107 #[.pointer (some ⟨g,0,none⟩),hdV (m,i,k)] w (TakC w0 g d n strV (cbText (m,i,k) l) w):=by
  have hb1:=boxH_below w (m,i,k)
  obtain ⟨y0,y1,y2⟩:=boxH_cells w (m,i,k)
  have hsz:=boxH_size w (m,i,k)
  have H1:=Lib.hid (StC.of_below hr hb1)
  have KO:=Lib.hid (open_cb m i k (boxH w (m,i,k)))
  have HKB:=Lib.hid hk
  unfold hdV
  unfold boxH at *
  simp only at *
  clear hr hb1 hk
  go_enter Tryz.func107,Tryz.ntmps107
  go_wp2_with fail
  refine KO.out.mono ?_
  rintro r w1 ⟨rfl,hb⟩
  have H2:=Lib.hid (H1.out.more hb)
  have y0:=(hb.cell (p:=⟨w.heap.size,0,none⟩) hsz).trans y0
  have y1:=(hb.cell (p:=⟨w.heap.size,1,none⟩) hsz).trans y1
  have y2:=(hb.cell (p:=⟨w.heap.size,2,none⟩) hsz).trans y2
  have hlt1:w.heap.size<w1.heap.size:=Nat.lt_of_lt_of_le hsz hb.size
  clear hb KO
  by_cases h31:i=31
  · have e2:decide (i=31)=true:=decide_eq_true h31
    have HE:Hid (cbText (m,i,k) l=cbParts m (l.length+1) [] l):=Lib.hid (by unfold cbText;simp only;rw [if_pos h31])
    have KP:=Lib.hid (parts_cb hU H2.out.rd m)
    rw [e2]
    clear h31 e2
    go_wp2_with fail
    refine KP.out.mono ?_
    intro r w2 hp
    cases hq:cbParts m (l.length+1) [] l with
    | inr x =>
      rw [hq] at hp
      obtain ⟨rfl,l',d',n',h2⟩:=hp
      have H3:=Lib.hid (H2.out.trans h2)
      have HQ:=Lib.hid (HE.out.trans hq)
      clear h2 hq KP
      go_wp2_with fail
      exact ⟨rfl,TakC.no HQ.out (ThrowC.mk H3.out)⟩
    | inl p =>
      obtain ⟨p,r⟩:=p
      rw [hq] at hp
      obtain ⟨rfl,h2⟩:=hp
      have H3:=Lib.hid (H2.out.trans h2)
      have HQ:=Lib.hid (HE.out.trans hq)
      unfold strV
      clear h2 hq KP
      go_wp2_with fail
      go_ret
      exact TakC.yes HQ.out rfl H3.out
  · have e2:decide (i=31)=false:=decide_eq_false h31
    have KR:=Lib.hid (refuse_cb m i k 2000 w1)
    have HE0:Hid (cbText (m,i,k) l=if 2000<k then .inr 4 else cbPiece m k l):=Lib.hid (by unfold cbText;simp only;rw [if_neg h31])
    rw [e2]
    clear h31 e2
    go_wp2_with fail
    refine KR.out.mono ?_
    rintro r w2 ⟨hb,⟨hle,rfl⟩ | ⟨hlt,rfl⟩⟩
    · have H3:=Lib.hid (H2.out.more hb)
      have HE:Hid (cbText (m,i,k) l=cbPiece m k l):=Lib.hid (HE0.out.trans (if_neg (by omega)))
      have y0:=(hb.cell (p:=⟨w.heap.size,0,none⟩) hlt1).trans y0
      have y1:=(hb.cell (p:=⟨w.heap.size,1,none⟩) hlt1).trans y1
      have y2:=(hb.cell (p:=⟨w.heap.size,2,none⟩) hlt1).trans y2
      have KP:=Lib.hid (piece_cb hU H3.out.rd m i k HKB.out)
      clear hb KR hle
      go_wp2_with fail
      refine KP.out.mono ?_
      intro r w3 hp
      cases hq:cbPiece m k l with
      | inr x =>
        rw [hq] at hp
        obtain ⟨rfl,l',d',n',h2⟩:=hp
        have H4:=Lib.hid (H3.out.trans h2)
        have HQ:=Lib.hid (HE.out.trans hq)
        clear h2 hq KP
        go_wp2_with fail
        exact ⟨rfl,TakC.no HQ.out (ThrowC.mk H4.out)⟩
      | inl p =>
        obtain ⟨p,r⟩:=p
        rw [hq] at hp
        obtain ⟨rfl,h2⟩:=hp
        have H4:=Lib.hid (H3.out.trans h2)
        have HQ:=Lib.hid (HE.out.trans hq)
        unfold strV
        clear h2 hq KP
        go_wp2_with fail
        go_ret
        exact TakC.yes HQ.out rfl H4.out
    · have H3:=Lib.hid (H2.out.more hb)
      have HE:Hid (cbText (m,i,k) l=.inr 4):=Lib.hid (HE0.out.trans (if_pos hlt))
      clear hb KR hlt
      go_wp2_with fail
      exact ⟨rfl,TakC.no HE.out (ThrowC.mk H3.out)⟩
theorem more_cb {w0:World} {g:Nat} {l:List Nat} {d n:Nat} {w:World} (hr:RdC w0 g l d n w) (m i k t:Nat) (ht:t≤1000) :
    Calls Tryz.prog 149 #[.pointer (some ⟨g,0,none⟩),hdV (m,i,k),.int .i64 (t:Int)] w (TakC w0 g d n boolV (cbMore (decide (i=31)) k t l) w):=by
  have hb1:=boxH_below w (m,i,k)
  obtain ⟨y0,y1,y2⟩:=boxH_cells w (m,i,k)
  have hsz:=boxH_size w (m,i,k)
  have H1:=Lib.hid (StC.of_below hr hb1)
  have KO:=Lib.hid (open_cb m i k (boxH w (m,i,k)))
  have etw:IntKind.u64.wrap (t:Int)=(t:Int):=u64_wrap _ (by omega) (by omega)
  generalize hop:decide (i=31)=op at *
  clear hop
  unfold hdV
  unfold boxH at *
  simp only at *
  clear hr hb1
  go_enter Tryz.func149,Tryz.ntmps149
  go_wp2_with fail
  refine KO.out.mono ?_
  rintro r w1 ⟨rfl,hb⟩
  have H2:=Lib.hid (H1.out.more hb)
  have y2:=(hb.cell (p:=⟨w.heap.size,2,none⟩) hsz).trans y2
  clear hb KO y0 y1
  cases op with
  | false =>
    have HE:Hid (cbMore false k t l=.inl (decide (t<k),l)):=Lib.hid (by simp [cbMore])
    go_wp2_with fail
    go_ret
    exact TakC.yes HE.out (by unfold boolV;simp) H2.out
  | true =>
    have KE:=Lib.hid (ends_cb H2.out.rd)
    clear y2
    go_wp2_with fail
    refine KE.out.mono ?_
    intro r w2 hp
    cases he:cbEnds l with
    | inr x =>
      rw [he] at hp
      obtain ⟨rfl,l',d',n',h2⟩:=hp
      have H3:=Lib.hid (H2.out.trans h2)
      have HE:Hid (cbMore true k t l=.inr x):=Lib.hid (by simp [cbMore,he])
      clear h2 he KE
      go_wp2_with fail
      exact ⟨rfl,TakC.no HE.out (ThrowC.mk H3.out)⟩
    | inl p =>
      obtain ⟨b,r⟩:=p
      rw [he] at hp
      obtain ⟨rfl,h2⟩:=hp
      have H3:=Lib.hid (H2.out.trans h2)
      unfold boolV at *
      cases b with
      | true =>
        have HE:Hid (cbMore true k t l=.inl (false,r)):=Lib.hid (by simp [cbMore,he])
        clear h2 he KE
        go_wp2_with fail
        go_ret
        exact TakC.yes HE.out rfl H3.out
      | false =>
        by_cases h3:t=300
        · have HE:Hid (cbMore true k t l=.inr 4):=Lib.hid (by simp [cbMore,he,h3])
          have e3:((t:Int) == 300)=true:=by rw [beq_iff_eq];omega
          clear h2 he KE h3
          go_wp2_with fail
          exact ⟨rfl,TakC.no HE.out (ThrowC.mk H3.out)⟩
        · have HE:Hid (cbMore true k t l=.inl (true,r)):=Lib.hid (by simp [cbMore,he,h3])
          have e3:((t:Int) == 300)=false:=by rw [beq_eq_false_iff_ne];omega
          clear h2 he KE h3
          go_wp2_with fail
          go_ret
          exact TakC.yes HE.out rfl H3.out
theorem name_cb {w0:World} (hU:UT w0) {g:Nat} {l:List Nat} {d n:Nat} {w:World} (hr:RdC w0 g l d n w) :
    Calls Tryz.prog 150 #[.pointer (some ⟨g,0,none⟩)] w (TakC w0 g d n strV (cbName l) w):=by
  have KF:=Lib.hid (first_cb hr)
  clear hr
  go_enter Tryz.func150,Tryz.ntmps150
  go_wp2_with fail
  refine KF.out.mono ?_
  intro r w1 hp
  cases l with
  | nil =>
    obtain ⟨rfl,l',d',n',h1⟩:=hp
    have H1:=Lib.hid h1
    clear h1 KF
    go_wp2_with fail
    exact ⟨rfl,TakC.no rfl (ThrowC.mk H1.out)⟩
  | cons c r =>
    obtain ⟨rfl,h1⟩:=hp
    have H1:=Lib.hid h1
    have hc:c<256:=h1.rd.ok c (List.mem_cons_self ..)
    have KH:=Lib.hid (head_cb h1.rd)
    unfold u8V
    clear h1 KF
    by_cases h3:c / 32=3
    · have e1:((c:Int) / 32 != 3)=false:=by rw [bne_eq_false_iff_eq];omega
      have HE0:Hid (∀ x,cbHead (c::r)=.inr x→cbName (c::r)=.inr x):=Lib.hid (fun x hx=>by unfold cbName;simp [h3,hx])
      have HE1:Hid (∀ p,cbHead (c::r)=.inl p→cbName (c::r)=cbText p.1 p.2):=Lib.hid (fun x hx=>by unfold cbName;simp [h3,hx])
      clear h3
      go_wp2_with fail
      refine KH.out.mono ?_
      intro r2 w2 hp
      cases hh:cbHead (c::r) with
      | inr x =>
        rw [hh] at hp
        obtain ⟨rfl,l',d',n',h2⟩:=hp
        have H2:=Lib.hid (H1.out.trans h2)
        have HE:=Lib.hid (HE0.out x hh)
        clear h2 hh KH
        go_wp2_with fail
        exact ⟨rfl,TakC.no HE.out (ThrowC.mk H2.out)⟩
      | inl p =>
        obtain ⟨⟨m,i,k⟩,r3⟩:=p
        rw [hh] at hp
        obtain ⟨rfl,h2⟩:=hp
        have hok:=cbHead_ok H1.out.rd.ok hh
        have H2:=Lib.hid (H1.out.trans h2)
        have HE:=Lib.hid (HE1.out _ hh)
        have KT:=Lib.hid (text_cb hU h2.rd m i k hok.n)
        clear h2 hh KH hok
        go_wp2_with fail
        refine KT.out.mono ?_
        intro r4 w3 hp
        cases hq:cbText (m,i,k) r3 with
        | inr x =>
          rw [hq] at hp
          obtain ⟨rfl,l',d',n',h3⟩:=hp
          have H3:=Lib.hid (H2.out.trans h3)
          have HQ:=Lib.hid (HE.out.trans hq)
          clear h3 hq KT
          go_wp2_with fail
          exact ⟨rfl,TakC.no HQ.out (ThrowC.mk H3.out)⟩
        | inl p =>
          obtain ⟨p,r5⟩:=p
          rw [hq] at hp
          obtain ⟨rfl,h3⟩:=hp
          have H3:=Lib.hid (H2.out.trans h3)
          have HQ:=Lib.hid (HE.out.trans hq)
          unfold strV
          clear h3 hq KT
          go_wp2_with fail
          go_ret
          exact TakC.yes HQ.out rfl H3.out
    · have e1:((c:Int) / 32 != 3)=true:=by rw [bne_iff_ne];omega
      have HE:Hid (cbName (c::r)=.inr 3):=Lib.hid (by unfold cbName;simp [h3])
      clear h3 KH
      go_wp2_with fail
      exact ⟨rfl,TakC.no HE.out (ThrowC.mk H1.out)⟩
def IdxC (x:Nat) (l:List Nat) (w:World) (e:Ending) (w':World):Prop:=∃ r:Int,e=.returned (.int .i64 r)∧(0≤r ↔ x∈l)∧w'=w
theorem index_cb (b o n cap x:Nat) (l:List Nat) (w:World) (hl:l.length=n) (hn:n≤1000) (hr:RdV w (some ⟨b,o,none⟩) (bc l)) :
    Calls Tryz.prog 212 #[.slice (some ⟨b,o,none⟩) n cap,.int .u8 (x:Int)] w (IdxC x l w):=by
  have HR:=Lib.hid hr
  have HL:=Lib.hid hl
  clear hr hl
  go_enter Tryz.func212,Tryz.ntmps212
  go_wp2_with fail
  go_loopg [8] (n+1) (fun k v wr=>∃ j:Nat,v=.int .i64 (j:Int)∧j≤n∧k=n+1 - j∧wr=w∧Hid (∀ i,i<j→l.getD i 0 ≠ x))
  case atStart=>exact ⟨0,rfl,Nat.zero_le _,rfl,rfl,Lib.hid (fun i h=>absurd h (Nat.not_lt_zero _))⟩
  case round =>
    obtain ⟨j,rfl,hj,hk,rfl,hb⟩:=hrel
    by_cases hjn:j<n
    · have c0:wr.cell? ⟨b,o+j,none⟩=some (.int .u8 ((l.getD j 0:Nat):Int)):=by rw [HR.out.at j (by rw [bc_len,HL.out];exact hjn),bc_get l j (by rw [HL.out];exact hjn)]
      generalize hy:l.getD j 0=y at *
      have HY:=Lib.hid hy
      clear hy
      by_cases hxy:x=y
      · have e1:((x:Int) == (y:Int))=true:=by rw [beq_iff_eq];omega
        have HM:Hid (x∈l):=Lib.hid (by
          rw [hxy,← HY.out]
          have:l.getD j 0=l[j]'(by rw [HL.out];exact hjn):=by simp [List.getD,HL.out,hjn]
          rw [this];exact List.getElem_mem _)
        clear hxy
        go_wp2_with fail
        go_ret
        exact ⟨(j:Int),rfl,⟨fun _=>HM.out,fun _=>by omega⟩,rfl⟩
      · have e1:((x:Int) == (y:Int))=false:=by rw [beq_eq_false_iff_ne];omega
        have HB2:Hid (∀ i,i<j+1→l.getD i 0 ≠ x):=Lib.hid (fun i hi=>by
          rcases Nat.lt_or_ge i j with h | h
          · exact hb.out i h
          · obtain rfl:i=j:=by omega
            rw [HY.out];exact fun h=>hxy h.symm)
        clear hxy hb
        go_wp2_with fail
        go_roundg (n+1 - (j+1))
        case measure=>omega
        case rel=>exact ⟨j+1,by go_num,by omega,by omega,rfl,HB2⟩
    · obtain rfl:j=n:=by omega
      have HM:Hid (x ∉ l):=Lib.hid (fun hm=>by
        obtain ⟨i,hi,e⟩:=List.getElem_of_mem hm
        refine hb.out i (by rw [← HL.out];exact hi) ?_
        rw [← e];simp [List.getD,hi])
      clear hb
      go_wp2_with fail
      go_ret
      exact ⟨-1,rfl,⟨fun h=>absurd h (by decide),fun h=>absurd h HM.out⟩,rfl⟩
theorem contains_cb (b o n cap x:Nat) (l:List Nat) (w:World) (hl:l.length=n) (hn:n≤1000) (hr:RdV w (some ⟨b,o,none⟩) (bc l)) :
    Calls Tryz.prog 204 #[.slice (some ⟨b,o,none⟩) n cap,.int .u8 (x:Int)] w fun e w'=>e=.returned (.bool (decide (x∈l)))∧w'=w:=by
  have K:=Lib.hid (index_cb b o n cap x l w hl hn hr)
  clear hr hl
  by_cases hm:x∈l
  · have HD:=Lib.hid (decide_eq_true hm)
    have HM:=Lib.hid hm
    clear hm
    go_enter Tryz.func204,Tryz.ntmps204
    go_wp2_with fail
    refine K.out.mono ?_
    rintro r w1 ⟨k,rfl,h1,rfl⟩
    have H2:=Lib.hid (decide_eq_true (h1.2 HM.out))
    clear h1
    go_wp2_with fail
    go_ret
    exact ⟨by rw [HD.out,← H2.out];rfl,rfl⟩
  · have HD:=Lib.hid (decide_eq_false hm)
    have HM:=Lib.hid hm
    clear hm
    go_enter Tryz.func204,Tryz.ntmps204
    go_wp2_with fail
    refine K.out.mono ?_
    rintro r w1 ⟨k,rfl,h1,rfl⟩
    have H2:=Lib.hid (decide_eq_false (show ¬ 0≤k from fun h=>HM.out (h1.1 h)))
    clear h1
    go_wp2_with fail
    go_ret
    exact ⟨by rw [HD.out,← H2.out];rfl,rfl⟩
theorem part_mem {a b c:Nat} {ms:List Nat} (h:∀ x,x∈ms ↔ x=a∨x=b):c / 32∈ms ↔ ¬ (c / 32 ≠ a∧c / 32 ≠ b):=by
  rw [h];omega
theorem part_cb {w0:World} {g:Nat} {l:List Nat} {d n:Nat} {w:World} (hr:RdC w0 g l d n w) (a b:Nat) (ms:List Nat) (mb nm cap:Nat) (hms:∀ x,x∈ms ↔ x=a∨x=b) (hl:ms.length=nm) (hnm:nm≤1000) (hrm:RdV w (some ⟨mb,0,none⟩) (bc ms)) (hmb:0<nm) (hgm:mb ≠ g) :
    Calls Tryz.prog 192 #[.pointer (some ⟨g,0,none⟩),.slice (some ⟨mb,0,none⟩) nm cap] w (TakC w0 g d n hdV (cbPart a b l) w):=by
  have hb1:Below w.heap.size w (w.alloc (.cells #[.int .i64 0,.int .i64 0,.int .u64 0] 111)):=(Below.refl _ _).alloc (Nat.le_refl _) _
  have hn1:=heap_alloc_new w (.cells #[.int .i64 0,.int .i64 0,.int .u64 0] 111)
  have H1:=Lib.hid (StC.of_below hr hb1)
  have KF:=Lib.hid (first_cb H1.out.rd)
  have HRM:=Lib.hid (hrm.on hb1)
  have HML:=Lib.hid hl
  have hg:=hr.lt
  have hlow:=hr.env.size
  have HN1:=Lib.hid hn1
  have hne:¬ g=w.heap.size:=by omega
  have hne2:¬ w.heap.size=g:=by omega
  clear hr hb1 hrm hn1
  go_enter Tryz.func192,Tryz.ntmps192
  go_wp2_with fail
  refine KF.out.mono ?_
  intro r w1 hp
  cases l with
  | nil =>
    obtain ⟨rfl,l',d',n',h1⟩:=hp
    have H2:=Lib.hid (H1.out.trans h1)
    clear h1 KF
    go_wp2_with fail
    exact ⟨rfl,TakC.no rfl (ThrowC.mk H2.out)⟩
  | cons c r =>
    obtain ⟨rfl,h1⟩:=hp
    have H2:=Lib.hid (H1.out.trans h1)
    have hc:c<256:=h1.rd.ok c (List.mem_cons_self ..)
    have hrm1:RdV w1 (some ⟨mb,0,none⟩) (bc ms):=h1.oth.rd HRM.out (fun a e _=>by cases e;exact hgm)
    have KC:=Lib.hid (contains_cb mb 0 nm cap (c / 32) ms w1 HML.out hnm hrm1)
    have HBX:=Lib.hid ((h1.oth.block w.heap.size (by simp) hne2).trans HN1.out)
    have KH:=Lib.hid (head_cb h1.rd)
    have hcd:(((c / 32:Nat)):Int)=(c:Int) / 32:=by omega
    rw [hcd] at KC
    unfold u8V
    clear h1 KF hrm1 hcd
    go_wp2_with fail
    refine KC.out.mono ?_
    rintro x w2 ⟨rfl,rfl⟩
    by_cases hm:c / 32∈ms
    · have e1:decide (c / 32∈ms)=true:=decide_eq_true hm
      have hm2:=(part_mem (c:=c) hms).1 hm
      have e31:bits .and .u8 (c:Int) 31=((c % 32:Nat):Int):=by rw [u8_and31 (x:=(c:Int)) (by omega) (by omega)];omega
      rw [e1]
      clear e1 hm KC
      by_cases h31:c % 32=31
      · have e2:(((c % 32:Nat):Int) == 31)=true:=by rw [beq_iff_eq];omega
        have HE:Hid (cbPart a b (c::r)=.inr 3):=Lib.hid (by unfold cbPart;simp only;rw [if_pos (.inr h31)])
        generalize c % 32=cm at *
        clear h31 hm2
        go_wp2_with fail
        exact ⟨rfl,TakC.no HE.out (ThrowC.mk H2.out)⟩
      · have e2:(((c % 32:Nat):Int) == 31)=false:=by rw [beq_eq_false_iff_ne];omega
        have HE:Hid (cbPart a b (c::r)=cbHead (c::r)):=Lib.hid (by unfold cbPart;simp only;rw [if_neg (fun h=>h.elim hm2 h31)])
        generalize c % 32=cm at *
        clear h31 hm2
        go_wp2_with fail
        refine KH.out.mono ?_
        intro x w3 hp
        cases hh:cbHead (c::r) with
        | inr x =>
          rw [hh] at hp
          obtain ⟨rfl,l',d',n',h3⟩:=hp
          have H3:=Lib.hid (H2.out.trans h3)
          have HQ:=Lib.hid (HE.out.trans hh)
          clear h3 hh KH
          go_wp2_with fail
          exact ⟨rfl,TakC.no HQ.out (ThrowC.mk H3.out)⟩
        | inl p =>
          obtain ⟨⟨m,i,k⟩,r3⟩:=p
          rw [hh] at hp
          obtain ⟨rfl,h3⟩:=hp
          have hbx:=(h3.oth.block w.heap.size (Array.getElem?_eq_some_iff.1 HBX.out).1 hne2).trans HBX.out
          have H3:=Lib.hid ((((H2.out.trans h3).fresh (Nat.le_refl _) hne2 hlow 0 (.int .i64 (m:Int))).fresh (Nat.le_refl _) hne2 hlow 1 (.int .i64 (i:Int))).fresh (Nat.le_refl _) hne2 hlow 2 (.int .u64 (k:Int)))
          have HQ:=Lib.hid (HE.out.trans hh)
          have y0:w3.cell? ⟨w.heap.size,0,none⟩=some (.int .i64 0):=by simp [World.cell?,hbx]
          have y1:w3.cell? ⟨w.heap.size,1,none⟩=some (.int .i64 0):=by simp [World.cell?,hbx]
          have y2:w3.cell? ⟨w.heap.size,2,none⟩=some (.int .u64 0):=by simp [World.cell?,hbx]
          have z0:∀ i,w3.frozen? ⟨w.heap.size,i,none⟩=false:=fun i=>by simp [World.frozen?,hbx]
          unfold hdV
          clear h3 hh KH hbx
          go_wp2_with fail
          refine bodyPost_ret (v:=hdV (m,i,k)) (by simp [results,Tryz.results192,go_sem,y0,y1,y2,hdV]) rfl ?_
          exact TakC.yes HQ.out rfl H3.out
    · have e1:decide (c / 32∈ms)=false:=decide_eq_false hm
      have HE:Hid (cbPart a b (c::r)=.inr 3):=Lib.hid (by
        unfold cbPart
        simp only
        rw [if_pos (.inl (Classical.byContradiction fun h=>hm ((part_mem (c:=c) hms).2 h)))])
      rw [e1]
      clear e1 hm KC KH
      go_wp2_with fail
      exact ⟨rfl,TakC.no HE.out (ThrowC.mk H2.out)⟩
end Go.Proofs.YtnacbakcalcgaaaGreatDoor
namespace Go.Proofs.YtnacbakcalcgaaaGreatDoor
open Go.RowKit Go.Sort
attribute [local go_sem ↓] Go.wp_at_zero Go.wp_at_succ
def LocV (B:Nat) (v:Value):Prop:=∀ a n c,v=.slice (some a) n c→B≤a.block
theorem LocV.mono {B B':Nat} {v:Value} (h:LocV B v) (hb:B'≤B):LocV B' v:=fun a n c e=>Nat.le_trans hb (h a n c e)
theorem locV_own {B:Nat} {w:World} {v:Value} {xs:List Nat} (h:Own B w v xs):LocV B v:=by
  obtain ⟨ad,cap,rfl,_,_,h3⟩:=h.view
  intro a n c e
  injection e with e1
  exact (h3 a e1).1
theorem trim_n {w0 w:World} {l:List Ent} {v1:Value} {L1 N1:Nat} {xs:List Nat} (h:Ctx w0 w l) (i:Nat) (hi:l[i]? = some ⟨v1,L1,N1,xs⟩) (h1:L1≤10000000) :
    Calls Tryz.prog 195 #[v1] w fun e w'=>∃ v m k,e=.returned (.tuple #[v,.int .i64 ((k:Nat):Int)])∧N1=m*tenN k∧(N1=0→k=0)∧(N1 ≠ 0→m % 10 ≠ 0)∧k≤400000000∧LocV w.heap.size v∧Ctx w0 w' (⟨v,L1,m,limbs m⟩::l):=by
  obtain ⟨ad,cap,rfl,a2,a3,a4,a5,rfl⟩:=h.get i hi
  refine (trim_any ad _ cap xs w rfl a2 (by omega) a4 a5).mono ?_
  rintro e w' ⟨v,m,k,rfl,ho,hb,q1,q2,q3,q4⟩
  refine ⟨v,m,k,rfl,q1,q2,q3,q4,locV_own ho,(h.step hb).push (ent_own ho (len_leq a4 ?_ a3))⟩
  rw [q1]
  exact Nat.le_mul_of_pos_right _ (Nat.pow_pos (by decide))
def MadeN (w w0:World) (l:List Ent) (L:Nat) (neg:Bool) (m:Nat) (e:Int) (ok:Bool) (r:Ending) (w':World):Prop :=
  ∃ v,r=.returned (.tuple #[.agg #[.bool neg,v,.int .i64 e],.bool ok])∧LocV w.heap.size v∧Ctx w0 w' (⟨v,L,m,limbs m⟩::l)
theorem make_yes_n {w0 w:World} {l:List Ent} {v:Value} {L N:Nat} {xs:List Nat} (h:Ctx w0 w l) (i:Nat) (hi:l[i]? = some ⟨v,L,N,xs⟩) (hL:L≤1000000) (neg:Bool) (e:Int)
    (m k:Nat) (hN:N=m*tenN k) (hm:m % 10 ≠ 0) (hlen:(limbs m).length≤90) (hlo:-1200≤e+(k:Int)) (hhi:e+(k:Int)≤1200) :
    Calls Tryz.prog 155 #[.bool neg,v,.int .i64 e] w (MadeN w w0 l L neg m (e+(k:Int)) true):=by
  have hb1:Below w.heap.size w (w.alloc (.cells #[.bool false,.slice none 0 0,.int .i64 0] 25)):=(Below.refl _ _).alloc (Nat.le_refl _) _
  have h1:=h.step hb1
  have hW:=Lib.hid h.below.size
  have K:=Lib.hid (trim_n h1.again i hi (by omega))
  have H1:=Lib.hid h1.below
  have HB1:=Lib.hid hb1
  have HC:=Lib.hid (chkB_mk (neg:=neg) hm hlen hlo hhi)
  have hne:m ≠ 0:=by intro h0;rw [h0] at hm;exact hm rfl
  have hlb:(((limbs m).length:Int) == 0)=false:=by
    rw [beq_eq_false_iff_ne]
    intro h0
    exact hne ((limbs_nil_iff m).1 (List.eq_nil_of_length_eq_zero (by omega)))
  have hN0:N ≠ 0:=by rw [hN];exact Nat.mul_ne_zero hne (tenN_ne _)
  have HM:=Lib.hid hm
  have HE:=Lib.hid hN
  have HLEN:=Lib.hid hlen
  have he1:¬ (1200<e):=by omega
  clear h h1 hi hb1 hne hm hN hlen
  go_enter Tryz.func155,Tryz.ntmps155
  go_wp2_with fail
  refine K.out.mono ?_
  rintro r w1 ⟨t,m',k',rfl,q1,q2,q3,hk4,hloc,h2⟩
  obtain ⟨rfl,rfl⟩:m=m'∧k=k':=ten_unique (by rw [← q1,← HE.out]) HM.out (q3 hN0)
  have HLOC:=Lib.hid (hloc.mono (B':=w.heap.size) (by simp));clear hloc
  have hv:=h2.get 0 rfl
  obtain ⟨ad,cap,rfl,a2,a3,a4,a5,a6⟩:=hv
  obtain ⟨hc,hf⟩:=bcell h2.below
  have hz:w.heap.size<w1.heap.size:=by have:=h2.below.size;simp at this;omega
  have H2:=Lib.hid h2;clear h2 q1 q2 q3
  have KC:=Lib.hid (check_any neg ad (limbs m).length cap (limbs m) (e+(k:Int)) (w1.alloc (.cells #[.bool neg,.slice ad (limbs m).length cap,.int .i64 (e+(k:Int))] 25)) rfl a2 (by have:=HLEN.out;omega) a4 (a5.below ((Below.refl _ _).alloc (Nat.le_refl _) _)))
  have A5:=Lib.hid a5
  have A6:=Lib.hid a6
  clear a3 a4 a5 a6
  generalize hn:(limbs m).length=n at *
  have HN:=Lib.hid hn;clear hn
  have hsum:IntKind.i64.wrap (e+(k:Int))=e+(k:Int):=IntWalk.i64_in _ (by omega)
  go_wp2_with fail
  refine KC.out.mono ?_
  rintro r w2 ⟨rfl,hb2⟩
  rw [HC.out]
  obtain ⟨hc2,hf2⟩:=bcell hb2
  have hz2:w1.heap.size<w2.heap.size:=by have:=hb2.size;simp at this;omega
  have hzz:w.heap.size<w1.heap.size+1:=by omega
  have HB2:=Lib.hid hb2;clear hb2
  go_wp2
  have H3:=Ctx.back H1.out H2.out
  have H4:=(H3.step ((Below.refl _ _).alloc (Nat.le_refl _) (.cells #[.bool neg,.slice ad n cap,.int .i64 (e+(k:Int))] 25))).step HB2.out
  refine bodyPost_ret (v:=.tuple #[.agg #[.bool neg,.slice ad n cap,.int .i64 (e+(k:Int))],.bool true]) (by simp [results,Tryz.results155,go_sem,hc,hc2,hz,hzz]) rfl ⟨_,rfl,HLOC.out,?_⟩
  exact H4.box3 hW.out (b:=false) (a:=none) (n:=0) (c:=0) (x:=0) (by simp [hc,hc2,hzz,hz,World.cell?_alloc_lt]) (by simp [hc,hc2,hzz,hz,World.cell?_alloc_lt]) (by simp [hc,hc2,hzz,hz,World.cell?_alloc_lt]) _ _ _
theorem make_yes2_n {w0 w:World} {l:List Ent} {v:Value} {L N:Nat} {xs:List Nat} (h:Ctx w0 w l) (i:Nat) (hi:l[i]? = some ⟨v,L,N,xs⟩) (hL:L≤1000000) (neg:Bool) (e:Int)
    (m k:Nat) (hN:N=m*tenN k) (hm:m % 10 ≠ 0) (hlen:(limbs m).length≤90) (x:Int) (hx:e+(k:Int)=x) (hlo:-1200≤x) (hhi:x≤1200) :
    Calls Tryz.prog 155 #[.bool neg,v,.int .i64 e] w (MadeN w w0 l L neg m x true):=by
  subst hx;exact make_yes_n h i hi hL neg e m k hN hm hlen hlo hhi
theorem decimal_n {w0 w:World} {l:List Ent} (h:Ctx w0 w l) (ng:Bool) (s:Nat) (t:Int) (h64:s<18446744073709551616) (ht:-1074≤t∧t≤1000) (m k:Nat) (hN:decN s t=m*tenN k) (hm:m % 10 ≠ 0) (hlen:(limbs m).length≤90)
    (E:Int) (hE:E=(k:Int) - ((-t).toNat:Int)) (hlo:-1200≤E) (hhi:E≤1200) :
    Calls Tryz.prog 188 #[binV ng s t] w (MadeN w w0 l 2000 ng m E true):=by
  obtain ⟨hok,hvl⟩:=words_ok h64
  generalize hA:(#[.bool ng,.int .u64 (s:Int),.int .i64 t]:Array Value)=A
  have hb1:=below_box' w A 155
  have hb2:Below w.heap.size w ((w.alloc (.cells A 155)).alloc (.cells #[.bool false,.slice none 0 0,.int .i64 0] 25)):=hb1.alloc hb1.size _
  have h2:=h.step hb2
  have h3:=h2.again.lits hok hvl
  rw [show ((w.alloc (.cells A 155)).alloc (.cells #[.bool false,.slice none 0 0,.int .i64 0] 25)).heap.size=w.heap.size+1+1 by simp] at h3
  rw [show ([s % 4294967296,s / 4294967296].map lv).toArray=#[.int .u32 ((s:Int) % 4294967296),.int .u32 ((s:Int) / 4294967296)] by simp [lv]] at h3
  have z0:(((w.alloc (.cells A 155)).alloc (.cells #[.bool false,.slice none 0 0,.int .i64 0] 25)).alloc (.cells #[.int .u32 ((s:Int) % 4294967296),.int .u32 ((s:Int) / 4294967296)] 51)).cell? ⟨w.heap.size,0,none⟩=some (.bool ng):=by rw [cell_old _ _ _ _ (by simp <;> omega),cell_old _ _ _ _ (by simp),cell_new,← hA];rfl
  have z2:(((w.alloc (.cells A 155)).alloc (.cells #[.bool false,.slice none 0 0,.int .i64 0] 25)).alloc (.cells #[.int .u32 ((s:Int) % 4294967296),.int .u32 ((s:Int) / 4294967296)] 51)).cell? ⟨w.heap.size,2,none⟩=some (.int .i64 t):=by rw [cell_old _ _ _ _ (by simp <;> omega),cell_old _ _ _ _ (by simp),cell_new,← hA];rfl
  have y0:(((w.alloc (.cells A 155)).alloc (.cells #[.bool false,.slice none 0 0,.int .i64 0] 25)).alloc (.cells #[.int .u32 ((s:Int) % 4294967296),.int .u32 ((s:Int) / 4294967296)] 51)).cell? ⟨w.heap.size+1,0,none⟩=some (.bool false):=by rw [cell_old _ _ _ _ (by simp <;> omega),cell_at _ _ _ _ _ (by simp)];rfl
  have y1:(((w.alloc (.cells A 155)).alloc (.cells #[.bool false,.slice none 0 0,.int .i64 0] 25)).alloc (.cells #[.int .u32 ((s:Int) % 4294967296),.int .u32 ((s:Int) / 4294967296)] 51)).cell? ⟨w.heap.size+1,1,none⟩=some (.slice none 0 0):=by rw [cell_old _ _ _ _ (by simp <;> omega),cell_at _ _ _ _ _ (by simp)];rfl
  have y2:(((w.alloc (.cells A 155)).alloc (.cells #[.bool false,.slice none 0 0,.int .i64 0] 25)).alloc (.cells #[.int .u32 ((s:Int) % 4294967296),.int .u32 ((s:Int) / 4294967296)] 51)).cell? ⟨w.heap.size+1,2,none⟩=some (.int .i64 0):=by rw [cell_old _ _ _ _ (by simp <;> omega),cell_at _ _ _ _ _ (by simp)];rfl
  have yf:∀ j,(((w.alloc (.cells A 155)).alloc (.cells #[.bool false,.slice none 0 0,.int .i64 0] 25)).alloc (.cells #[.int .u32 ((s:Int) % 4294967296),.int .u32 ((s:Int) / 4294967296)] 51)).frozen? ⟨w.heap.size+1,j,none⟩=false:=fun j=>(World.frozen?_alloc_old _ _ _ (by simp)).trans (by rw [show w.heap.size+1=(w.alloc (.cells A 155)).heap.size by simp];exact World.frozen?_alloc_new ..)
  rw [show [s % 4294967296,s / 4294967296].length=2 from rfl] at h3
  have hbw:=hb2.trans (h3.below.mono (by simp <;> omega))
  have hzz:w.heap.size+1+1+1=(((w.alloc (.cells A 155)).alloc (.cells #[.bool false,.slice none 0 0,.int .i64 0] 25)).alloc (.cells #[.int .u32 ((s:Int) % 4294967296),.int .u32 ((s:Int) / 4294967296)] 51)).heap.size:=by simp
  generalize hW:(((w.alloc (.cells A 155)).alloc (.cells #[.bool false,.slice none 0 0,.int .i64 0] 25)).alloc (.cells #[.int .u32 ((s:Int) % 4294967296),.int .u32 ((s:Int) / 4294967296)] 51))=W at *
  have H:=Lib.hid (h.step hbw)
  have H3:=Lib.hid h3.again
  have HW:=Lib.hid hW
  have HA:=Lib.hid hA
  have hne1:¬ w.heap.size+1=w.heap.size:=by omega
  have hz0:w.heap.size<W.heap.size:=by omega
  have hz1:w.heap.size+1<W.heap.size:=by omega
  have hg:=Lib.hid h.below.size
  clear h h2 h3 hb1 hb2 hbw hW hok hvl hA
  by_cases hneg:t<0
  · obtain ⟨kk,hkk⟩:∃ kk:Nat,(-t).toNat=kk:=⟨_,rfl⟩
    have hN2:s*5 ^ kk=m*tenN k:=by
      unfold decN at hN
      rw [hkk,show t.toNat=0 by omega,Nat.pow_zero,Nat.mul_one] at hN;exact hN
    have hnw:IntKind.i64.wrap (-t) = -t:=IntWalk.i64_in _ (by omega)
    have HE:=Lib.hid (show t+(k:Int)=E by omega)
    have hkb:kk≤1074:=by omega
    have KP:=Lib.hid (fun W' (h:Ctx W W' (⟨.slice (some ⟨w.heap.size+1+1,0,none⟩) 2 2,2,s,[s % 4294967296,s / 4294967296]⟩::l))=>pow_c h (b:=5) (by decide) (-t) kk (by unfold cutP;omega))
    clear hE
    have KM:=Lib.hid (fun W' v1 (h:Ctx W W' (⟨v1,kk+1,5 ^ kk,limbs (5 ^ kk)⟩ :: ⟨.slice (some ⟨w.heap.size+1+1,0,none⟩) 2 2,2,s,[s % 4294967296,s / 4294967296]⟩::l))=>mul_c h 1 0 rfl rfl (by decide) (by omega))
    have KK:=Lib.hid (fun W' v1 v2 (h:Ctx W W' (⟨v2,2+(kk+1),s*5 ^ kk,limbs (s*5 ^ kk)⟩ :: ⟨v1,kk+1,5 ^ kk,limbs (5 ^ kk)⟩ :: ⟨.slice (some ⟨w.heap.size+1+1,0,none⟩) 2 2,2,s,[s % 4294967296,s / 4294967296]⟩::l))=>make_yes2_n h 0 rfl (by omega) ng t m k hN2 hm hlen E HE.out hlo hhi)
    clear hN2 hN
    generalize 5 ^ kk=PP at *
    go_enter Tryz.func188,Tryz.ntmps188
    unfold binV
    go_wp2_with fail
    rw [HA.out,HW.out]
    go_region_held3 (fun w'=>w'.cell? ⟨w.heap.size,0,none⟩=some (.bool ng)∧w'.cell? ⟨w.heap.size,2,none⟩=some (.int .i64 t)) (go_keep)
      (first
      | (go_at_call 82;refine (KP.out _ (by exact H3.out.step (below_drew (Below.refl _ _)))).mono ?_;rintro r w1 ⟨v1,rfl,h1⟩;have hB1:=h1.below;have H1:=Lib.hid h1;clear h1;have q0:=(hB1.cell (p:=⟨w.heap.size,0,none⟩) hz0).trans z0;have q2:=(hB1.cell (p:=⟨w.heap.size,2,none⟩) hz0).trans z2)
      | (go_at_call 81;refine (KM.out _ _ (by exact H1.out)).mono ?_;rintro r w2 ⟨v2,rfl,h2⟩;have hB2:=h2.below;have H2:=Lib.hid h2;clear h2;have q0:=(hB2.cell (p:=⟨w.heap.size,0,none⟩) hz0).trans z0;have q2:=(hB2.cell (p:=⟨w.heap.size,2,none⟩) hz0).trans z2)
      | (go_at_call 155;refine (KK.out _ _ _ (by exact H2.out)).mono ?_;rintro r w3 ⟨v3,rfl,hloc3,h3⟩;have HL3:=Lib.hid (hloc3.mono (Nat.le_trans (Nat.le_of_lt hz0) hB2.size));clear hloc3;have hB3:=h3.below;obtain ⟨ad3,cap3,hv3,_⟩:=h3.get 0 rfl;subst hv3;have H4:=Lib.hid h3;clear h3;have q0:=(hB3.cell (p:=⟨w.heap.size,0,none⟩) hz0).trans z0;have q2:=(hB3.cell (p:=⟨w.heap.size,2,none⟩) hz0).trans z2;have x0:=(hB3.cell (p:=⟨w.heap.size+1,0,none⟩) hz1).trans y0;have x1:=(hB3.cell (p:=⟨w.heap.size+1,1,none⟩) hz1).trans y1;have x2:=(hB3.cell (p:=⟨w.heap.size+1,2,none⟩) hz1).trans y2;have xf0:=(hB3.frozen (p:=⟨w.heap.size+1,0,none⟩) hz1).trans (yf 0);have xf1:=(hB3.frozen (p:=⟨w.heap.size+1,1,none⟩) hz1).trans (yf 1);have xf2:=(hB3.frozen (p:=⟨w.heap.size+1,2,none⟩) hz1).trans (yf 2)))
    all_goals
      have H5:=((Ctx.over H.out H4.out).box3 (g:=w.heap.size+1) (b:=false) (a:=none) (n:=0) (c:=0) (x:=0) (Nat.le_succ_of_le hg.out) x0 x1 x2 (.bool ng) (.slice ad3 (limbs m).length cap3) (.int .i64 E)).wide (L':=2000) (by omega)
      have H6:=Lib.hid H5;clear H5
      go_wp2_with fail
      exact bodyPost_ret (v:=.tuple #[.agg #[.bool ng,.slice ad3 (limbs m).length cap3,.int .i64 E],.bool true]) (by simp [results,Tryz.results188,go_sem,x0,x1,x2]) rfl ⟨_,rfl,HL3.out,H6.out⟩
  · obtain ⟨kk,hkk⟩:∃ kk:Nat,t.toNat=kk:=⟨_,rfl⟩
    have hN2:s*2 ^ kk=m*tenN k:=by
      unfold decN at hN
      rw [hkk,show (-t).toNat=0 by omega,Nat.pow_zero,Nat.mul_one] at hN;exact hN
    have hkb:kk≤1000:=by omega
    have HE:=Lib.hid (show 0+(k:Int)=E by omega)
    have KP:=Lib.hid (fun W' (h:Ctx W W' (⟨.slice (some ⟨w.heap.size+1+1,0,none⟩) 2 2,2,s,[s % 4294967296,s / 4294967296]⟩::l))=>pow_c h (b:=2) (by decide) t kk (by unfold cutP;omega))
    clear hE
    have KM:=Lib.hid (fun W' v1 (h:Ctx W W' (⟨v1,kk+1,2 ^ kk,limbs (2 ^ kk)⟩ :: ⟨.slice (some ⟨w.heap.size+1+1,0,none⟩) 2 2,2,s,[s % 4294967296,s / 4294967296]⟩::l))=>mul_c h 1 0 rfl rfl (by decide) (by omega))
    have KK:=Lib.hid (fun W' v1 v2 (h:Ctx W W' (⟨v2,2+(kk+1),s*2 ^ kk,limbs (s*2 ^ kk)⟩ :: ⟨v1,kk+1,2 ^ kk,limbs (2 ^ kk)⟩ :: ⟨.slice (some ⟨w.heap.size+1+1,0,none⟩) 2 2,2,s,[s % 4294967296,s / 4294967296]⟩::l))=>make_yes2_n h 0 rfl (by omega) ng 0 m k hN2 hm hlen E HE.out hlo hhi)
    clear hN2 hN
    generalize 2 ^ kk=PP at *
    go_enter Tryz.func188,Tryz.ntmps188
    unfold binV
    go_wp2_with fail
    rw [HA.out,HW.out]
    go_region_held3 (fun w'=>w'.cell? ⟨w.heap.size,0,none⟩=some (.bool ng)∧w'.cell? ⟨w.heap.size,2,none⟩=some (.int .i64 t)) (go_keep)
      (first
      | (go_at_call 82;refine (KP.out _ (by exact H3.out.step (below_drew (Below.refl _ _)))).mono ?_;rintro r w1 ⟨v1,rfl,h1⟩;have hB1:=h1.below;have H1:=Lib.hid h1;clear h1;have q0:=(hB1.cell (p:=⟨w.heap.size,0,none⟩) hz0).trans z0;have q2:=(hB1.cell (p:=⟨w.heap.size,2,none⟩) hz0).trans z2)
      | (go_at_call 81;refine (KM.out _ _ (by exact H1.out)).mono ?_;rintro r w2 ⟨v2,rfl,h2⟩;have hB2:=h2.below;have H2:=Lib.hid h2;clear h2;have q0:=(hB2.cell (p:=⟨w.heap.size,0,none⟩) hz0).trans z0;have q2:=(hB2.cell (p:=⟨w.heap.size,2,none⟩) hz0).trans z2)
      | (go_at_call 155;refine (KK.out _ _ _ (by exact H2.out)).mono ?_;rintro r w3 ⟨v3,rfl,hloc3,h3⟩;have HL3:=Lib.hid (hloc3.mono (Nat.le_trans (Nat.le_of_lt hz0) hB2.size));clear hloc3;have hB3:=h3.below;obtain ⟨ad3,cap3,hv3,_⟩:=h3.get 0 rfl;subst hv3;have H4:=Lib.hid h3;clear h3;have q0:=(hB3.cell (p:=⟨w.heap.size,0,none⟩) hz0).trans z0;have q2:=(hB3.cell (p:=⟨w.heap.size,2,none⟩) hz0).trans z2;have x0:=(hB3.cell (p:=⟨w.heap.size+1,0,none⟩) hz1).trans y0;have x1:=(hB3.cell (p:=⟨w.heap.size+1,1,none⟩) hz1).trans y1;have x2:=(hB3.cell (p:=⟨w.heap.size+1,2,none⟩) hz1).trans y2;have xf0:=(hB3.frozen (p:=⟨w.heap.size+1,0,none⟩) hz1).trans (yf 0);have xf1:=(hB3.frozen (p:=⟨w.heap.size+1,1,none⟩) hz1).trans (yf 1);have xf2:=(hB3.frozen (p:=⟨w.heap.size+1,2,none⟩) hz1).trans (yf 2)))
    all_goals
      have H5:=((Ctx.over H.out H4.out).box3 (g:=w.heap.size+1) (b:=false) (a:=none) (n:=0) (c:=0) (x:=0) (Nat.le_succ_of_le hg.out) x0 x1 x2 (.bool ng) (.slice ad3 (limbs m).length cap3) (.int .i64 E)).wide (L':=2000) (by omega)
      have H6:=Lib.hid H5;clear H5
      go_wp2_with fail
      exact bodyPost_ret (v:=.tuple #[.agg #[.bool ng,.slice ad3 (limbs m).length cap3,.int .i64 E],.bool true]) (by simp [results,Tryz.results188,go_sem,x0,x1,x2]) rfl ⟨_,rfl,HL3.out,H6.out⟩
theorem exact_n {w0 w:World} {l:List Ent} (h:Ctx w0 w l) (width:Int) (x:Nat) (hx:x<18446744073709551616) {e f:Nat} (hl:Lay e f) (hlo:layOf width=some (e,f)) (hk:kindF e f x=1) :
    Calls Tryz.prog 152 #[.int .i64 width,.int .u64 (x:Int)] w (MadeN w w0 l 2000 (fNeg e f x) (exM e f x) (exE e f x) true):=by
  obtain ⟨e1,e2,e3,e4,e5⟩:=ex_bounds hl hk
  have KK:=fun W=>kind_any width x hx W
  rw [show kindW width x=1 by unfold kindW;rw [hlo];simp [hk]] at KK
  have KKH:=Lib.hid KK
  have KL:=fun W=>layoutOf_any width W
  unfold layA at KL
  rw [hlo] at KL
  have KLH:=Lib.hid KL
  have KSH:=Lib.hid (fun W=>split_any hl x hx W)
  have KBH:=Lib.hid (fun W=>binary_any hl x W)
  have hb:=twosF_bd (x:=x) hl
  have h64:=size_le_64 (x:=x) hl
  have KDH:=Lib.hid (fun W (h:Ctx W W l)=>decimal_n h (fNeg e f x) (sizeF e f x) (twosF e f x) h64 ⟨hb.1,by omega⟩ (exM e f x) _ e1 e2 e3 (exE e f x) rfl e4 e5)
  have H:=Lib.hid h
  have hg:=Lib.hid h.below.size
  clear KK KL hb h64 e1 e2 e3 e4 e5 hk hlo h hl
  generalize fNeg e f x=ng at *
  generalize exM e f x=m at *
  generalize exE e f x=E at *
  generalize sizeF e f x=s at *
  generalize twosF e f x=t at *
  generalize partV e f x=pv at *
  unfold layV at *
  go_enter Tryz.func152,Tryz.ntmps152
  go_wp2_with fail
  refine (KKH.out _).mono ?_
  rintro r w1 ⟨rfl,hb1⟩
  have HB1:=Lib.hid (below_on (below_box' w #[.bool false,.slice none 0 0,.int .i64 0] 25) hb1)
  obtain ⟨hc1,hf1⟩:=bcell hb1
  have x0:w1.cell? ⟨w.heap.size,0,none⟩=some (.bool false):=by rw [hc1 _ _ (by simp)];simp
  have x1:w1.cell? ⟨w.heap.size,1,none⟩=some (.slice none 0 0):=by rw [hc1 _ _ (by simp)];simp
  have x2:w1.cell? ⟨w.heap.size,2,none⟩=some (.int .i64 0):=by rw [hc1 _ _ (by simp)];simp
  have xf:∀ j,w1.frozen? ⟨w.heap.size,j,none⟩=false:=fun j=>by rw [hf1 _ _ (by simp)];simp [go_sem]
  have hz1:w.heap.size<w1.heap.size:=by have h:=hb1.size;(try simp at h);omega
  clear hb1 hc1 hf1
  go_wp2_with fail
  refine (KLH.out _).mono ?_
  rintro r w2 ⟨rfl,hb2⟩
  have hbw:=(below_on hb2 (below_box' w2 #[.int .i64 (e:Int),.int .i64 (f:Int)] 151))
  have z0:(w2.alloc (.cells #[.int .i64 (e:Int),.int .i64 (f:Int)] 151)).cell? ⟨w2.heap.size,0,none⟩=some (.int .i64 (e:Int)):=by simp
  have z1:(w2.alloc (.cells #[.int .i64 (e:Int),.int .i64 (f:Int)] 151)).cell? ⟨w2.heap.size,1,none⟩=some (.int .i64 (f:Int)):=by simp
  have hzz:(w2.alloc (.cells #[.int .i64 (e:Int),.int .i64 (f:Int)] 151)).heap.size=w2.heap.size+1:=by simp
  have hz2:w1.heap.size≤w2.heap.size:=hb2.size
  clear hb2
  go_wp2_with fail
  generalize hW:w2.alloc (.cells #[.int .i64 (e:Int),.int .i64 (f:Int)] 151)=W at *
  have hwz:w.heap.size<W.heap.size:=by omega
  have hwz2:w2.heap.size<W.heap.size:=by omega
  have y0:W.cell? ⟨w.heap.size,0,none⟩=some (.bool false):=(hbw.cell (p:=⟨w.heap.size,0,none⟩) hz1).trans x0
  have y1:W.cell? ⟨w.heap.size,1,none⟩=some (.slice none 0 0):=(hbw.cell (p:=⟨w.heap.size,1,none⟩) hz1).trans x1
  have y2:W.cell? ⟨w.heap.size,2,none⟩=some (.int .i64 0):=(hbw.cell (p:=⟨w.heap.size,2,none⟩) hz1).trans x2
  have yf:∀ j,W.frozen? ⟨w.heap.size,j,none⟩=false:=fun j=>(hbw.frozen (p:=⟨w.heap.size,j,none⟩) hz1).trans (xf j)
  have HBW:=Lib.hid (below_on HB1.out hbw)
  have HCW:=Lib.hid (H.out.step HBW.out)
  have hne1:¬ w.heap.size=w2.heap.size:=by omega
  have hne2:¬ w2.heap.size=w.heap.size:=by omega
  clear x0 x1 x2 xf hW hzz hbw
  go_region_held3 (fun w'=>w'.cell? ⟨w2.heap.size,0,none⟩=some (.int .i64 (e:Int))∧w'.cell? ⟨w2.heap.size,1,none⟩=some (.int .i64 (f:Int))) (go_keep)
    (first
      | (go_at_call 190;refine (KSH.out _).mono ?_;rintro r w3 ⟨rfl,hb3⟩;have hB3:=below_on (below_drew (Below.refl W.heap.size W)) hb3;have q0:=(hB3.cell (p:=⟨w2.heap.size,0,none⟩) hwz2).trans z0;have q1:=(hB3.cell (p:=⟨w2.heap.size,1,none⟩) hwz2).trans z1)
      | (go_at_call 189;refine (KBH.out _).mono ?_;rintro r w4 ⟨rfl,hb4⟩;have hB4:=below_on hB3 hb4;have q0:=(hB4.cell (p:=⟨w2.heap.size,0,none⟩) hwz2).trans z0;have q1:=(hB4.cell (p:=⟨w2.heap.size,1,none⟩) hwz2).trans z1)
      | (go_at_call 188;refine (KDH.out _ (by exact (HCW.out.step hB4).again)).mono ?_;rintro r w5 ⟨v5,rfl,hloc5,h5⟩;have HL5:=Lib.hid (hloc5.mono (Nat.le_trans (Nat.le_of_lt hwz) hB4.size));clear hloc5;obtain ⟨ad5,cap5,hv5,_⟩:=h5.get 0 rfl;subst hv5;have hB5:=below_on hB4 h5.below;have q0:=(hB5.cell (p:=⟨w2.heap.size,0,none⟩) hwz2).trans z0;have q1:=(hB5.cell (p:=⟨w2.heap.size,1,none⟩) hwz2).trans z1;have x0:=(hB5.cell (p:=⟨w.heap.size,0,none⟩) hwz).trans y0;have x1:=(hB5.cell (p:=⟨w.heap.size,1,none⟩) hwz).trans y1;have x2:=(hB5.cell (p:=⟨w.heap.size,2,none⟩) hwz).trans y2;have xf0:=(hB5.frozen (p:=⟨w.heap.size,0,none⟩) hwz).trans (yf 0);have xf1:=(hB5.frozen (p:=⟨w.heap.size,1,none⟩) hwz).trans (yf 1);have xf2:=(hB5.frozen (p:=⟨w.heap.size,2,none⟩) hwz).trans (yf 2);have H5:=Lib.hid h5;clear h5))
  all_goals
    have H6:=Lib.hid ((Ctx.over (HCW.out.step hB4) H5.out).box3 (g:=w.heap.size) (b:=false) (a:=none) (n:=0) (c:=0) (x:=0) hg.out x0 x1 x2 (.bool ng) (.slice ad5 (limbs m).length cap5) (.int .i64 E))
    go_wp2_with fail
    exact bodyPost_ret (v:=.tuple #[.agg #[.bool ng,.slice ad5 (limbs m).length cap5,.int .i64 E],.bool true]) (by simp [results,Tryz.results152,go_sem,x0,x1,x2]) rfl ⟨_,rfl,HL5.out,H6.out⟩
end Go.Proofs.YtnacbakcalcgaaaGreatDoor
namespace Go.Proofs.YtnacbakcalcgaaaGreatDoor
open Go.RowKit Go.Lib Go.Sort
theorem val_set_add (xs:List Nat) (j y:Nat) (h:j<xs.length):val (xs.set j (xs.getD j 0+y))=val xs+B32 ^ j*y:=by
  have h1:=val_take_drop (xs.set j (xs.getD j 0+y)) (j+1) (by rw [List.length_set];omega)
  have h2:=val_take_drop xs (j+1) (by omega)
  have h3:=val_set_take xs j (xs.getD j 0+y) h
  have h4:=val_take_succ xs j h
  have h5:(xs.set j (xs.getD j 0+y)).drop (j+1)=xs.drop (j+1):=by rw [List.drop_set_of_lt (by omega)]
  rw [h1,h3,h5,h2,h4,Nat.mul_add]
  omega
theorem natB_fold (l:List Nat) (a:Nat):l.foldl (fun a x=>a*256+x) a=a*256 ^ l.length+natB l:=by
  induction l generalizing a with
  | nil=>simp [natB]
  | cons x l ih =>
    have h1:=ih (a*256+x)
    have h2:=ih x
    rw [List.foldl_cons,h1]
    unfold natB
    rw [List.foldl_cons,Nat.zero_mul,Nat.zero_add,h2,List.length_cons,Nat.pow_succ,Nat.add_mul,Nat.mul_assoc a,Nat.mul_comm 256]
    unfold natB
    omega
theorem natB_cons (x:Nat) (l:List Nat):natB (x::l)=x*256 ^ l.length+natB l:=by
  have:=natB_fold (x::l) 0
  rw [List.foldl_cons,Nat.zero_mul,Nat.zero_add,natB_fold l x] at this
  omega
theorem pow_256 (i:Nat):256 ^ i=B32 ^ (i / 4)*2 ^ (8*(i % 4)):=by
  rw [B32_eq,show (4294967296:Nat)=2 ^ 32 by decide,show (256:Nat)=2 ^ 8 by decide,← Nat.pow_mul,← Nat.pow_mul,← Nat.pow_add]
  congr 1
  omega
theorem limb_low {xs:List Nat} {i:Nat} (h:val xs<256 ^ i) (hj:i / 4<xs.length):xs.getD (i / 4) 0<2 ^ (8*(i % 4)):=by
  have h2:=val_take_drop xs (i / 4+1) (by omega)
  have h4:=val_take_succ xs (i / 4) hj
  rw [pow_256] at h
  have hp:0<B32 ^ (i / 4):=Nat.pow_pos (by rw [B32_eq];decide)
  have h5:B32 ^ (i / 4)*xs.getD (i / 4) 0<B32 ^ (i / 4)*2 ^ (8*(i % 4)):=by omega
  exact Nat.lt_of_mul_lt_mul_left h5
def NatP (l:List Nat) (w:World) (e:Ending) (w':World):Prop:=∃ u xs,e=.returned u∧ListOk w' u 600 (natB l) xs∧Below w.heap.size w w'
def NatRel (l:List Nat) (n M:Nat) (w:World) (k:Nat) (v:Value) (wr:World):Prop :=
  ∃ (i:Nat) (xs:List Nat),v=.int .i64 (i:Int)∧i≤n∧k=n+1 - i∧Blk wr w.heap.size xs []∧xs.length=M∧Okl xs∧val xs=natB (l.drop (n - i))∧Below w.heap.size w wr
theorem naturalOf_cb (l:List Nat) (w:World) (hl:l.length≤2000) (hb:Okb l) :
    Calls Tryz.prog 191 #[.string (strB l)] w (NatP l w):=by
  obtain ⟨n,hn⟩:∃ n,l.length=n:=⟨_,rfl⟩
  have hsz:(strB l).size=n:=by rw [strB_size,hn]
  have HN:=Lib.hid hn
  have HB:=Lib.hid hb
  rw [hn] at hl
  have HSB:=Lib.hid (strB_data l)
  clear hn hb
  generalize hs:strB l=s at *
  have HS:=Lib.hid hs
  clear hs
  obtain ⟨M,hM⟩:∃ M,(n+3) / 4=M:=⟨_,rfl⟩
  have e0:IntKind.i64.wrap ((n:Int)+4)=(n:Int)+4:=IntWalk.i64_in _ (by omega)
  have e1:IntKind.i64.wrap ((n:Int)+4 - 1)=(n:Int)+3:=by rw [show (n:Int)+4 - 1=(n:Int)+3 by omega];exact IntWalk.i64_in _ (by omega)
  have e2:IntKind.i64.wrap (((n:Int)+3).tdiv 4)=(M:Int):=by
    rw [Int.tdiv_eq_ediv_of_nonneg (by omega)]
    rw [show ((n:Int)+3) / 4=(M:Int) by omega]
    exact IntWalk.i64_in _ (by omega)
  go_enter Tryz.func191,Tryz.ntmps191
  go_wp2_with (refine wpl_make _ rfl _ _ rfl .i64 .i64 (M:Int) (M:Int) M rfl rfl rfl rfl (by omega) ?_)
  intro w1 hb1 hbl1
  have HB1:=Lib.hid hb1
  have HBL1:=Lib.hid hbl1
  clear hb1 hbl1 e0 e1 e2
  go_wp2_with fail
  go_loopg [13] (n+1) (fun k v wr=>NatRel l n M w k v wr)
  case atStart =>
    refine ⟨0,List.replicate M 0,rfl,Nat.zero_le _,rfl,HB1.out,List.length_replicate ..,Okl.replicate _,?_,HBL1.out⟩
    rw [val_replicate,List.drop_of_length_le (by rw [HN.out];omega)];rfl
  case round =>
    obtain ⟨i,xs,rfl,hi,hk,hbk,hxl,hok,hval,hbw⟩:=hrel
    by_cases hin:i<n
    · have c0:wr.cell? ⟨w.heap.size,i / 4,none⟩=some (.int .u32 ((xs.getD (i / 4) 0:Nat):Int)):=by
        rw [hbk.cell _ (by omega)]
      have f0:wr.frozen? ⟨w.heap.size,i / 4,none⟩=false:=hbk.free _
      have HBK:=Lib.hid hbk;have HXL:=Lib.hid hxl;have HOK:=Lib.hid hok;have HVAL:=Lib.hid hval;have HBW:=Lib.hid hbw
      obtain ⟨y,hy⟩:∃ y,l.getD (n - 1 - i) 0=y:=⟨_,rfl⟩
      have hy256:y<256:=by
        rw [← hy]
        have:n - 1 - i<l.length:=by rw [HN.out];omega
        rw [List.getD_eq_getElem?_getD,List.getElem?_eq_getElem this]
        exact HB.out _ (List.getElem_mem _)
      have hget:s.get! (n - 1 - i)=UInt8.ofNat y:=by
        rw [get!_list,HSB.out,← hy]
        have:n - 1 - i<l.length:=by rw [HN.out];omega
        simp [List.getD,this]
      have HY:=Lib.hid hy
      have hlow:xs.getD (i / 4) 0<2 ^ (8*(i % 4)):=limb_low (by rw [hval];have:=natB_bd (l.drop (n - i)) (okb_drop HB.out _);rw [List.length_drop,HN.out,show n - (n - i)=i by omega] at this;exact this) (by omega)
      have q1:IntKind.i64.wrap ((i:Int).tdiv 4)=((i / 4:Nat):Int):=by
        rw [Int.tdiv_eq_ediv_of_nonneg (by omega)];rw [show (i:Int) / 4=((i / 4:Nat):Int) by omega];exact IntWalk.i64_in _ (by omega)
      have q2:IntKind.i64.wrap ((n:Int) - 1)=(n:Int) - 1:=IntWalk.i64_in _ (by omega)
      have q3:IntKind.i64.wrap ((n:Int) - 1 - (i:Int))=((n - 1 - i:Nat):Int):=by rw [show (n:Int) - 1 - (i:Int)=((n - 1 - i:Nat):Int) by omega];exact IntWalk.i64_in _ (by omega)
      have q4:IntKind.i64.wrap ((i:Int).tmod 4)=((i % 4:Nat):Int):=by
        rw [Int.tmod_eq_emod_of_nonneg (by omega)];rw [show (i:Int) % 4=((i % 4:Nat):Int) by omega];exact IntWalk.i64_in _ (by omega)
      have q5:IntKind.i64.wrap (8*((i % 4:Nat):Int))=((8*(i % 4):Nat):Int):=by rw [show 8*((i % 4:Nat):Int)=((8*(i % 4):Nat):Int) by omega];exact IntWalk.i64_in _ (by omega)
      have hq:i / 4<M:=by omega
      have hr4:8*(i % 4)≤24:=by omega
      clear hbk hxl hok hval hbw hy
      have hor:Hid (∀ h:n - 1 - i<s.size,bits BinOp.or IntKind.u32 ((xs.getD (i / 4) 0:Nat):Int) (((s[n - 1 - i]'h).toNat:Int) % 4294967296*2 ^ (8*(i % 4)) % 4294967296)=((xs.getD (i / 4) 0+y*2 ^ (8*(i % 4)):Nat):Int))∧xs.getD (i / 4) 0+y*2 ^ (8*(i % 4))<B32:=by
        have hp:2 ^ (8*(i % 4))≤16777216:=Nat.le_trans (Nat.pow_le_pow_right (by decide) hr4) (by decide)
        have hyp:y*2 ^ (8*(i % 4))<4294967296:=by
          have h1:y*2 ^ (8*(i % 4))≤255*16777216:=Nat.mul_le_mul (by omega) hp
          omega
        obtain ⟨h1,h2⟩:=shl_or (z:=xs.getD (i / 4) 0) (S:=y*2 ^ (8*(i % 4))) hlow (by omega) (Nat.mul_mod_left _ _)
        rw [B32_eq,Nat.mod_eq_of_lt hyp] at h1 h2
        refine ⟨Lib.hid fun h=>?_,by rw [B32_eq];exact h2⟩
        have e1:(s[n - 1 - i]'h).toNat=y:=by
          have hh:s.data.toList.getD (n - 1 - i) 0=UInt8.ofNat y:=by rw [← get!_list,hget]
          have h3:n - 1 - i<s.data.toList.length:=by simpa using h
          have:s[n - 1 - i]'h=s.data.toList.getD (n - 1 - i) 0:=by rw [List.getD_eq_getElem?_getD,List.getElem?_eq_getElem h3];simp [ByteArray.getElem_eq_getElem_data]
          rw [this,hh];simp;omega
        rw [e1,show ((y:Int) % 4294967296)=(y:Int) by omega]
        rw [← h1]
        congr 2
      obtain ⟨HOR,hlt32⟩:=hor
      have HLT:=Lib.hid hlt32
      clear hlt32
      generalize hz:xs.getD (i / 4) 0=z at *
      have HZ:=Lib.hid hz
      generalize hnk:n - 1 - i=nk at *
      generalize hiq:i / 4=iq at *
      have hnk2:nk<n:=by omega
      go_wp2_with fail
      go_region
      go_wp2_with fail
      go_roundg (n+1 - (i+1))
      case measure=>omega
      case rel =>
        have hset:=set_blk HBK.out iq (z+y*2 ^ (8*(i % 4))) (by rw [HXL.out];exact hq)
        refine ⟨i+1,xs.set iq (z+y*2 ^ (8*(i % 4))),by go_num,by omega,by omega,?_,by rw [List.length_set];exact HXL.out,HOK.out.set _ _ HLT.out,?_,?_⟩
        · rw [HOR.out _,hset]
          exact put_blk _ _ HBK.out.lt
        · rw [← HZ.out,val_set_add _ _ _ (by rw [HXL.out];exact hq),HVAL.out]
          have hd:l.drop (n - (i+1))=y::l.drop (n - i):=by
            rw [show n - (i+1)=nk by omega,show n - i=nk+1 by omega,← HY.out]
            have:nk<l.length:=by rw [HN.out];exact hnk2
            rw [List.drop_eq_getElem_cons this]
            simp [List.getD,this]
          rw [hd,natB_cons,List.length_drop,HN.out,show n - (n - i)=i by omega,pow_256,hiq,Nat.mul_left_comm]
          omega
        · rw [HOR.out _,hset]
          exact below_drew (put_below HBW.out (Nat.le_refl _) _ _)
    · obtain rfl:i=n:=by omega
      rw [Nat.sub_self,List.drop_zero] at hval
      have HFIN:Hid (ListOk wr (.slice (some ⟨w.heap.size,0,none⟩) M M) 600 (natB l) xs):=Lib.hid ⟨some ⟨w.heap.size,0,none⟩,M,by rw [hxl],by omega,by omega,hok,hbk.rd_all,hval⟩
      have HBW:=Lib.hid hbw
      clear hbk hxl hok hval hbw
      go_wp2_with fail
      go_ret
      exact ⟨_,xs,rfl,HFIN.out,HBW.out⟩
def IntVal (w:World) (i:IntC) (v:Value):Prop:=∃ u xs,v=.agg #[.bool i.1,u]∧ListOk w u 600 i.2 xs
theorem ListOk.below {w w':World} {v:Value} {L N:Nat} {xs:List Nat} (h:ListOk w v L N xs) (hb:Below w.heap.size w w'):ListOk w' v L N xs:=by
  obtain ⟨ad,cap,h1,h2,h3,h4,h5,h6⟩:=h
  exact ⟨ad,cap,h1,h2,h3,h4,h5.below hb,h6⟩
theorem IntVal.below {w w':World} {i:IntC} {v:Value} (h:IntVal w i v) (hb:Below w.heap.size w w'):IntVal w' i v:=by
  obtain ⟨u,xs,h1,h2⟩:=h
  exact ⟨u,xs,h1,h2.below hb⟩
def IntP (i:IntC) (w:World) (e:Ending) (w':World):Prop:=∃ v,e=.returned v∧IntVal w' i v∧Below w.heap.size w w'
theorem ListOk.box {w:World} {v:Value} {L N:Nat} {xs:List Nat} (h:ListOk w v L N xs) {g j:Nat} {x:Value} (hc:w.cell? ⟨g,j,none⟩=some x) (hx:∀ n:Int,x ≠ .int .u32 n) (u:Value):ListOk (w.setCell ⟨g,j,none⟩ u) v L N xs:=by
  obtain ⟨ad,cap,h1,h2,h3,h4,h5,h6⟩:=h
  exact ⟨ad,cap,h1,h2,h3,h4,h5.setBox hc hx u,h6⟩
theorem lits2_ok (w:World) (k:Nat) (hk:k<18446744073709551616):ListOk (w.alloc (.cells #[.int .u32 ((k:Int) % 4294967296),.int .u32 ((k:Int) / 4294967296)] 51)) (.slice (some ⟨w.heap.size,0,none⟩) 2 2) 600 k [k % 4294967296,k / 4294967296]:=by
  obtain ⟨hok,hvl⟩:=words_ok hk
  have e:(#[.int .u32 ((k:Int) % 4294967296),.int .u32 ((k:Int) / 4294967296)]:Array Value)=([k % 4294967296,k / 4294967296].map lv).toArray:=by simp [lv]
  rw [e]
  exact ⟨_,2,rfl,by simp,by simp,hok,(alloc_blk w _).rd_all,hvl⟩
theorem wholeOf_cb (m i k:Nat) (w:World) (hk:k<18446744073709551616):Calls Tryz.prog 114 #[hdV (m,i,k)] w (IntP (cbWhole (m,i,k)) w):=by
  unfold hdV
  have hw:∀ o1 o2 o3:Obj,Below w.heap.size w (((w.alloc o1).alloc o2).alloc o3):=fun o1 o2 o3=>((((Below.refl _ _).alloc (Nat.le_refl _) _).alloc (by simp) _).alloc (by simp;omega) _)
  have HL:=Lib.hid (fun W=>lits2_ok W k hk)
  have HW:=Lib.hid hw
  clear hw
  by_cases hm:m=1
  · have e1:((m:Int) == 1)=true:=by rw [beq_iff_eq];omega
    have HC:Hid (cbWhole (m,i,k)=(true,k)):=Lib.hid (by unfold cbWhole;simp [hm])
    clear hm
    go_enter Tryz.func114,Tryz.ntmps114
    go_wp2_with fail
    refine bodyPost_ret (v:=.agg #[.bool true,.slice (some ⟨w.heap.size+1+1,0,none⟩) 2 2]) (by simp [results,Tryz.results114,go_sem]) rfl ?_
    have h:=HL.out ((w.alloc (.cells #[.int .i64 (m:Int),.int .i64 (i:Int),.int .u64 (k:Int)] 111)).alloc (.cells #[.bool true,.slice (some ⟨w.heap.size+1+1,0,none⟩) 2 2] 76))
    rw [show ((w.alloc (.cells #[.int .i64 (m:Int),.int .i64 (i:Int),.int .u64 (k:Int)] 111)).alloc (.cells #[.bool true,.slice (some ⟨w.heap.size+1+1,0,none⟩) 2 2] 76)).heap.size=w.heap.size+1+1 by simp] at h
    rw [HC.out]
    exact ⟨_,rfl,⟨_,_,rfl,h⟩,HW.out _ _ _⟩
  · have e1:((m:Int) == 1)=false:=by rw [beq_eq_false_iff_ne];omega
    have HC:Hid (cbWhole (m,i,k)=(false,k)):=Lib.hid (by unfold cbWhole;simp [hm])
    clear hm
    go_enter Tryz.func114,Tryz.ntmps114
    go_wp2_with fail
    refine bodyPost_ret (v:=.agg #[.bool false,.slice (some ⟨w.heap.size+1+1,0,none⟩) 2 2]) (by simp [results,Tryz.results114,go_sem]) rfl ?_
    have h:=HL.out ((w.alloc (.cells #[.int .i64 (m:Int),.int .i64 (i:Int),.int .u64 (k:Int)] 111)).alloc (.cells #[.bool false,.slice (some ⟨w.heap.size+1+1,0,none⟩) 2 2] 76))
    rw [show ((w.alloc (.cells #[.int .i64 (m:Int),.int .i64 (i:Int),.int .u64 (k:Int)] 111)).alloc (.cells #[.bool false,.slice (some ⟨w.heap.size+1+1,0,none⟩) 2 2] 76)).heap.size=w.heap.size+1+1 by simp] at h
    rw [HC.out]
    exact ⟨_,rfl,⟨_,_,rfl,h⟩,HW.out _ _ _⟩
theorem tens_one (m i k:Nat) (h:m=1):cbTens (m,i,k) = -1 - ((min k 100001:Nat):Int):=by unfold cbTens;simp [h]
theorem tens_not (m i k:Nat) (h:m ≠ 1):cbTens (m,i,k)=((min k 100001:Nat):Int):=by unfold cbTens;simp [h]
theorem tensOf_cb (m i k:Nat) (w:World) (hk:k<18446744073709551616):Calls Tryz.prog 193 #[hdV (m,i,k)] w fun e w'=>e=.returned (.int .i64 (cbTens (m,i,k)))∧Below w.heap.size w w':=by
  unfold hdV
  have HW:=Lib.hid (fun o:Obj=>((Below.refl w.heap.size w).alloc (Nat.le_refl _) o))
  obtain ⟨q,hq⟩:∃ q,min k 100001=q:=⟨_,rfl⟩
  have hmn:min (k:Int) 100001=(q:Int):=by omega
  have hqb:q≤100001:=by omega
  have HQ:=Lib.hid hq
  have e2:IntKind.i64.wrap (q:Int)=(q:Int):=IntWalk.i64_in _ (by omega)
  have e3:IntKind.i64.wrap (-1 - (q:Int)) = -1 - (q:Int):=IntWalk.i64_in _ (by omega)
  have HM1:=Lib.hid (tens_one m i k)
  have HM2:=Lib.hid (tens_not m i k)
  rw [HQ.out] at HM1 HM2
  clear hq
  by_cases hm:m=1
  · have e1:((m:Int) == 1)=true:=by rw [beq_iff_eq];omega
    have HC:=Lib.hid (HM1.out hm)
    clear hm
    have hd:=Int.min_def (k:Int) 100001
    by_cases hle:k≤100001
    · have b1:(k:Int)≤100001:=by omega
      obtain rfl:q=k:=by omega
      go_enter Tryz.func193,Tryz.ntmps193
      go_wp2_with fail
      go_ret
      exact ⟨by rw [HC.out];rfl,HW.out _⟩
    · obtain rfl:q=100001:=by omega
      go_enter Tryz.func193,Tryz.ntmps193
      go_wp2_with fail
      go_ret
      exact ⟨by rw [HC.out];rfl,HW.out _⟩
  · have e1:((m:Int) == 1)=false:=by rw [beq_eq_false_iff_ne];omega
    have HC:=Lib.hid (HM2.out hm)
    clear hm
    have hd:=Int.min_def (k:Int) 100001
    by_cases hle:k≤100001
    · have b1:(k:Int)≤100001:=by omega
      obtain rfl:q=k:=by omega
      go_enter Tryz.func193,Tryz.ntmps193
      go_wp2_with fail
      go_ret
      exact ⟨by rw [HC.out];rfl,HW.out _⟩
    · obtain rfl:q=100001:=by omega
      go_enter Tryz.func193,Tryz.ntmps193
      go_wp2_with fail
      go_ret
      exact ⟨by rw [HC.out];rfl,HW.out _⟩
def MkR (r:Option (Bool × Nat × Int)) (B:Nat) (w':World) (neg:Bool) (ad:Option Addr) (n cap:Nat) (x:Int) (ok:Bool):Prop:=match r with
  | some p=>ok=true∧neg=p.1∧n=(limbs p.2.1).length∧x=p.2.2∧n≤cap∧Ind (fun k=>k<B) w' (fun W=>Rd W ad (limbs p.2.1))
  | none=>ok=false
def MkP (r:Option (Bool × Nat × Int)) (w:World) (e:Ending) (w':World):Prop :=
  ∃ (neg:Bool) (ad:Option Addr) (n cap:Nat) (x:Int) (ok:Bool),e=.returned (.tuple #[.agg #[.bool neg,.slice ad n cap,.int .i64 x],.bool ok])∧Below w.heap.size w w'∧MkR r w.heap.size w' neg ad n cap x ok
theorem mkP_none {w w':World} {r:Ending} {L:Nat} {neg:Bool} {m:Nat} {e:Int} {l:List Ent} (h:MadePost w l L neg m e false r w'):MkP none w r w':=by
  obtain ⟨v,rfl,hc⟩:=h
  obtain ⟨ad,cap,rfl,_⟩:=hc.get 0 rfl
  exact ⟨_,ad,_,cap,_,_,rfl,hc.below,rfl⟩
theorem mkP_zero {w w':World} {r:Ending} {L:Nat} {l:List Ent} {neg:Bool} {e:Int} (h:MadePost w l L neg 0 e true r w'):MkP (some (neg,0,e)) w r w':=by
  obtain ⟨v,rfl,hc⟩:=h
  obtain ⟨ad,cap,rfl,h2,_⟩:=hc.get 0 rfl
  exact ⟨_,ad,_,cap,_,_,rfl,hc.below,rfl,rfl,rfl,rfl,h2,fun W _ _=>by rw [limbs_zero];exact Rd.nil _ _⟩
theorem mkP_some {w w':World} {r:Ending} {L:Nat} {l:List Ent} {neg:Bool} {m:Nat} {e:Int} (h:MadeN w w l L neg m e true r w'):MkP (some (neg,m,e)) w r w':=by
  obtain ⟨v,rfl,hloc,hc⟩:=h
  obtain ⟨ad,cap,rfl,h2,h3,h4,h5,h6⟩:=hc.get 0 rfl
  exact ⟨_,ad,_,cap,_,_,rfl,hc.below,rfl,rfl,rfl,rfl,h2,ind_rd h5 (fun a e h=>by subst e;have:=hloc a _ _ rfl;omega)⟩
theorem make_cb {w:World} {u:Value} {L N:Nat} {xs:List Nat} (h:ListOk w u L N xs) (hL:L≤100000) (neg:Bool) (e:Int) (he:-200000≤e∧e≤200000) :
    Calls Tryz.prog 155 #[.bool neg,u,.int .i64 e] w (MkP (mkN neg N e) w):=by
  have hc:Ctx w w [⟨u,L,N,xs⟩]:=(Ctx.begin w).push h
  unfold mkN
  by_cases h0:N=0
  · rw [if_pos h0]
    subst h0
    exact (make_zero hc 0 rfl (by omega) neg e).mono fun _ _ h=>mkP_zero h
  · rw [if_neg h0]
    obtain ⟨h1,h2⟩:=trim_spec h0
    by_cases hb:(limbs (trimM N)).length≤90∧-1200≤e+(trimK N:Int)∧e+(trimK N:Int)≤1200
    · rw [if_pos hb]
      exact (make_yes_n hc 0 rfl (by omega) neg e _ _ h1 h2 hb.1 hb.2.1 hb.2.2).mono fun _ _ h=>mkP_some h
    · rw [if_neg hb]
      exact (make_no hc 0 rfl (by omega) neg e _ _ h1 h2 hb (by omega)).mono fun _ _ h=>mkP_none h
theorem exact_cb (width:Int) (x:Nat) (hx:x<18446744073709551616) (w:World) :
    Calls Tryz.prog 152 #[.int .i64 width,.int .u64 (x:Int)] w (MkP (exactN width x) w):=by
  unfold exactN
  by_cases h1:kindW width x=1
  · rw [if_pos (.inl h1)]
    unfold kindW at h1
    unfold exNegW exMW exEW
    cases hlo:layOf width with
    | none=>rw [hlo] at h1;simp at h1
    | some p =>
      obtain ⟨e,f⟩:=p
      rw [hlo] at h1
      have hk:kindF e f x=1:=by simp only at h1;omega
      simp only [hk,decide_true,Bool.true_and,if_true]
      exact (exact_n (Ctx.begin w) width x hx (layOf_lay hlo) hlo hk).mono fun _ _ h=>mkP_some h
  · have K:=exact_no (Ctx.begin w) width x (kindW width x) (decide (kindW width x=2)) (by
      by_cases h2:kindW width x=2
      · rw [h2];rfl
      · rw [decide_eq_false h2,beq_eq_false_iff_ne];exact h2) (by rw [beq_eq_false_iff_ne];exact h1) (fun W=>kind_any width x hx W)
    by_cases h2:kindW width x=2
    · rw [if_pos (.inr h2)]
      rw [decide_eq_true h2] at K
      have hz:exNegW width x=false∧exMW width x=0∧exEW width x=0:=by
        unfold exNegW exMW exEW
        unfold kindW at h1
        cases hlo:layOf width with
        | none=>exact ⟨rfl,rfl,rfl⟩
        | some p =>
          obtain ⟨e,f⟩:=p
          rw [hlo] at h1
          have hk:¬ kindF e f x=1:=fun h=>h1 (by simp [h])
          simp [hk]
      rw [hz.1,hz.2.1,hz.2.2]
      exact K.mono fun _ _ h=>mkP_zero h
    · rw [if_neg (fun h=>h.elim h1 h2)]
      rw [decide_eq_false h2] at K
      exact K.mono fun _ _ h=>mkP_none h
def SizeP (i:IntC) (w:World) (e:Ending) (w':World):Prop:=∃ ad n cap xs,e=.returned (.slice ad n cap)∧ListOk w' (.slice ad n cap) 700 (cbSize i) xs∧Below w.heap.size w w'
theorem ListOk.wide {w:World} {v:Value} {L L' N:Nat} {xs:List Nat} (h:ListOk w v L N xs) (hL:L≤L'):ListOk w v L' N xs:=by
  obtain ⟨ad,cap,h1,h2,h3,h4⟩:=h
  exact ⟨ad,cap,h1,h2,Nat.le_trans h3 hL,h4⟩
theorem size_cb {w:World} {b:Bool} {N:Nat} {ad:Option Addr} {n cap:Nat} {xs:List Nat} (h:ListOk w (.slice ad n cap) 600 N xs) :
    Calls Tryz.prog 156 #[.agg #[.bool b,.slice ad n cap]] w (SizeP (b,N) w):=by
  have hb1:Below w.heap.size w (w.alloc (.cells #[.bool b,.slice ad n cap] 76)):=(Below.refl _ _).alloc (Nat.le_refl _) _
  have HB1:=Lib.hid hb1
  have H1:=Lib.hid (h.below hb1)
  cases b with
  | false =>
    clear h hb1
    go_enter Tryz.func156,Tryz.ntmps156
    go_wp2_with fail
    go_ret
    exact ⟨ad,n,cap,xs,rfl,H1.out.wide (by decide),HB1.out⟩
  | true =>
    have hc:=((Ctx.begin w).push (x:=⟨.slice ad n cap,600,N,xs⟩) h).step hb1
    have hl:=hc.lit (x:=1) (by rw [B32_eq];decide)
    have hs:(w.alloc (.cells #[.bool true,.slice ad n cap] 76)).heap.size=w.heap.size+1:=by simp
    rw [hs] at hl
    have KA:=Lib.hid (add_c hl 1 0 rfl rfl (by decide) (by decide))
    clear h hb1 hc hl hs
    go_enter Tryz.func156,Tryz.ntmps156
    go_wp2_with fail
    refine KA.out.mono ?_
    rintro r w1 ⟨v,rfl,hc⟩
    obtain ⟨ad1,cap1,rfl,h2,h3,h4,h5,h6⟩:=hc.get 0 rfl
    have HR:=Lib.hid (show SizeP (true,N) w (.returned (.slice ad1 (limbs (N+1)).length cap1)) w1 from ⟨ad1,_,cap1,limbs (N+1),rfl,⟨ad1,cap1,rfl,h2,Nat.le_trans h3 (by decide),h4,h5,h6⟩,hc.below⟩)
    clear hc h2 h3 h4 h5 h6 KA
    generalize (limbs (N+1)).length=k at *
    go_wp2_with fail
    go_ret
    exact HR.out
end Go.Proofs.YtnacbakcalcgaaaGreatDoor
