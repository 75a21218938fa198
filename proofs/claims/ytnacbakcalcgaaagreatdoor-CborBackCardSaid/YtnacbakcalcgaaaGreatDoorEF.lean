/- Texts of the claim. -/
import Derived.Test.YtnacbakcalcgaaaGreatDoorEE
import Derived.Test.YtnacbakcalcgaaaGreatDoorEz
set_option linter.unusedVariables false
set_option linter.unusedSimpArgs false
set_option maxHeartbeats 8000000
set_option maxRecDepth 100000
namespace Go.Proofs.YtnacbakcalcgaaaGreatDoor
open Go.RowKit Go.Lib Go.Sort
theorem val_finB {w0:World} {g d n:Nat} {l:List Nat} {w W:World} {t':MT} {z b:Nat} (h:StC w0 g l d n w W) (hb:w.heap.size≤b) (hg:b ≠ g) (hlow:w0.heap.size≤b) (hz:b<z) (hi:Ind (fun k=>k<z) W (fun W=>Rep W t')) (v0 v1 v2 v3 v4 v5 v6 v7:Value) :
    Ind (fun k=>k<w.heap.size) ((((((((W.setCell ⟨b,0,none⟩ v0).setCell ⟨b,1,none⟩ v1).setCell ⟨b,2,none⟩ v2).setCell ⟨b,3,none⟩ v3).setCell ⟨b,4,none⟩ v4).setCell ⟨b,5,none⟩ v5).setCell ⟨b,6,none⟩ v6).setCell ⟨b,7,none⟩ v7) (fun W=>Rep W t')∧StC w0 g l d n w ((((((((W.setCell ⟨b,0,none⟩ v0).setCell ⟨b,1,none⟩ v1).setCell ⟨b,2,none⟩ v2).setCell ⟨b,3,none⟩ v3).setCell ⟨b,4,none⟩ v4).setCell ⟨b,5,none⟩ v5).setCell ⟨b,6,none⟩ v6).setCell ⟨b,7,none⟩ v7):=by
  constructor
  · refine hi.to (by simp [World.setCell]) (fun k hk hx=>?_) (fun k _ (h:k<w.heap.size)=>(by omega:k<z)) (fun _ h=>h)
    have hne:k ≠ b:=by omega
    rw [set_otherC hne,set_otherC hne,set_otherC hne,set_otherC hne,set_otherC hne,set_otherC hne,set_otherC hne,set_otherC hne]
  · exact (((((((h.fresh hb hg hlow _ _).fresh hb hg hlow _ _).fresh hb hg hlow _ _).fresh hb hg hlow _ _).fresh hb hg hlow _ _).fresh hb hg hlow _ _).fresh hb hg hlow _ _).fresh hb hg hlow _ _
theorem ItC.rep {w0:World} {g d n:Nat} {l:List Nat} {w wS:World} {nv:Value} {us:List MT} {va:Option Addr} {vc:Nat} {W:World} (h:ItC w0 g d n l w wS nv us va vc W) (hnv:∀ k,nv.ownBlock=some k→wS.heap.size≤k) (hm:us.length≤1000000000000000):Ind (fun k=>k<wS.heap.size) W (fun W=>Rep W (arrT va us.length vc us)):=by
  obtain ⟨_,_,e1,hvc,hvr,_,hva,_⟩:=own_viewN h.ow
  cases e1
  intro W' h1 h2
  refine arrT_rep rfl hvc hm (ind_rdv (X:=fun k=>k<wS.heap.size) hvr (fun a e hx=>by have:=(hva a e).1;omega) W' h1 h2) (h.ind W' h1 (fun k hk hx=>h2 k hk (fun h=>hx (.inl h))))
theorem cbItems_no {V:List Nat→Nat→RC MT} {op:Bool} {k f n:Nat} {us:List MT} {l:List Nat} {x:Int} (h:cbMore op k us.length l=.inr x):cbItems V op k (f+1) us l n=.inr x:=by
  rw [cbItems,h]
theorem cbItems_end {V:List Nat→Nat→RC MT} {op:Bool} {k f n:Nat} {us:List MT} {l r:List Nat} (h:cbMore op k us.length l=.inl (false,r)):cbItems V op k (f+1) us l n=.inl (us,r,n):=by
  rw [cbItems,h]
theorem cbItems_bad {V:List Nat→Nat→RC MT} {op:Bool} {k f n:Nat} {us:List MT} {l r:List Nat} {x:Int} (h:cbMore op k us.length l=.inl (true,r)) (h2:V r n=.inr x):cbItems V op k (f+1) us l n=.inr x:=by
  rw [cbItems,h];simp only;rw [h2]
theorem cbItems_on {V:List Nat→Nat→RC MT} {op:Bool} {k f n n2:Nat} {us:List MT} {l r r2:List Nat} {t:MT} (h:cbMore op k us.length l=.inl (true,r)) (h2:V r n=.inl (t,r2,n2)):cbItems V op k (f+1) us l n=cbItems V op k f (us++[t]) r2 n2:=by
  rw [cbItems,h];simp only;rw [h2]
theorem cbMore_most {op:Bool} {k t:Nat} {l r:List Nat} (hk:k≤300) (ht:t≤300) (h:cbMore op k t l=.inl (true,r)):t<300:=by
  unfold cbMore at h
  split at h
  · split at h
    · cases h
    · simp at h
    · split at h
      · cases h
      · omega
  · simp only [Sum.inl.injEq,Prod.mk.injEq,decide_eq_true_eq] at h
    omega
def arrW:RC (List MT)→RC MT
  | .inr x=>.inr x
  | .inl (us,r,n)=>.inl (barrC us,r,n)
theorem cbArr_eq {V:List Nat→Nat→RC MT} {h:HdC} {l:List Nat} {n:Nat} {R:RC (List MT)} (hR:cbItems V (decide (h.2.1=31)) h.2.2 302 [] l n=R):cbArr V h l n=if 300<h.2.2 then .inr 4 else arrW R:=by
  unfold cbArr;rw [hR]
  split
  · rfl
  · cases R with
    | inr x=>rfl
    | inl p=>obtain ⟨us,r,n⟩:=p;rfl
def ArRel (w0:World) (g d:Nat) (w wS:World) (V:List Nat→Nat→RC MT) (op:Bool) (k:Nat) (R:RC (List MT)) (kk:Nat) (v:Value) (wr:World):Prop :=
  ∃ (us:List MT) (va:Option Addr) (vc:Nat) (l:List Nat) (n:Nat),v=.slice va us.length vc∧ItC w0 g d n l w wS (.bool false) us va vc wr∧us.length≤300∧n≤2000∧kk+us.length=302∧cbItems V op k kk (us.map MT.bare) l n=R
theorem array_cb {w0:World} {g d:Nat} (V:List Nat→Nat→RC MT) (hV:ValCC w0 g d V) (hN:NdC V) {l:List Nat} {n:Nat} {w:World} (hr:RdC w0 g l d n w) (m i k:Nat) (hn:n≤2000) :
    Calls Tryz.prog 108 #[.pointer (some ⟨g,0,none⟩),hdV (m,i,k)] w (ValV w0 g d (cbArr V (m,i,k) l n) w):=by
  have hg:=hr.lt
  have hlow:=hr.env.size
  have hgne:w.heap.size+1 ≠ g:=by omega
  have hb1:Below w.heap.size w ((w.alloc (.cells #[.int .i64 (m:Int),.int .i64 (i:Int),.int .u64 (k:Int)] 111)).alloc (.cells #[.int .i64 0,.bool false,.bool false,.slice none 0 0,.int .i64 0,.string ⟨#[]⟩,.slice none 0 0,.slice none 0 0] 29)):=((Below.refl _ _).alloc (Nat.le_refl _) _).alloc (by simp) _
  have H1:=Lib.hid (StC.of_below hr hb1)
  have HQ0:Hid (((w.alloc (.cells #[.int .i64 (m:Int),.int .i64 (i:Int),.int .u64 (k:Int)] 111)).alloc (.cells #[.int .i64 0,.bool false,.bool false,.slice none 0 0,.int .i64 0,.string ⟨#[]⟩,.slice none 0 0,.slice none 0 0] 29)).heap[w.heap.size]? = some (.cells #[.int .i64 (m:Int),.int .i64 (i:Int),.int .u64 (k:Int)] 111)):=Lib.hid ((Below.heap_alloc _ _ _ (by simp)).trans (heap_alloc_new w _))
  have HQ1:Hid (((w.alloc (.cells #[.int .i64 (m:Int),.int .i64 (i:Int),.int .u64 (k:Int)] 111)).alloc (.cells #[.int .i64 0,.bool false,.bool false,.slice none 0 0,.int .i64 0,.string ⟨#[]⟩,.slice none 0 0,.slice none 0 0] 29)).heap[w.heap.size+1]? = some (.cells #[.int .i64 0,.bool false,.bool false,.slice none 0 0,.int .i64 0,.string ⟨#[]⟩,.slice none 0 0,.slice none 0 0] 29)):=Lib.hid (by
    have:=heap_alloc_new (w.alloc (.cells #[.int .i64 (m:Int),.int .i64 (i:Int),.int .u64 (k:Int)] 111)) (.cells #[.int .i64 0,.bool false,.bool false,.slice none 0 0,.int .i64 0,.string ⟨#[]⟩,.slice none 0 0,.slice none 0 0] 29)
    simpa using this)
  have KR:=Lib.hid (refuse_cb m i k 300 ((w.alloc (.cells #[.int .i64 (m:Int),.int .i64 (i:Int),.int .u64 (k:Int)] 111)).alloc (.cells #[.int .i64 0,.bool false,.bool false,.slice none 0 0,.int .i64 0,.string ⟨#[]⟩,.slice none 0 0,.slice none 0 0] 29)))
  have HV:=Lib.hid hV
  have HNN:=Lib.hid hN
  obtain ⟨R0,hR0⟩:∃ R0,cbArr V (m,i,k) l n=R0:=⟨_,rfl⟩
  obtain ⟨R,hR⟩:∃ R,cbItems V (decide (i=31)) k 302 [] l n=R:=⟨_,rfl⟩
  have HAR:Hid (R0=if 300<k then .inr 4 else arrW R):=Lib.hid (hR0.symm.trans (cbArr_eq (h:=(m,i,k)) hR))
  rw [hR0]
  have HR:=Lib.hid hR
  obtain ⟨op,hop⟩:∃ op,decide (i=31)=op:=⟨_,rfl⟩
  rw [hop] at HR
  have HOP:=Lib.hid hop
  dsimp only [hdV]
  clear hr hb1 hV hN hR0 hR hop
  go_enter Tryz.func108,Tryz.ntmps108
  go_wp2_with fail
  refine KR.out.mono ?_
  rintro r wS ⟨hb,⟨hle,rfl⟩ | ⟨hlt,rfl⟩⟩
  · have H2:=Lib.hid (H1.out.more hb)
    have HB0:=Lib.hid ((hb.block w.heap.size (by simp;omega)).trans HQ0.out)
    have HB1:=Lib.hid ((hb.block (w.heap.size+1) (by simp)).trans HQ1.out)
    have HSZ:=Lib.hid (show w.heap.size+1<wS.heap.size by have:=hb.size;simp at this;omega)
    have HLE:=Lib.hid hle
    have HAR2:Hid (R0=arrW R):=Lib.hid (HAR.out.trans (if_neg (by omega)))
    clear hb hle KR
    go_wp2_with fail
    go_loopg [5] 302 (fun kk v wr=>ArRel w0 g d w wS V op k R kk v wr)
    case atStart=>exact ⟨[],none,0,l,n,rfl,ItC.start H2.out hg hlow _,Nat.zero_le _,hn,rfl,HR.out⟩
    case round =>
      obtain ⟨us,va,vc,l1,n1,rfl,hit,hul,hn1,hkk,hR1⟩:=hrel
      rcases gk with _ | f
      · omega
      · have HIT:=Lib.hid hit
        have HR1:=Lib.hid hR1
        have hq0:=(hit.kp w.heap.size (Nat.le_refl _) (by have:=HSZ.out;omega)).trans HB0.out
        have y0:=cellOf hq0 0 rfl
        have y1:=cellOf hq0 1 rfl
        have y2:=cellOf hq0 2 rfl
        have KM:=Lib.hid (more_cb hit.st.rd m i k us.length (by omega))
        rw [HOP.out] at KM
        have hlb:(us.map MT.bare).length=us.length:=List.length_map _
        have HLB:=Lib.hid hlb
        clear hit hR1 hq0 hlb
        generalize hun:us.length=un at *
        have HUN:=Lib.hid hun
        clear hun
        go_wp2_with fail
        refine KM.out.mono ?_
        intro r W1 hp
        cases hm:cbMore op k un l1 with
        | inr x =>
          rw [hm] at hp
          obtain ⟨rfl,l',d',n',h1⟩:=hp
          have H3:=Lib.hid (HIT.out.st.trans h1)
          have HE:Hid (R0=.inr x):=Lib.hid (by rw [HAR2.out,← HR1.out,cbItems_no (by rw [HLB.out];exact hm)];rfl)
          clear h1 hm KM y0 y1 y2
          go_wp2_with fail
          exact ⟨rfl,ValV.no HE.out (ThrowC.mk H3.out)⟩
        | inl p =>
          obtain ⟨b,r1⟩:=p
          rw [hm] at hp
          obtain ⟨rfl,h1⟩:=hp
          have HS1:=Lib.hid h1
          have HM:=Lib.hid hm
          dsimp only [boolV]
          clear h1 KM y0 y1 y2
          cases b with
          | false =>
            have hit1:=HIT.out.on HS1.out
            have hq1:=(hit1.kp (w.heap.size+1) (by omega) HSZ.out).trans HB1.out
            have HE:Hid (R0=.inl (barrC (us.map MT.bare),r1,n1)):=Lib.hid (by rw [HAR2.out,← HR1.out,cbItems_end (by rw [HLB.out];exact HM.out)];rfl)
            have HFIN:=Lib.hid (val_finB hit1.st (b:=w.heap.size+1) (by omega) hgne (by omega) HSZ.out (hit1.rep (by intro k h;cases h) (by rw [HUN.out];omega)) (.int .i64 6) (.bool false) (.bool false) (.slice none 0 0) (.int .i64 0) (.string ⟨#[]⟩) (.slice none 0 0) (.slice va un vc))
            rw [HUN.out] at HFIN
            have y0:W1.cell? ⟨w.heap.size+1,0,none⟩=some (.int .i64 0):=cellOf hq1 0 rfl
            have z0:=freeOf hq1 0
            have y1:W1.cell? ⟨w.heap.size+1,1,none⟩=some (.bool false):=cellOf hq1 1 rfl
            have z1:=freeOf hq1 1
            have y2:W1.cell? ⟨w.heap.size+1,2,none⟩=some (.bool false):=cellOf hq1 2 rfl
            have z2:=freeOf hq1 2
            have y3:W1.cell? ⟨w.heap.size+1,3,none⟩=some (.slice none 0 0):=cellOf hq1 3 rfl
            have z3:=freeOf hq1 3
            have y4:W1.cell? ⟨w.heap.size+1,4,none⟩=some (.int .i64 0):=cellOf hq1 4 rfl
            have z4:=freeOf hq1 4
            have y5:W1.cell? ⟨w.heap.size+1,5,none⟩=some (.string ⟨#[]⟩):=cellOf hq1 5 rfl
            have z5:=freeOf hq1 5
            have y6:W1.cell? ⟨w.heap.size+1,6,none⟩=some (.slice none 0 0):=cellOf hq1 6 rfl
            have z6:=freeOf hq1 6
            have y7:W1.cell? ⟨w.heap.size+1,7,none⟩=some (.slice none 0 0):=cellOf hq1 7 rfl
            have z7:=freeOf hq1 7
            clear hit1 hq1 hm
            go_wp2_with fail
            refine bodyPost_ret (v:=.agg #[.int .i64 6,.bool false,.bool false,.slice none 0 0,.int .i64 0,.string ⟨#[]⟩,.slice none 0 0,.slice va un vc]) (by simp [results,Tryz.results108,go_sem,y0,y1,y2,y3,y4,y5,y6,y7]) rfl ?_
            exact ValV.yes (arrT va un vc us) HE.out rfl (barr_bare _ _ _ _ HUN.out) HFIN.out.1 HFIN.out.2
          | true =>
            have KV:=Lib.hid (HV.out W1 r1 n1 hn1 HS1.out.rd)
            have hu300:=Lib.hid (cbMore_most HLE.out hul hm)
            clear hm
            go_wp2_with fail
            refine KV.out.mono ?_
            intro r W2 hp
            cases hv:V r1 n1 with
            | inr x =>
              rw [hv] at hp
              obtain ⟨rfl,l',d',n',h2⟩:=hp
              have H3:=Lib.hid ((HIT.out.st.trans HS1.out).trans h2)
              have HE:Hid (R0=.inr x):=Lib.hid (by rw [HAR2.out,← HR1.out,cbItems_bad (by rw [HLB.out];exact HM.out) hv];rfl)
              clear h2 hv KV
              go_wp2_with fail
              exact ⟨rfl,ValV.no HE.out (ThrowC.mk H3.out)⟩
            | inl p =>
              obtain ⟨t,r2,n2⟩:=p
              rw [hv] at hp
              obtain ⟨x,rfl,hbare,hin,h2⟩:=hp
              have HE:Hid (cbItems V op k f ((us++[x]).map MT.bare) r2 n2=R):=Lib.hid (by rw [← HR1.out,cbItems_on (by rw [HLB.out];exact HM.out) hv,List.map_append,List.map_cons,List.map_nil,hbare])
              have HN2:=Lib.hid (HNN.out _ _ _ hn1 hv)
              have HS2:=Lib.hid h2
              have HIN:=Lib.hid hin
              have hitb:=(HIT.out.on HS1.out).on (StC.more h2 ((Below.refl W2.heap.size W2).alloc (Nat.le_refl _) (.cells x.c.cells.toArray 29)))
              have HOW:=Lib.hid hitb.ow
              rw [HUN.out] at HOW
              have HBW:=Lib.hid hitb.BW
              have HRD:=Lib.hid (rdv_new W2 x.c.cells 29)
              obtain ⟨xc,xm,xk,xv⟩:=x
              obtain ⟨k0,b0,ng,ma,mn,mc,ex,st,ka,kn,kc,xa,vn,xvc⟩:=xc
              clear h2 hv KV hbare hin hitb
              dsimp only [MT.c,Cel.val]
              go_wp2_with (at_builtin;refine wpl_appTC rfl _ _ rfl wS.heap.size _ un _ rfl HOW.out ⟨W2.heap.size,0,none⟩ 1 ⟨k0,b0,ng,ma,mn,mc,ex,st,ka,kn,kc,xa,vn,xvc⟩ rfl HRD.out (by omega) HBW.out ?_)
              intro gg cap W5 ho5 hg5 hor
              have hadd:=(HIT.out.on HS1.out).add (x:=.mk ⟨k0,b0,ng,ma,mn,mc,ex,st,ka,kn,kc,xa,vn,xvc⟩ xm xk xv) HS2.out HIN.out ((Below.refl W2.heap.size W2).alloc (Nat.le_refl _) _) (by rw [HUN.out];exact ho5) (by rw [HUN.out];exact hg5) (by rw [HUN.out,World.size_alloc];exact hor) (by intro k h;cases h)
              have HADD:=Lib.hid hadd
              clear ho5 hg5 hor hadd
              go_wp2_with fail
              go_roundg f
              case measure=>omega
              case rel=>exact ⟨us++[_],_,_,r2,n2,by rw [List.length_append,HUN.out];rfl,HADD.out,by rw [List.length_append,HUN.out];have:=hu300.out;simp;omega,HN2.out,by rw [List.length_append,HUN.out];simp;omega,HE.out⟩
  · have H2:=Lib.hid (H1.out.more hb)
    have HE:Hid (R0=.inr 4):=Lib.hid (HAR.out.trans (if_pos hlt))
    clear hb KR hlt
    go_wp2_with fail
    exact ⟨rfl,ValV.no HE.out (ThrowC.mk H2.out)⟩
end Go.Proofs.YtnacbakcalcgaaaGreatDoor
namespace Go.Proofs.YtnacbakcalcgaaaGreatDoor
theorem keyB_get (l:List ByteArray) (i:Nat) (hi:i<l.length):keyB l i=l[i].toList:=by unfold keyB;simp [List.getD,hi]
theorem toList_inj {a b:ByteArray} (h:a.toList=b.toList):a=b:=by
  rw [ByteArray.toList_eq,ByteArray.toList_eq] at h
  exact WideShapes.bytes_inj h
theorem twc_nodup {l:List ByteArray} {n lo:Nat} {f:Bool} (hn:l.length=n) (h:Twc (keyB l) n lo f):f=false ↔ l.Nodup:=by
  constructor
  · intro hf
    rw [List.nodup_iff_pairwise_ne,List.pairwise_iff_getElem]
    intro i j hi hj hij e
    have:=(h.1 hf).2 j (by omega) i hij
    rw [keyB_get l i hi,keyB_get l j hj,e] at this
    exact this rfl
  · intro hd
    cases f
    · rfl
    · obtain ⟨h1,⟨i,h2,h3⟩,_⟩:=h.2 rfl
      rw [keyB_get l i (by omega),keyB_get l lo (by omega)] at h3
      have:=(List.getElem_inj hd).1 (toList_inj h3)
      omega
theorem pickB_len (l:List ByteArray) (S:List Nat):(pickB l S).length=S.length:=by simp [pickB]
end Go.Proofs.YtnacbakcalcgaaaGreatDoor
namespace Go.Proofs.YtnacbakcalcgaaaGreatDoor
open Go.RowKit Go.Lib Go.Sort
theorem cbParts_le {m:Nat}:∀ (f:Nat) (a l s r:List Nat),a.length≤2000→cbParts m f a l=.inl (s,r)→s.length≤2000:=by
  intro f
  induction f with
  | zero=>intro a l s r _ h;cases h
  | succ f ih =>
    intro a l s r ha h
    unfold cbParts at h
    split at h
    · cases h
    · simp only [Sum.inl.injEq,Prod.mk.injEq] at h
      rw [← h.1];exact ha
    · split at h
      · cases h
      · split at h
        · cases h
        · split at h
          · cases h
          · split at h
            · cases h
            · exact ih _ _ _ _ (by omega) h
theorem cbText_le {h:HdC} {l s r:List Nat} (e:cbText h l=.inl (s,r)):s.length≤2000:=by
  by_cases hi:h.2.1=31
  · unfold cbText at e
    rw [if_pos hi] at e
    exact cbParts_le _ _ _ _ _ (Nat.zero_le _) e
  · exact cbText_len hi e
theorem cbName_le {l s r:List Nat} (e:cbName l=.inl (s,r)):s.length≤2000:=by
  cases l with
  | nil=>cases e
  | cons c l =>
    unfold cbName at e
    simp only at e
    split at e
    · cases e
    · split at e
      · cases e
      · exact cbText_le e
def pickUC (us:List MT) (S:List Nat):List MT:=S.map fun p=>us.getD p (leafT 0 false ⟨#[]⟩)
theorem pickUC_c (us:List MT) (S:List Nat) (h:∀ p∈S,p<us.length):pickC (us.map MT.c) S=(pickUC us S).map MT.c:=by
  unfold pickC pickUC
  rw [List.map_map]
  apply List.map_congr_left
  intro p hp
  have:=h p hp
  simp [List.getD,this]
theorem pickUC_mem {us:List MT} {S:List Nat} (h:∀ p∈S,p<us.length) {x:MT} (hx:x∈pickUC us S):x∈us:=by
  unfold pickUC at hx
  obtain ⟨p,hp,rfl⟩:=List.mem_map.1 hx
  have:=h p hp
  simp [List.getD,this]
theorem pickUC_bare (us:List MT) (S:List Nat) (h:∀ p∈S,p<us.length):(pickUC us S).map MT.bare=S.map fun i=>(us.map MT.bare).getD i (leafT 0 false ⟨#[]⟩):=by
  unfold pickUC
  rw [List.map_map]
  apply List.map_congr_left
  intro p hp
  have:=h p hp
  simp [List.getD,this]
theorem obj_newC {w0:World} {g d n:Nat} {l:List Nat} {w wS:World} {nv:Value} {m:Nat} {N:List ByteArray} {us:List MT} {va:Option Addr} {vc:Nat} {W W':World} {g1 g2:Nat} (hK:ItC w0 g d n l w wS nv us va vc W) (hm:m≤300) (hN:N.length=m) (hu:us.length=m) (hz:∀ s∈N,s.size≤2000)
    (q1:W.heap.size≤g1) (q2:W.heap.size≤g2) (hk1:BlkV W' g1 9 (sv (pickB N (srt Op.bytesLess (keyB N) 0 m)))) (hk2:BlkV W' g2 29 (flat (pickC (us.map MT.c) (srt Op.bytesLess (keyB N) 0 m)))) (hb:Below W.heap.size W W') :
    Ind (fun k=>k<wS.heap.size) W' (fun X=>Rep X (.mk (objC g1 g2 m) [] (pickB N (srt Op.bytesLess (keyB N) 0 m)) (pickUC us (srt Op.bytesLess (keyB N) 0 m)))):=by
  have hS:∀ p∈srt Op.bytesLess (keyB N) 0 m,p<m:=fun p hp=>by have:=srt_mem.1 hp;omega
  rw [pickUC_c us _ (fun p hp=>by have:=hS p hp;omega)] at hk2
  have hB:=hK.BW
  intro X h1 h2
  have i1:=ind_rdv (X:=fun k=>k<wS.heap.size) hk1.all (fun a e hx=>by cases e;simp only at hx;omega) X h1 h2
  have i2:=ind_rdv (X:=fun k=>k<wS.heap.size) hk2.all (fun a e hx=>by cases e;simp only at hx;omega) X h1 h2
  have i3:=hK.ind X (Nat.le_trans hb.size h1) (fun k hk hx=>by
    rw [h2 k (Nat.lt_of_lt_of_le hk hb.size) (fun h=>hx (.inl h)),hb.block k hk])
  refine Rep.mk ⟨rfl,Nat.le_refl _,Okl.nil,Rd.nil _ _,?_,Nat.le_refl _,i1,?_,Nat.le_refl _,i2,⟨Nat.zero_le _,(by show m≤_;omega),(by show m≤_;omega)⟩,(by show ByteArray.empty.size≤_;exact Nat.zero_le _),?_,⟨(by show (-9223372036854775808:Int)≤0;decide),(by show (0:Int)≤9223372036854775807;decide)⟩,⟨(by show (-9223372036854775808:Int)≤7;decide),(by show (7:Int)≤9223372036854775807;decide)⟩⟩ ?_
  · show (pickB _ _).length=m;rw [pickB_len,srt_len]
  · show (pickUC _ _).length=m;unfold pickUC;rw [List.length_map,srt_len]
  · intro s hs
    change s∈pickB _ _ at hs
    unfold pickB at hs
    obtain ⟨p,hp,rfl⟩:=List.mem_map.1 hs
    have hp:=hS p hp
    have hpN:p<N.length:=by omega
    have e:N.getD p ByteArray.empty=N[p]:=by simp [List.getD,hpN]
    rw [e]
    have:=hz N[p] (List.getElem_mem _)
    unfold maxLen;omega
  · intro x hx
    exact i3 x (pickUC_mem (fun p hp=>by have:=hS p hp;omega) hx)
theorem obj_bareC {N:List ByteArray} {us:List MT} {k:Nat} (g1 g2:Nat) (hN:N.length=k) (hu:us.length=k) :
    (MT.mk (objC g1 g2 k) [] (pickB N (srt Op.bytesLess (keyB N) 0 k)) (pickUC us (srt Op.bytesLess (keyB N) 0 k))).bare =
      bobjC ((sortC N).map fun i=>N.getD i ByteArray.empty) ((sortC N).map fun i=>(us.map MT.bare).getD i (leafT 0 false ⟨#[]⟩)):=by
  have e:srt Op.bytesLess (keyB N) 0 k=sortC N:=by unfold sortC;rw [hN];rfl
  rw [MT.bare_eq,e]
  have hS:∀ p∈sortC N,p<us.length:=fun p hp=>by rw [← e] at hp;have:=srt_mem.1 hp;omega
  have hl:(sortC N).length=k:=by rw [← e,srt_len]
  show MT.mk (objC g1 g2 k).bare [] (pickB N (sortC N)) ((pickUC us (sortC N)).map MT.bare)=_
  rw [pickUC_bare us _ hS]
  unfold bobjC objT
  rw [List.length_map,List.length_map,hl]
  rfl
def obW:RC (List ByteArray × List MT)→RC MT
  | .inr x=>.inr x
  | .inl ((ks,us),r,n)=>if ks.Nodup then .inl (bobjC ((sortC ks).map fun i=>ks.getD i ByteArray.empty) ((sortC ks).map fun i=>us.getD i (leafT 0 false ⟨#[]⟩)),r,n) else .inr 2
theorem cbObj_eq {V:List Nat→Nat→RC MT} {h:HdC} {l:List Nat} {n:Nat} {R:RC (List ByteArray × List MT)} (hR:cbMembers V (decide (h.2.1=31)) h.2.2 302 [] [] l n=R):cbObj V h l n=if 300<h.2.2 then .inr 4 else obW R:=by
  unfold cbObj;rw [hR]
  split
  · rfl
  · cases R with
    | inr x=>rfl
    | inl p=>obtain ⟨⟨ks,us⟩,r,n⟩:=p;rfl
theorem cbMem_no {V:List Nat→Nat→RC MT} {op:Bool} {k f n:Nat} {ks:List ByteArray} {us:List MT} {l:List Nat} {x:Int} (h:cbMore op k us.length l=.inr x):cbMembers V op k (f+1) ks us l n=.inr x:=by
  rw [cbMembers,h]
theorem cbMem_end {V:List Nat→Nat→RC MT} {op:Bool} {k f n:Nat} {ks:List ByteArray} {us:List MT} {l r:List Nat} (h:cbMore op k us.length l=.inl (false,r)):cbMembers V op k (f+1) ks us l n=.inl ((ks,us),r,n):=by
  rw [cbMembers,h]
theorem cbMem_name {V:List Nat→Nat→RC MT} {op:Bool} {k f n:Nat} {ks:List ByteArray} {us:List MT} {l r:List Nat} {x:Int} (h:cbMore op k us.length l=.inl (true,r)) (h2:cbName r=.inr x):cbMembers V op k (f+1) ks us l n=.inr x:=by
  rw [cbMembers,h];simp only;rw [h2]
theorem cbMem_bad {V:List Nat→Nat→RC MT} {op:Bool} {k f n:Nat} {ks:List ByteArray} {us:List MT} {l r s r2:List Nat} {x:Int} (h:cbMore op k us.length l=.inl (true,r)) (h2:cbName r=.inl (s,r2)) (h3:V r2 n=.inr x):cbMembers V op k (f+1) ks us l n=.inr x:=by
  rw [cbMembers,h];simp only;rw [h2];simp only;rw [h3]
theorem cbMem_on {V:List Nat→Nat→RC MT} {op:Bool} {k f n n2:Nat} {ks:List ByteArray} {us:List MT} {l r s r2 r3:List Nat} {t:MT} (h:cbMore op k us.length l=.inl (true,r)) (h2:cbName r=.inl (s,r2)) (h3:V r2 n=.inl (t,r3,n2)):cbMembers V op k (f+1) ks us l n=cbMembers V op k f (ks++[strB s]) (us++[t]) r3 n2:=by
  rw [cbMembers,h];simp only;rw [h2];simp only;rw [h3]
def ObRel (w0:World) (g d:Nat) (w wS:World) (V:List Nat→Nat→RC MT) (op:Bool) (k:Nat) (R:RC (List ByteArray × List MT)) (kk:Nat) (p v:Value) (wr:World):Prop :=
  ∃ (ks:List ByteArray) (ka:Option Addr) (kc:Nat) (us:List MT) (va:Option Addr) (vc:Nat) (l:List Nat) (n:Nat),p=.slice ka us.length kc∧v=.slice va us.length vc∧ks.length=us.length∧ItC w0 g d n l w wS (.slice ka ks.length kc) us va vc wr∧NmC wS ks ka kc wr∧(∀ s∈ks,s.size≤2000)∧us.length≤300∧n≤2000∧kk+us.length=302∧cbMembers V op k kk ks (us.map MT.bare) l n=R
theorem object_cb {w0:World} (hU:UT w0) {g d:Nat} (V:List Nat→Nat→RC MT) (hV:ValCC w0 g d V) (hN:NdC V) {l:List Nat} {n:Nat} {w:World} (hr:RdC w0 g l d n w) (m i k:Nat) (hn:n≤2000) :
    Calls Tryz.prog 109 #[.pointer (some ⟨g,0,none⟩),hdV (m,i,k)] w (ValV w0 g d (cbObj V (m,i,k) l n) w):=by
  have hg:=hr.lt
  have hlow:=hr.env.size
  have hgne:w.heap.size+1 ≠ g:=by omega
  have hb1:Below w.heap.size w ((w.alloc (.cells #[.int .i64 (m:Int),.int .i64 (i:Int),.int .u64 (k:Int)] 111)).alloc (.cells #[.int .i64 0,.bool false,.bool false,.slice none 0 0,.int .i64 0,.string ⟨#[]⟩,.slice none 0 0,.slice none 0 0] 29)):=((Below.refl _ _).alloc (Nat.le_refl _) _).alloc (by simp) _
  have H1:=Lib.hid (StC.of_below hr hb1)
  have HQ0:Hid (((w.alloc (.cells #[.int .i64 (m:Int),.int .i64 (i:Int),.int .u64 (k:Int)] 111)).alloc (.cells #[.int .i64 0,.bool false,.bool false,.slice none 0 0,.int .i64 0,.string ⟨#[]⟩,.slice none 0 0,.slice none 0 0] 29)).heap[w.heap.size]? = some (.cells #[.int .i64 (m:Int),.int .i64 (i:Int),.int .u64 (k:Int)] 111)):=Lib.hid ((Below.heap_alloc _ _ _ (by simp)).trans (heap_alloc_new w _))
  have HQ1:Hid (((w.alloc (.cells #[.int .i64 (m:Int),.int .i64 (i:Int),.int .u64 (k:Int)] 111)).alloc (.cells #[.int .i64 0,.bool false,.bool false,.slice none 0 0,.int .i64 0,.string ⟨#[]⟩,.slice none 0 0,.slice none 0 0] 29)).heap[w.heap.size+1]? = some (.cells #[.int .i64 0,.bool false,.bool false,.slice none 0 0,.int .i64 0,.string ⟨#[]⟩,.slice none 0 0,.slice none 0 0] 29)):=Lib.hid (by
    have:=heap_alloc_new (w.alloc (.cells #[.int .i64 (m:Int),.int .i64 (i:Int),.int .u64 (k:Int)] 111)) (.cells #[.int .i64 0,.bool false,.bool false,.slice none 0 0,.int .i64 0,.string ⟨#[]⟩,.slice none 0 0,.slice none 0 0] 29)
    simpa using this)
  have KR:=Lib.hid (refuse_cb m i k 300 ((w.alloc (.cells #[.int .i64 (m:Int),.int .i64 (i:Int),.int .u64 (k:Int)] 111)).alloc (.cells #[.int .i64 0,.bool false,.bool false,.slice none 0 0,.int .i64 0,.string ⟨#[]⟩,.slice none 0 0,.slice none 0 0] 29)))
  have HV:=Lib.hid hV
  have HNN:=Lib.hid hN
  obtain ⟨R0,hR0⟩:∃ R0,cbObj V (m,i,k) l n=R0:=⟨_,rfl⟩
  obtain ⟨R,hR⟩:∃ R,cbMembers V (decide (i=31)) k 302 [] [] l n=R:=⟨_,rfl⟩
  have HAR:Hid (R0=if 300<k then .inr 4 else obW R):=Lib.hid (hR0.symm.trans (cbObj_eq (h:=(m,i,k)) hR))
  rw [hR0]
  have HR:=Lib.hid hR
  obtain ⟨op,hop⟩:∃ op,decide (i=31)=op:=⟨_,rfl⟩
  rw [hop] at HR
  have HOP:=Lib.hid hop
  dsimp only [hdV]
  clear hr hb1 hV hN hR0 hR hop
  go_enter Tryz.func109,Tryz.ntmps109
  go_wp2_with fail
  refine KR.out.mono ?_
  rintro r wS ⟨hb,⟨hle,rfl⟩ | ⟨hlt,rfl⟩⟩
  · have H2:=Lib.hid (H1.out.more hb)
    have HB0:=Lib.hid ((hb.block w.heap.size (by simp;omega)).trans HQ0.out)
    have HB1:=Lib.hid ((hb.block (w.heap.size+1) (by simp)).trans HQ1.out)
    have HSZ:=Lib.hid (show w.heap.size+1<wS.heap.size by have:=hb.size;simp at this;omega)
    have HLE:=Lib.hid hle
    have HAR2:Hid (R0=obW R):=Lib.hid (HAR.out.trans (if_neg (by omega)))
    clear hb hle KR
    go_wp2_with fail
    go_loopg [5,6] 302 (fun kk p v wr=>ObRel w0 g d w wS V op k R kk p v wr)
    case atStart=>exact ⟨[],none,0,[],none,0,l,n,rfl,rfl,rfl,ItC.start H2.out hg hlow _,World.ownsRow_nil _ _ _ _,nofun,Nat.zero_le _,hn,rfl,HR.out⟩
    case round =>
      obtain ⟨ks,ka,kc,us,va,vc,l1,n1,rfl,rfl,hkl,hit,hnm,hsz,hul,hn1,hkk,hR1⟩:=hrel
      rcases gk with _ | f
      · omega
      · have HIT:=Lib.hid hit
        have HNM:=Lib.hid hnm
        have HSS:=Lib.hid hsz
        have HKL:=Lib.hid hkl
        have HR1:=Lib.hid hR1
        have hq0:=(hit.kp w.heap.size (Nat.le_refl _) (by have:=HSZ.out;omega)).trans HB0.out
        have y0:=cellOf hq0 0 rfl
        have y1:=cellOf hq0 1 rfl
        have y2:=cellOf hq0 2 rfl
        have KM:=Lib.hid (more_cb hit.st.rd m i k us.length (by omega))
        rw [HOP.out] at KM
        have hlb:(us.map MT.bare).length=us.length:=List.length_map _
        have HLB:=Lib.hid hlb
        clear hit hnm hsz hR1 hq0 hlb hkl
        generalize hun:us.length=un at *
        have HUN:=Lib.hid hun
        clear hun
        go_wp2_with fail
        refine KM.out.mono ?_
        intro r W1 hp
        cases hm:cbMore op k un l1 with
        | inr x =>
          rw [hm] at hp
          obtain ⟨rfl,l',d',n',h1⟩:=hp
          have H3:=Lib.hid (HIT.out.st.trans h1)
          have HE:Hid (R0=.inr x):=Lib.hid (by rw [HAR2.out,← HR1.out,cbMem_no (by rw [HLB.out];exact hm)];rfl)
          clear h1 hm KM y0 y1 y2
          go_wp2_with fail
          exact ⟨rfl,ValV.no HE.out (ThrowC.mk H3.out)⟩
        | inl p =>
          obtain ⟨b,r1⟩:=p
          rw [hm] at hp
          obtain ⟨rfl,h1⟩:=hp
          have HS1:=Lib.hid h1
          have HM:=Lib.hid hm
          dsimp only [boolV]
          clear h1 KM y0 y1 y2
          cases b with
          | false =>
            have hit1:=HIT.out.on HS1.out
            have hnm1:=HNM.out.on HS1.out (Nat.lt_of_lt_of_le hit1.gB hit1.low)
            obtain ⟨_,_,e1,hvc,hvr,_,hva,_⟩:=own_viewN hit1.ow
            cases e1
            obtain ⟨_,_,e1,hkc,hkr,_,hka,_⟩:=own_viewN hnm1
            cases e1
            rw [HUN.out] at hvc
            rw [HKL.out] at hkc
            have KO:=Lib.hid (object_core ka un kc un ks va un vc (us.map MT.c) W1 hkc (by omega) HKL.out hkr (by rw [List.length_map,HUN.out]) hvc (by omega) hvr (.inl ⟨Nat.le_refl _,rfl⟩))
            have HIT1:=Lib.hid hit1
            have HE:Hid (R0=obW (.inl ((ks,us.map MT.bare),r1,n1))):=Lib.hid (by rw [HAR2.out,← HR1.out,cbMem_end (by rw [HLB.out];exact HM.out)])
            have HQ1b:=Lib.hid ((hit1.kp (w.heap.size+1) (by omega) HSZ.out).trans HB1.out)
            clear hit1 hnm1 hvc hvr hva hkc hkr hka hm
            go_wp2_with fail
            refine KO.out.mono ?_
            rintro r2 W2 ⟨lo,fl,hT,hp1,hp2⟩
            cases fl with
            | true =>
              obtain ⟨hr2,hb2⟩:=hp2 rfl
              obtain rfl:r2=.returned (.tuple #[.agg #[.int .i64 0,.bool false,.bool false,.slice none 0 0,.int .i64 0,.string ⟨#[]⟩,.slice none 0 0,.slice none 0 0],.int .i64 (lo:Int),.bool false]):=hr2
              have HX:=Lib.hid (HIT1.out.st.more hb2)
              have HEE:Hid (R0=.inr 2):=Lib.hid (by
                rw [HE.out]
                unfold obW
                simp only
                rw [if_neg (fun h=>by have:=(twc_nodup (n:=un) HKL.out hT).2 h;cases this)])
              clear hT hp1 hp2 hb2 KO
              go_wp2_with fail
              exact ⟨rfl,ValV.no HEE.out (ThrowC.mk (HX.out.alloc _))⟩
            | false =>
              obtain ⟨g1,g2,hr2,q1,q2,hk1,hk2,hb2⟩:=hp1 rfl
              obtain rfl:r2=.returned (.tuple #[.agg #[.int .i64 7,.bool false,.bool false,.slice none 0 0,.int .i64 0,.string ⟨#[]⟩,.slice (some ⟨g1,0,none⟩) un un,.slice (some ⟨g2,0,none⟩) un un],.int .i64 0,.bool true]):=hr2
              have HND:Hid (R0=.inl (bobjC ((sortC ks).map fun i=>ks.getD i ByteArray.empty) ((sortC ks).map fun i=>(us.map MT.bare).getD i (leafT 0 false ⟨#[]⟩)),r1,n1)):=Lib.hid (by
                rw [HE.out]
                unfold obW
                simp only
                rw [if_pos ((twc_nodup (n:=un) HKL.out hT).1 rfl)])
              have hind:=obj_newC HIT1.out (m:=un) hul HKL.out HUN.out HSS.out q1 q2 hk1 hk2 hb2
              have hal:Below W2.heap.size W2 (W2.alloc (.cells #[.int .i64 7,.bool false,.bool false,.slice none 0 0,.int .i64 0,.string ⟨#[]⟩,.slice (some ⟨g1,0,none⟩) un un,.slice (some ⟨g2,0,none⟩) un un] 29)):=(Below.refl _ _).alloc (Nat.le_refl _) _
              have hst:=(HIT1.out.st.more hb2).more hal
              have hq1:=(hal.block _ (Array.getElem?_eq_some_iff.1 ((hb2.block _ (Array.getElem?_eq_some_iff.1 HQ1b.out).1).trans HQ1b.out)).1).trans ((hb2.block _ (Array.getElem?_eq_some_iff.1 HQ1b.out).1).trans HQ1b.out)
              have HFIN:=Lib.hid (val_finB hst (b:=w.heap.size+1) (by omega) hgne (by omega) HSZ.out (hind.below hal) (.int .i64 7) (.bool false) (.bool false) (.slice none 0 0) (.int .i64 0) (.string ⟨#[]⟩) (.slice (some ⟨g1,0,none⟩) un un) (.slice (some ⟨g2,0,none⟩) un un))
              have HNB:=Lib.hid (heap_alloc_new W2 (.cells #[.int .i64 7,.bool false,.bool false,.slice none 0 0,.int .i64 0,.string ⟨#[]⟩,.slice (some ⟨g1,0,none⟩) un un,.slice (some ⟨g2,0,none⟩) un un] 29))
              have hn5:¬ W2.heap.size=w.heap.size+1:=by have:=HIT1.out.BW;have:=hb2.size;have:=HSZ.out;omega
              have hn6:¬ w.heap.size+1=W2.heap.size:=fun e=>hn5 e.symm
              have y0:(W2.alloc (.cells #[.int .i64 7,.bool false,.bool false,.slice none 0 0,.int .i64 0,.string ⟨#[]⟩,.slice (some ⟨g1,0,none⟩) un un,.slice (some ⟨g2,0,none⟩) un un] 29)).cell? ⟨w.heap.size+1,0,none⟩=some (.int .i64 0):=cellOf hq1 0 rfl
              have z0:=freeOf hq1 0
              have y1:(W2.alloc (.cells #[.int .i64 7,.bool false,.bool false,.slice none 0 0,.int .i64 0,.string ⟨#[]⟩,.slice (some ⟨g1,0,none⟩) un un,.slice (some ⟨g2,0,none⟩) un un] 29)).cell? ⟨w.heap.size+1,1,none⟩=some (.bool false):=cellOf hq1 1 rfl
              have z1:=freeOf hq1 1
              have y2:(W2.alloc (.cells #[.int .i64 7,.bool false,.bool false,.slice none 0 0,.int .i64 0,.string ⟨#[]⟩,.slice (some ⟨g1,0,none⟩) un un,.slice (some ⟨g2,0,none⟩) un un] 29)).cell? ⟨w.heap.size+1,2,none⟩=some (.bool false):=cellOf hq1 2 rfl
              have z2:=freeOf hq1 2
              have y3:(W2.alloc (.cells #[.int .i64 7,.bool false,.bool false,.slice none 0 0,.int .i64 0,.string ⟨#[]⟩,.slice (some ⟨g1,0,none⟩) un un,.slice (some ⟨g2,0,none⟩) un un] 29)).cell? ⟨w.heap.size+1,3,none⟩=some (.slice none 0 0):=cellOf hq1 3 rfl
              have z3:=freeOf hq1 3
              have y4:(W2.alloc (.cells #[.int .i64 7,.bool false,.bool false,.slice none 0 0,.int .i64 0,.string ⟨#[]⟩,.slice (some ⟨g1,0,none⟩) un un,.slice (some ⟨g2,0,none⟩) un un] 29)).cell? ⟨w.heap.size+1,4,none⟩=some (.int .i64 0):=cellOf hq1 4 rfl
              have z4:=freeOf hq1 4
              have y5:(W2.alloc (.cells #[.int .i64 7,.bool false,.bool false,.slice none 0 0,.int .i64 0,.string ⟨#[]⟩,.slice (some ⟨g1,0,none⟩) un un,.slice (some ⟨g2,0,none⟩) un un] 29)).cell? ⟨w.heap.size+1,5,none⟩=some (.string ⟨#[]⟩):=cellOf hq1 5 rfl
              have z5:=freeOf hq1 5
              have y6:(W2.alloc (.cells #[.int .i64 7,.bool false,.bool false,.slice none 0 0,.int .i64 0,.string ⟨#[]⟩,.slice (some ⟨g1,0,none⟩) un un,.slice (some ⟨g2,0,none⟩) un un] 29)).cell? ⟨w.heap.size+1,6,none⟩=some (.slice none 0 0):=cellOf hq1 6 rfl
              have z6:=freeOf hq1 6
              have y7:(W2.alloc (.cells #[.int .i64 7,.bool false,.bool false,.slice none 0 0,.int .i64 0,.string ⟨#[]⟩,.slice (some ⟨g1,0,none⟩) un un,.slice (some ⟨g2,0,none⟩) un un] 29)).cell? ⟨w.heap.size+1,7,none⟩=some (.slice none 0 0):=cellOf hq1 7 rfl
              have z7:=freeOf hq1 7
              clear hT hp1 hp2 hb2 KO q1 q2 hk1 hk2 hind hal hst hq1
              go_wp2_with fail
              refine bodyPost_ret (v:=.agg #[.int .i64 7,.bool false,.bool false,.slice none 0 0,.int .i64 0,.string ⟨#[]⟩,.slice (some ⟨g1,0,none⟩) un un,.slice (some ⟨g2,0,none⟩) un un]) (by simp [results,Tryz.results109,go_sem,y0,y1,y2,y3,y4,y5,y6,y7]) rfl ?_
              exact ValV.yes _ HND.out rfl (obj_bareC g1 g2 HKL.out HUN.out) HFIN.out.1 HFIN.out.2
          | true =>
            have KN:=Lib.hid (name_cb hU HS1.out.rd)
            have hu300:=Lib.hid (cbMore_most HLE.out hul hm)
            clear hm
            go_wp2_with fail
            refine KN.out.mono ?_
            intro r W2 hp
            cases hnq:cbName r1 with
            | inr x =>
              rw [hnq] at hp
              obtain ⟨rfl,l',d',n',h2⟩:=hp
              have H3:=Lib.hid ((HIT.out.st.trans HS1.out).trans h2)
              have HE:Hid (R0=.inr x):=Lib.hid (by rw [HAR2.out,← HR1.out,cbMem_name (by rw [HLB.out];exact HM.out) hnq];rfl)
              clear h2 hnq KN
              go_wp2_with fail
              exact ⟨rfl,ValV.no HE.out (ThrowC.mk H3.out)⟩
            | inl p =>
              obtain ⟨s,r2⟩:=p
              rw [hnq] at hp
              obtain ⟨rfl,h2⟩:=hp
              have HNQ:=Lib.hid hnq
              have HS2:=Lib.hid (HS1.out.trans h2)
              have HSL:=Lib.hid (show (strB s).size≤2000 by rw [strB_size];exact cbName_le hnq)
              dsimp only [strV]
              clear h2 hnq KN
              generalize hsb:strB s=sb at *
              have HSB:=Lib.hid hsb
              clear hsb
              have h3:Below W2.heap.size W2 (W2.alloc (.cells #[.string sb] 9)):=(Below.refl _ _).alloc (Nat.le_refl _) _
              have HB3:=Lib.hid h3
              have hnb:=(HNM.out.on HS2.out (Nat.lt_of_lt_of_le HIT.out.gB HIT.out.low))
              have HOWN:=Lib.hid (own_onN hnb h3)
              rw [HKL.out] at HOWN
              have HBW:=Lib.hid ((HIT.out.on HS2.out).on (StC.of_below HS2.out.rd h3)).BW
              have HRD:=Lib.hid (rdv_new W2 [.string sb] 9)
              clear hnb h3
              go_wp2_with (at_builtin;refine wpl_appSC rfl _ _ rfl wS.heap.size _ un _ rfl HOWN.out ⟨W2.heap.size,0,none⟩ 1 sb rfl HRD.out (by omega) HBW.out ?_)
              intro gg cap W5 ho5 hg5 hor
              have haddn:=HIT.out.addN HNM.out HS2.out HB3.out (by rw [HKL.out];exact ho5) (by rw [HKL.out];exact hg5) (by rw [HKL.out,World.size_alloc];exact hor)
              have hkl1:(ks++[sb]).length=un+1:=by rw [List.length_append,HKL.out];rfl
              have HITN:=Lib.hid haddn.1
              have HNMN:=Lib.hid haddn.2
              have HKL1:=Lib.hid hkl1
              have HSS1:Hid (∀ s∈ks++[sb],s.size≤2000):=Lib.hid (fun s hs=>(List.mem_append.1 hs).elim (HSS.out s) (fun h=>by rw [List.mem_singleton.1 h];exact HSL.out))
              have KV:=Lib.hid (HV.out W5 r2 n1 hn1 haddn.1.st.rd)
              clear ho5 hg5 hor haddn hkl1
              go_wp2_with fail
              refine KV.out.mono ?_
              intro r W6 hp
              cases hv:V r2 n1 with
              | inr x =>
                rw [hv] at hp
                obtain ⟨rfl,l',d',n',h2⟩:=hp
                have H3:=Lib.hid (HITN.out.st.trans h2)
                have HE:Hid (R0=.inr x):=Lib.hid (by rw [HAR2.out,← HR1.out,cbMem_bad (by rw [HLB.out];exact HM.out) HNQ.out hv];rfl)
                clear h2 hv KV
                go_wp2_with fail
                exact ⟨rfl,ValV.no HE.out (ThrowC.mk H3.out)⟩
              | inl p =>
                obtain ⟨t,r3,n2⟩:=p
                rw [hv] at hp
                obtain ⟨x,rfl,hbare,hin,h2⟩:=hp
                have HE:Hid (cbMembers V op k f (ks++[sb]) ((us++[x]).map MT.bare) r3 n2=R):=Lib.hid (by rw [← HR1.out,cbMem_on (by rw [HLB.out];exact HM.out) HNQ.out hv,List.map_append,List.map_cons,List.map_nil,hbare,HSB.out])
                have HN2:=Lib.hid (HNN.out _ _ _ hn1 hv)
                have HS6:=Lib.hid h2
                have HIN:=Lib.hid hin
                have hal:Below W6.heap.size W6 (W6.alloc (.cells x.c.cells.toArray 29)):=(Below.refl W6.heap.size W6).alloc (Nat.le_refl _) _
                have hitb:=HITN.out.on (StC.more h2 hal)
                have HOW:=Lib.hid hitb.ow
                rw [HUN.out] at HOW
                have HBW6:=Lib.hid hitb.BW
                have HRD6:=Lib.hid (rdv_new W6 x.c.cells 29)
                have HNM6:=Lib.hid (HNMN.out.on h2 (Nat.lt_of_lt_of_le HIT.out.gB HIT.out.low))
                obtain ⟨xc,xm,xk,xv⟩:=x
                obtain ⟨k0,b0,ng,ma,mn,mc,ex,st,xka,xkn,xkc,xa,vn,xvc⟩:=xc
                clear h2 hv KV hbare hin hitb hal
                dsimp only [MT.c,Cel.val]
                go_wp2_with (at_builtin;refine wpl_appTC rfl _ _ rfl wS.heap.size _ un _ rfl HOW.out ⟨W6.heap.size,0,none⟩ 1 ⟨k0,b0,ng,ma,mn,mc,ex,st,xka,xkn,xkc,xa,vn,xvc⟩ rfl HRD6.out (by omega) HBW6.out ?_)
                intro gg2 cap2 W8 ho8 hg8 hor8
                have hal:Below W6.heap.size W6 (W6.alloc (.cells (Cel.mk k0 b0 ng ma mn mc ex st xka xkn xkc xa vn xvc).cells.toArray 29)):=(Below.refl W6.heap.size W6).alloc (Nat.le_refl _) _
                have hadd:=HITN.out.add (x:=.mk ⟨k0,b0,ng,ma,mn,mc,ex,st,xka,xkn,xkc,xa,vn,xvc⟩ xm xk xv) HS6.out HIN.out hal (by rw [HUN.out];exact ho8) (by rw [HUN.out];exact hg8) (by rw [HUN.out,World.size_alloc];exact hor8) (fun k hk=>by
                  rw [HKL1.out] at hk
                  have:=HNMN.out
                  unfold NmC at this
                  rw [HKL1.out] at this
                  exact own_bd this hk)
                have HNM8:=Lib.hid (NmC.add (us:=us) (va:=va) (vc:=vc) HNM6.out (by rw [HUN.out];exact HOW.out) hal (by rw [HUN.out];exact hg8) (w0:=w0) (g:=g) (d:=d) (n:=n) (l:=l))
                have HADD:=Lib.hid hadd
                clear ho8 hg8 hor8 hadd hal
                go_wp2_with fail
                go_roundg f
                case measure=>omega
                case rel=>exact ⟨ks++[sb],_,_,us++[_],_,_,r3,n2,by rw [List.length_append,HUN.out];rfl,by rw [List.length_append,HUN.out];rfl,by rw [HKL1.out,List.length_append,HUN.out];rfl,HADD.out,HNM8.out,HSS1.out,by rw [List.length_append,HUN.out];have:=hu300.out;simp;omega,HN2.out,by rw [List.length_append,HUN.out];simp;omega,HE.out⟩
  · have H2:=Lib.hid (H1.out.more hb)
    have HE:Hid (R0=.inr 4):=Lib.hid (HAR.out.trans (if_pos hlt))
    clear hb KR hlt
    go_wp2_with fail
    exact ⟨rfl,ValV.no HE.out (ThrowC.mk H2.out)⟩
end Go.Proofs.YtnacbakcalcgaaaGreatDoor
