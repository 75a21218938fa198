/- Texts of the claim. -/
import Derived.Test.YtapicpdfdjofaaaDoorZe
set_option linter.unusedVariables false
set_option linter.unusedSimpArgs false
set_option maxHeartbeats 16000000
set_option maxRecDepth 100000
namespace Go.Proofs.YtapicpdfdjofaaaDoor
open Go.RowKit Go.Shelf
theorem parse_sizes {s:List UInt8} {p:List (List UInt8)} (h:parsePt s=.inl p):∀ t∈p,t.length≤s.length:=by
  unfold parsePt at h
  split at h
  · simp at h;subst h;intro t ht;cases ht
  · rename_i b l
    split at h
    · cases h
    · split at h
      · cases h
      · simp at h;subst h
        intro t ht
        obtain ⟨u,hu,rfl⟩:=List.mem_map.1 ht
        have h1:=spl_size 47 l u hu
        have h2:=plain_len u
        simp;omega
theorem ldat_mkB (p:List (List UInt8)):ldat (p.map mkB)=p:=by
  unfold ldat;rw [List.map_map]
  conv=>rhs;rw [← List.map_id p]
  refine List.map_congr_left fun x _=>?_
  exact mkB_list x
theorem map_mkB (l:List ByteArray):(ldat l).map mkB=l:=by
  unfold ldat;rw [List.map_map]
  conv=>rhs;rw [← List.map_id l]
  refine List.map_congr_left fun x _=>?_
  exact mkB_eta x
def RnB (s:ByteArray) (B:Nat) (w:World) (k:Nat) (bv:Value) (wr:World):Prop :=
  ∃ (pos:Nat) (b:Bool),s.size - pos≤k∧bv=.bool b∧(b=false→validL s.data.toList=validL (tailL s pos))∧RI s B w pos wr
def TkB (l:List ByteArray) (n:Nat) (w:World) (k:Nat) (bv i:Value) (wr:World):Prop :=
  ∃ (j:Nat) (b:Bool),j≤n∧n - j≤k∧i=.int .i64 (j:Int)∧bv=.bool b∧(b=false→∀ x∈l.take j,validL x.data.toList=true)∧Below w.heap.size w wr
theorem pointerBack_walk (ad:Option Addr) (n cap:Nat) (l:List ByteArray) (s0:ByteArray) (w:World) (hl:l.length=n) (hcap:n≤cap) (hn:n≤9223372036854775807) (hr:RdV w ad (sv l)) (hs0:s0.size≤maxLen) (hT:UT w) (hM:ML w) :
    Calls Tryd.prog 4 #[.slice ad n cap,.string s0] w fun e w'=>e=.returned (.bool true)∧Below w.heap.size w w':=by
  have KAW:=Lib.hid (fun W (h:Below w.heap.size w W)=>awake14_any W (hT.below h) (hM.below h))
  obtain ⟨W1,hW1⟩:∃ W,w.alloc (.cells #[.slice ad n cap] 22)=W:=⟨_,rfl⟩
  have hb1:Below w.heap.size w W1:=by rw [← hW1];exact (Below.refl _ _).alloc (Nat.le_refl _) _
  have hp:(PathV.mk ad n cap l).Ok W1:=⟨hl,hcap,hn,hr.on hb1⟩
  have KS:=Lib.hid (short_any [⟨ad,n,cap,l⟩] w.heap.size 1 W1 rfl (by decide) (by
    intro j p hj
    cases j with
    | zero =>
      simp at hj;subst hj
      have:W1.heap[w.heap.size]? = some (.cells #[.slice ad n cap] 22):=by rw [← hW1];exact heap_alloc_new w _
      simp [World.cell?,this,PathV.val]
    | succ j=>simp at hj) (by intro p hp';simp at hp';subst hp';exact hp))
  have HR:=Lib.hid (fun W (h:Below w.heap.size w W)=>hr.on h)
  have HUT:=Lib.hid (fun W (h:Below w.heap.size w W)=>hT.below h)
  have HML:=Lib.hid (fun W (h:Below w.heap.size w W)=>hM.below h)
  have HL:=Lib.hid hl
  have HB:=Lib.hid hb1
  have HW1:=Lib.hid hW1
  unfold maxLen at hs0
  clear hb1 hW1 hp hr hT hM hl
  go_enter Tryd.func4,Tryd.ntmps4
  go_wp2_with fail
  rw [HW1.out]
  refine KS.out.mono ?_
  rintro r w2 ⟨b,rfl,hs,rfl⟩
  cases b with
  | false =>
    go_wp2_with fail
    refine (KAW.out _ HB.out).mono ?_
    rintro r w3 ⟨rfl,h3⟩
    have HF:=Lib.hid (HB.out.trans (h3.mono HB.out.size))
    clear h3
    go_wp2
    go_ret
    exact ⟨rfl,HF.out⟩
  | true =>
    have hsh:=hs rfl ⟨ad,n,cap,l⟩ (by simp)
    obtain ⟨h80,hxs⟩:=hsh
    simp only at h80 hxs
    have HXS:=Lib.hid hxs
    clear hs hxs KS HW1
    by_cases h20:n≤30
    case neg =>
      have h20z:(30:Int)<(n:Int):=by omega
      go_wp2_with fail
      refine (KAW.out _ HB.out).mono ?_
      rintro r w3 ⟨rfl,h3⟩
      have HF:=Lib.hid (HB.out.trans (h3.mono HB.out.size))
      clear h3
      go_wp2
      go_ret
      exact ⟨rfl,HF.out⟩
    have h20z:¬ (30:Int)<(n:Int):=by omega
    by_cases h2k:s0.size≤2000
    case neg =>
      have h2kz:(2000:Int)<(s0.size:Int):=by omega
      go_wp2_with fail
      refine (KAW.out _ HB.out).mono ?_
      rintro r w3 ⟨rfl,h3⟩
      have HF:=Lib.hid (HB.out.trans (h3.mono HB.out.size))
      clear h3
      go_wp2
      go_ret
      exact ⟨rfl,HF.out⟩
    have h2kz:¬ (2000:Int)<(s0.size:Int):=by omega
    have KTX:=Lib.hid (text_any ad n cap l w2 (HML.out _ HB.out) HL.out hcap (by omega) (fun x hx=>by have:=HXS.out x hx;omega) (HR.out _ HB.out))
    obtain ⟨S,hS⟩:∃ S,mkB (textP (ldat l))=S:=⟨_,rfl⟩
    rw [hS] at KTX
    have hSl:S.data.toList=textP (ldat l):=by rw [← hS,mkB_list]
    have hSs:S.size≤1000000:=by
      have h1:=textP_len (ldat l) 2100 (fun t ht=>by
        unfold ldat at ht
        obtain ⟨x,hx,rfl⟩:=List.mem_map.1 ht
        have:=HXS.out x hx
        rw [← Lib.size_eq];exact this)
      have h2:(ldat l).length≤30:=by simp [ldat];have:=HL.out;omega
      have h3:=Nat.mul_le_mul_right (1+2*2100) h2
      rw [Lib.size_eq,hSl];omega
    have HSL:=Lib.hid hSl
    clear hS hSl
    go_wp2_with fail
    refine KTX.out.mono ?_
    rintro r w3 ⟨rfl,h3⟩
    have HB3:=Lib.hid (HB.out.trans (h3.mono HB.out.size))
    clear h3 KTX
    have KP:=Lib.hid (parseP_any S w3 (HUT.out _ HB3.out) (HML.out _ HB3.out) (by omega))
    go_wp2_with fail
    refine KP.out.mono ?_
    intro r w4 hp
    have hpv:∃ pad pn pcap x,r=.returned (.tuple #[.slice pad pn pcap,.int .i64 x])∧Below w3.heap.size w3 w4∧((∀ t∈ldat l,validL t=true)→x=0∧pn=n∧n≤pcap∧RdV w4 pad (sv l)):=by
      rcases hp with ⟨x,h1,rfl,h3⟩ | ⟨p,pad,pcap,h1,rfl,h3,h4,h5,h6⟩
      · refine ⟨none,0,0,x,rfl,h3,fun hv=>?_⟩
        rw [HSL.out,parse_text_p (valid_text hv) (by simp [ldat];have:=HL.out;omega)] at h1
        cases h1
      · refine ⟨pad,p.length,pcap,0,rfl,h6,fun hv=>?_⟩
        rw [HSL.out,parse_text_p (valid_text hv) (by simp [ldat];have:=HL.out;omega)] at h1
        obtain rfl:p=ldat l:=(Sum.inl.inj h1).symm
        have hlen:(ldat l).length=n:=by simp [ldat];exact HL.out
        rw [map_mkB] at h4
        rw [hlen] at h3
        exact ⟨rfl,hlen,h3,h4⟩
    obtain ⟨pad,pn,pcap,x,rfl,hb4,hval⟩:=hpv
    have HB4:=Lib.hid (HB3.out.trans (hb4.mono HB3.out.size))
    have HVAL:=Lib.hid hval
    clear hp hb4 hval KP
    go_wp2_with fail
    go_loopg [8,9] n (fun k bv i wr=>TkB l n w k bv i wr∧Below w4.heap.size w4 wr)
    case atStart=>exact ⟨⟨0,false,by omega,by omega,rfl,rfl,by simp,HB4.out⟩,Below.refl _ _⟩
    case round =>
      obtain ⟨⟨j,b,hj,hk,rfl,rfl,hv,hbw⟩,hb4⟩:=hrel
      by_cases hjn:j<n
      · obtain ⟨k,rfl⟩:∃ k,gk=k+1:=⟨gk - 1,by omega⟩
        have hjz:(j:Int)<(n:Int):=by omega
        have hjl:j<l.length:=by rw [HL.out];exact hjn
        obtain ⟨bk,o,rfl,_,hcx⟩:=HR.out wr hbw j (by rw [sv_len];exact hjl)
        rw [sv_get _ _ hjl] at hcx
        have htk:l.take (j+1)=l.take j++[l.getD j ByteArray.empty]:=by rw [List.take_add_one];simp [List.getD,hjl]
        have hx21:=HXS.out (l.getD j ByteArray.empty) (by simp [List.getD,hjl])
        generalize l.getD j ByteArray.empty=x1 at *
        have hst:=RI.start x1 wr
        generalize hBq:wr.heap.size=Bq at *
        have HBX:=Lib.hid (fun W (h:Below Bq wr W)=>(hbw.trans (h.mono (by rw [← hBq];exact hbw.size)):Below w.heap.size w W))
        have HBX4:=Lib.hid (fun W (h:Below Bq wr W)=>(hb4.trans (h.mono (by rw [← hBq];exact hb4.size)):Below w4.heap.size w4 W))
        have HNX:=Lib.hid (fun W (b2:Bool) (h:b2=false→b=false∧validL x1.data.toList=true) (h2:Below Bq wr W)=>(show TkB l n w k (.bool b2) (.int .i64 ((j:Int)+1)) W∧Below w4.heap.size w4 W from ⟨⟨j+1,b2,by omega,by omega,rfl,rfl,by
          intro hb2
          obtain ⟨g1,g2⟩:=h hb2
          rw [htk];intro y hy
          rcases List.mem_append.1 hy with hy | hy
          · exact hv g1 y hy
          · rw [List.mem_singleton] at hy;subst hy;exact g2,HBX.out W h2⟩,HBX4.out W h2⟩))
        have HBQ:=Lib.hid hBq
        clear htk hv hbw hb4 hBq
        go_wp2
        rw [HBQ.out]
        clear HBQ
        obtain ⟨wj,hwj⟩:∃ W,W=wr:=⟨_,rfl⟩
        replace hst:RI x1 Bq wj 0 (wr.iter x1 0):=by rw [hwj];exact hst
        rw [← hwj] at HBX HNX HBX4
        go_loopg [8] x1.size (fun k2 bv wr2=>RnB x1 Bq wj k2 bv wr2∧(bv=.bool false→b=false))
        case atStart=>exact ⟨⟨0,b,by omega,rfl,fun _=>by rw [tailL_zero],hst⟩,fun e=>by injection e⟩
        case round =>
          obtain ⟨⟨pos,b2,hk2,rfl,hv2,hri⟩,hbb⟩:=hrel
          by_cases hp:pos<x1.size
          · obtain ⟨k2,rfl⟩:∃ k,gk=k+1:=⟨gk - 1,by omega⟩
            have hnx:∀ ty,(Instr.next (.pointer (some ⟨Bq,0,none⟩)) true ty).run Tryd.prog wr=_:=fun ty=>Lib.run_next_any_at wr Bq x1 pos ty hri.1 hp
            rw [decode_tail] at hnx
            have hw:=decL_width (tailL x1 pos) (tailL_ne hp)
            rw [tailL_length] at hw
            by_cases hb2:b2=true
            · subst hb2
              have hri2:=hri.next (pos+(decL (tailL x1 pos)).2)
              generalize decL (tailL x1 pos)=D at *
              obtain ⟨c,m⟩:=D
              simp only at hw hnx hri2
              have HN:=Lib.hid (show RnB x1 Bq wj k2 (.bool true) (wr.iterAt Bq x1 (pos+m))∧(Value.bool true=.bool false→b=false) from ⟨⟨pos+m,true,by omega,rfl,(fun e=>by cases e),hri2⟩,fun e=>by cases e⟩)
              clear hri hri2 hv2 hbb
              go_wp2
              go_roundg k2
              case rel=>exact HN.out
              case measure=>omega
            have hb2f:b2=false:=by cases b2;rfl;exact absurd rfl hb2
            subst hb2f
            by_cases hc:(decL (tailL x1 pos)).1=65533
            · have hri2:=hri.next (pos+(decL (tailL x1 pos)).2)
              generalize decL (tailL x1 pos)=D at *
              obtain ⟨c,m⟩:=D
              simp only at hc hw hnx hri2
              subst hc
              have HN:=Lib.hid (show RnB x1 Bq wj k2 (.bool true) (wr.iterAt Bq x1 (pos+m))∧(Value.bool true=.bool false→b=false) from ⟨⟨pos+m,true,by omega,rfl,(fun e=>by cases e),hri2⟩,fun e=>by cases e⟩)
              clear hri hri2 hv2 hbb hb2
              go_wp2
              go_roundg k2
              case rel=>exact HN.out
              case measure=>omega
            · have hvt:=valid_tail hp
              have hr2:=rune_not hc
              rw [hr2,decide_eq_true (by simp),Bool.true_and] at hvt
              have hcz:((((decL (tailL x1 pos)).1:Nat):Int) == 65533)=false:=beq_eq_false_iff_ne.2 (by omega)
              have hri2:=hri.next (pos+(decL (tailL x1 pos)).2)
              have hv3:=(hv2 rfl).trans hvt
              clear hvt hr2 hv2
              generalize decL (tailL x1 pos)=D at *
              obtain ⟨c,m⟩:=D
              simp only at hc hcz hw hnx hri2 hv3
              have HN:=Lib.hid (show RnB x1 Bq wj k2 (.bool false) (wr.iterAt Bq x1 (pos+m))∧(Value.bool false=.bool false→b=false) from ⟨⟨pos+m,false,by omega,rfl,(fun _=>hv3),hri2⟩,hbb⟩)
              clear hri hri2 hc hv3 hbb hb2
              go_wp2
              go_roundg k2
              case rel=>exact ⟨HN.out.1,fun _=>by have:=HN.out.2;simpa using this⟩
              case measure=>omega
          · have hnx:∀ ty,(Instr.next (.pointer (some ⟨Bq,0,none⟩)) true ty).run Tryd.prog wr=_:=fun ty=>Lib.run_next_end_at wr Bq x1 pos ty hri.1 hp
            have HN:=Lib.hid (HNX.out wr b2 (fun e=>⟨hbb (by rw [e]),by rw [hv2 e,tailL_end (by omega)];rfl⟩) hri.2)
            clear hri hv2 hbb
            go_wp2
            go_roundg k
            case rel=>exact HN.out
            case measure=>omega
      · obtain rfl:j=n:=by omega
        have hjz:¬ (j:Int)<(j:Int):=by omega
        rw [← HL.out,List.take_length] at hv
        have HV:=Lib.hid hv
        have HBW:=Lib.hid hbw
        have HB44:=Lib.hid hb4
        clear hv hbw hb4
        have KP2:=Lib.hid (fun W (h:Below w.heap.size w W)=>parseP_any s0 W (HUT.out _ h) (HML.out _ h) (by omega))
        cases b with
        | true =>
          go_wp2_with fail
          refine (KP2.out _ HBW.out).mono ?_
          intro r w6 hp
          rcases hp with ⟨x6,h1,rfl,h3⟩ | ⟨p6,ad6,cap6,h1,rfl,h3,h4,h5,h6⟩
          · have HB6:=Lib.hid (HBW.out.trans (h3.mono HBW.out.size))
            have h24:=parse_errs h1
            clear h1 h3
            rcases h24 with rfl | rfl
            all_goals
              go_wp2_with fail
              refine (KAW.out _ HB6.out).mono ?_
              rintro r w7 ⟨rfl,h7⟩
              have HF:=Lib.hid (HB6.out.trans (h7.mono HB6.out.size))
              clear h7
              go_wp2
              go_ret
              exact ⟨rfl,HF.out⟩
          · have hb6:=HBW.out.trans (h6.mono HBW.out.size)
            have KX:=Lib.hid (text_any ad6 p6.length cap6 (p6.map mkB) w6 (HML.out _ hb6) (by rw [List.length_map]) h3 (by omega) (fun y hy=>by
              obtain ⟨t,ht,rfl⟩:=List.mem_map.1 hy
              have:=parse_sizes h1 t ht
              rw [mkB_size]
              have h9:=Lib.size_eq s0
              omega) h4)
            rw [ldat_mkB,text_parse_p h1,mkB_eta] at KX
            have HB6:=Lib.hid hb6
            have hee:(s0.toList == s0.toList)=true:=by simp
            clear h1 h4 h6 hb6
            go_wp2_with fail
            refine KX.out.mono ?_
            rintro r w7 ⟨rfl,h7⟩
            have HB7:=Lib.hid (HB6.out.trans (h7.mono HB6.out.size))
            clear h7 KX
            go_wp2_with fail
            refine (KAW.out _ HB7.out).mono ?_
            rintro r w8 ⟨rfl,h8⟩
            have HF:=Lib.hid (HB7.out.trans (h8.mono HB7.out.size))
            clear h8
            go_wp2
            go_ret
            exact ⟨rfl,HF.out⟩
        | false =>
          obtain ⟨rfl,rfl,hpc,hrp⟩:=HVAL.out (by
            intro t ht
            unfold ldat at ht
            obtain ⟨x,hx,rfl⟩:=List.mem_map.1 ht
            exact HV.out rfl x hx)
          have KSS:=Lib.hid (sameStrP_any pad pn pcap l ad cap wr HL.out hpc hcap (by omega) (hrp.on HB44.out) (HR.out _ HBW.out))
          clear hrp
          go_wp2_with fail
          refine KSS.out.mono ?_
          rintro r w5 ⟨rfl,q,rfl⟩
          have HBW2:=Lib.hid (below_drewN HBW.out q)
          clear HBW HB44
          have HBW:=HBW2
          clear HBW2
          generalize wr.drewN q=w5 at *
          go_wp2_with fail
          refine (KP2.out _ HBW.out).mono ?_
          intro r w6 hp
          rcases hp with ⟨x6,h1,rfl,h3⟩ | ⟨p6,ad6,cap6,h1,rfl,h3,h4,h5,h6⟩
          · have HB6:=Lib.hid (HBW.out.trans (h3.mono HBW.out.size))
            have h24:=parse_errs h1
            clear h1 h3
            rcases h24 with rfl | rfl
            all_goals
              go_wp2_with fail
              refine (KAW.out _ HB6.out).mono ?_
              rintro r w7 ⟨rfl,h7⟩
              have HF:=Lib.hid (HB6.out.trans (h7.mono HB6.out.size))
              clear h7
              go_wp2
              go_ret
              exact ⟨rfl,HF.out⟩
          · have hb6:=HBW.out.trans (h6.mono HBW.out.size)
            have KX:=Lib.hid (text_any ad6 p6.length cap6 (p6.map mkB) w6 (HML.out _ hb6) (by rw [List.length_map]) h3 (by omega) (fun y hy=>by
              obtain ⟨t,ht,rfl⟩:=List.mem_map.1 hy
              have:=parse_sizes h1 t ht
              rw [mkB_size]
              have h9:=Lib.size_eq s0
              omega) h4)
            rw [ldat_mkB,text_parse_p h1,mkB_eta] at KX
            have HB6:=Lib.hid hb6
            have hee:(s0.toList == s0.toList)=true:=by simp
            clear h1 h4 h6 hb6
            go_wp2_with fail
            refine KX.out.mono ?_
            rintro r w7 ⟨rfl,h7⟩
            have HB7:=Lib.hid (HB6.out.trans (h7.mono HB6.out.size))
            clear h7 KX
            go_wp2_with fail
            refine (KAW.out _ HB7.out).mono ?_
            rintro r w8 ⟨rfl,h8⟩
            have HF:=Lib.hid (HB7.out.trans (h8.mono HB7.out.size))
            clear h8
            go_wp2
            go_ret
            exact ⟨rfl,HF.out⟩
end Go.Proofs.YtapicpdfdjofaaaDoor
