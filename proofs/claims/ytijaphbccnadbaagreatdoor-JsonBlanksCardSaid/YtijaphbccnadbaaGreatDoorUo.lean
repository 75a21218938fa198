/- Texts of the claim. -/
import Derived.Test.YtijaphbccnadbaaGreatDoorUm
import Derived.Test.YtijaphbccnadbaaGreatDoorUn
import Derived.Deep.RegionHeld3
set_option linter.unusedVariables false
set_option linter.unusedSimpArgs false
set_option maxHeartbeats 2000000
set_option maxRecDepth 100000
namespace Go.Proofs.YtijaphbccnadbaaGreatDoor
open Go.RowKit Go.Shelf Go.Lib
def EscPost (c:UInt8) (w:World) (e:Ending) (w':World):Prop:=e=.returned (.string ⟨(escB c).toArray⟩)∧Below w.heap.size w w'
theorem conv2d (w:World) (a b:Int):Sem.run Tryz.prog (convert 60 9 (.slice (some ⟨w.heap.size,0,none⟩) 2 2)) ((w.alloc (.cells #[.int .u8 a,.int .u8 b] 5)).drew)=.ok (.string (strOfNums [a,b])) ((w.alloc (.cells #[.int .u8 a,.int .u8 b] 5)).drew):=by
  refine run_convert_bytes_arg _ 60 5 Tryz.underlying60 Tryz.underlying5 w.heap.size 0 2 2 [a,b] rfl ?_ 9 Tryz.underlying9
  intro i hi
  have hi':i=0∨i=1:=by omega
  rcases hi' with rfl | rfl <;> simp
theorem conv2e (w:World) (x y:UInt8):Sem.run Tryz.prog (convert 60 9 (.slice (some ⟨w.heap.size,0,none⟩) 2 2)) ((w.alloc (.cells #[.int .u8 (x.toNat:Int),.int .u8 (y.toNat:Int)] 5)).drew)=.ok (.string ⟨#[x,y]⟩) ((w.alloc (.cells #[.int .u8 (x.toNat:Int),.int .u8 (y.toNat:Int)] 5)).drew):=by
  rw [conv2d]
  congr 2
  unfold strOfNums
  simp
theorem dig_hexd:∀ x:Fin 16,({ data:=#[48,49,50,51,52,53,54,55,56,57,97,98,99,100,101,102] }:ByteArray)[x.val]'(by have:=x.isLt;show x.val<16;omega)=hexd x.val:=by decide
theorem strOf_hexd (a b:Nat):({ data:=#[92,117,48,48] }:ByteArray)++⟨#[hexd a,hexd b]⟩=⟨([92,117,48,48,hexd a,hexd b]:List UInt8).toArray⟩:=by
  apply ByteArray.ext
  simp
theorem index_no (c:UInt8) (h:¬ (c.toNat=34∨c.toNat=92∨c.toNat=8∨c.toNat=9∨c.toNat=10∨c.toNat=12∨c.toNat=13)):Lib.indexByte (⟨#[34,92,8,12,10,13,9]⟩:ByteArray).data.toList c = -1:=by
  have key:∀ k:UInt8,c.toNat ≠ k.toNat→(k == c)=false:=by
    intro k hk;rw [beq_eq_false_iff_ne];intro e;exact hk (by rw [e])
  simp only [Lib.indexByte,key 34 (by intro e;simp at e;omega),key 92 (by intro e;simp at e;omega),key 8 (by intro e;simp at e;omega),key 12 (by intro e;simp at e;omega),key 10 (by intro e;simp at e;omega),key 13 (by intro e;simp at e;omega),key 9 (by intro e;simp at e;omega)]
  rfl
theorem escape_any (c:UInt8) (w:World) (hp:plainB c=false) :
    Calls Tryz.prog 103 #[.int .u8 ((c.toNat:Nat):Int)] w (EscPost c w):=by
  have KI:=Lib.hid (Tryz.strings_IndexByte ⟨#[34,92,8,12,10,13,9]⟩ ((c.toNat:Nat):Int) w)
  have hc:=plainB_not hp
  have e:(((c.toNat:Nat):Int)).toNat.toUInt8=c:=by simp
  rw [e] at KI
  clear e hp
  unfold EscPost
  by_cases h1:c.toNat=34∨c.toNat=92∨c.toNat=8∨c.toNat=9∨c.toNat=10∨c.toNat=12∨c.toNat=13
  · have hofn:∀ k:Nat,c.toNat=k→c=UInt8.ofNat k:=by intro k hk;subst hk;simp
    rcases h1 with h1 | h1 | h1 | h1 | h1 | h1 | h1
    all_goals
      have h2:=hofn _ h1
      clear h1 hofn hc
      subst h2
      go_enter Tryz.func103,Tryz.ntmps103
      go_wp2_with fail
      refine KI.out.mono ?_
      rintro r w1 ⟨rfl,rfl⟩
      dsimp only [Lib.indexByte]
      go_wp2
      go_ret
      exact ⟨rfl,Below.refl _ _⟩
  · have hlt:c.toNat<32:=by omega
    have hi:Lib.indexByte (⟨#[34,92,8,12,10,13,9]⟩:ByteArray).data.toList c = -1:=index_no c h1
    have hE:escB c=[92,117,48,48,hexd (c.toNat / 16),hexd (c.toNat % 16)]:=by
      unfold escB;simp only [show ¬ c.toNat=34 by omega,show ¬ c.toNat=92 by omega,show ¬ c.toNat=8 by omega,show ¬ c.toNat=9 by omega,show ¬ c.toNat=10 by omega,show ¬ c.toNat=12 by omega,show ¬ c.toNat=13 by omega,if_false]
    rw [hi] at KI
    have HE:=Lib.hid hE
    clear hi hE h1 hc
    generalize c.toNat=n at *
    obtain ⟨a,ha⟩:∃ a:Nat,n / 16=a:=⟨_,rfl⟩
    obtain ⟨b,hb⟩:∃ b:Nat,n % 16=b:=⟨_,rfl⟩
    have qa:(n:Int) / 16=(a:Int):=by omega
    have qb:(n:Int) % 16=(b:Int):=by omega
    have la:a<16:=by omega
    have lb:b<16:=by omega
    rw [ha,hb] at HE
    have hda:=dig_hexd ⟨a,la⟩
    have hdb:=dig_hexd ⟨b,lb⟩
    simp only at hda hdb
    have hcv:=fun W=>conv2e W (hexd a) (hexd b)
    have la2:(a:Int)<16:=by omega
    have lb2:(b:Int)<16:=by omega
    have HS:=Lib.hid (strOf_hexd a b)
    clear ha hb hlt
    go_enter Tryz.func103,Tryz.ntmps103
    go_wp2_with fail
    refine KI.out.mono ?_
    rintro r w1 ⟨rfl,rfl⟩
    clear KI
    go_wp2
    go_region
    clear hda hdb hcv
    go_wp2
    go_ret
    exact ⟨by rw [HE.out,HS.out];rfl,((Below.refl _ _).alloc (Nat.le_refl _) _).drew⟩
theorem bld_below {T e:TypeId} {B b:Nat} {bs:List Value} {w w':World} (h:Lib.IsBuilderF T e B b bs w) (hb:Below w.heap.size w w'):Lib.IsBuilderF T e B b bs w':=by
  have key:∀ p,Lib.BuilderAtF T e B b p bs w→Lib.BuilderAtF T e B b p bs w':=by
    intro p h
    have hlt:=h.lt
    obtain ⟨hB,v,hv,hown,hne⟩:=h
    refine ⟨hB,v,by rw [hb.block b hlt];exact hv,⟨hown.1,?_⟩,hne⟩
    rcases hown.2 with h2 | ⟨g,cap,cur,fz,rfl,hB2,hg,rest⟩
    · exact .inl h2
    · refine .inr ⟨g,cap,cur,fz,rfl,hB2,?_,rest⟩
      rw [hb.block g (Array.getElem?_eq_some_iff.1 hg).1];exact hg
  exact h.elim (fun x=>.inl (key _ x)) (fun x=>.inr (key _ x))
theorem take_list (t:ByteArray) (n:Nat):(t.extract 0 n).data.toList=t.data.toList.take n:=by
  rw [ByteArray.data_extract,Array.toList_extract]
  simp [List.extract_eq_take_drop]
theorem arr_size (l:List UInt8):(⟨l.toArray⟩:ByteArray).size=l.length:=by simp [ByteArray.size]
def QT (L : List UInt8) (N B b : Nat) (w : World) (k : Nat) (v : Value) (wr : World) : Prop :=
  ∃ (t : ByteArray) (acc : List UInt8), v = .string t ∧ t.size ≤ k ∧ t.size ≤ N ∧ acc ++ bodyL t.data.toList = bodyL L ∧ acc.length ≤ 6 * (N - t.size) ∧
    Lib.IsBuilderF 62 5 B b (Lib.byteCells (34 :: acc)) wr ∧ Below B w wr ∧ b < wr.heap.size
theorem bodyL_run (t:ByteArray):bodyL t.data.toList=t.data.toList.take (plainN t.data.toList)++bodyL (t.data.toList.drop (plainN t.data.toList)):=by
  conv=>lhs;rw [← List.take_append_drop (plainN t.data.toList) t.data.toList]
  rw [bodyL_append,bodyL_plain (plainN_all _)]
theorem QT.last {L:List UInt8} {N B b:Nat} {w w':World} {t:ByteArray} {acc:List UInt8} (hN:t.size≤N) (ha:acc++bodyL t.data.toList=bodyL L) (hl:acc.length≤6*(N - t.size))
    (hn:plainN t.data.toList=t.size) (hb:Below B w w') (hlt:b<w'.heap.size)
    (hI:Lib.BuilderAtF 62 5 B b (.pointer (some ⟨b,0,none⟩)) (Lib.byteCells (34::acc)++Lib.strCells (t.extract 0 t.size)) w') :
    QT L N B b w 0 (.string ByteArray.empty) w':=by
  have h0:(ByteArray.empty).size=0:=rfl
  have e0:(ByteArray.empty).data.toList=[]:=rfl
  have hb2:bodyL t.data.toList=t.data.toList:=by
    have:=bodyL_run t
    rw [hn,List.take_of_length_le (by simp),List.drop_of_length_le (by simp)] at this
    simpa [bodyL] using this
  refine ⟨_,acc++t.data.toList,rfl,by omega,by omega,?_,?_,?_,hb,hlt⟩
  · rw [e0,← ha,hb2];simp [bodyL]
  · rw [List.length_append,h0];simp;omega
  · have:Lib.byteCells (34::acc)++Lib.strCells (t.extract 0 t.size)=Lib.byteCells (34::(acc++t.data.toList)):=by
      rw [Lib.strCells_eq,take_list,List.take_of_length_le (by simp),← List.cons_append,Lib.byteCells_append]
    rw [this] at hI;exact .inr hI
theorem QT.step {L:List UInt8} {N B b k n:Nat} {w w':World} {t:ByteArray} {acc:List UInt8} (hk:t.size≤k+1) (hN:t.size≤N) (ha:acc++bodyL t.data.toList=bodyL L) (hl:acc.length≤6*(N - t.size))
    (hn:plainN t.data.toList=n) (hlt:n<t.size) (hb:Below B w w') (hblt:b<w'.heap.size)
    (hI:Lib.BuilderAtF 62 5 B b (.pointer (some ⟨b,0,none⟩)) (Lib.byteCells (34::acc)++Lib.strCells (t.extract 0 n)++Lib.strCells ⟨(escB (t[n]'hlt)).toArray⟩) w') :
    QT L N B b w k (.string (t.extract (n+1) t.size)) w':=by
  have hs1:(t.extract (n+1) t.size).size=t.size - (n+1):=by rw [ByteArray.size_extract];omega
  have hx:plainB (t[n]'hlt)=false:=by
    have:=plainN_stop (l:=t.data.toList) (by rw [hn];simpa using hlt)
    rw [hn,at_get t n hlt] at this;exact this
  have hd:t.data.toList.drop n=t[n]'hlt::t.data.toList.drop (n+1):=by
    rw [List.drop_eq_getElem_cons (by simpa using hlt)]
    congr 1
  have hb2:bodyL t.data.toList=t.data.toList.take n++(escB (t[n]'hlt)++bodyL (t.data.toList.drop (n+1))):=by
    rw [bodyL_run t,hn,hd,bodyL_cons]
    congr 2
    unfold qb;rw [hx];rfl
  have he:=escB_len (t[n]'hlt)
  refine ⟨_,acc++(t.data.toList.take n++escB (t[n]'hlt)),rfl,by omega,by omega,?_,?_,?_,hb,hblt⟩
  · rw [← ha,hb2,extract_list];simp
  · rw [List.length_append,List.length_append,List.length_take,hs1];simp;omega
  · have:Lib.byteCells (34::acc)++Lib.strCells (t.extract 0 n)++Lib.strCells ⟨(escB (t[n]'hlt)).toArray⟩=Lib.byteCells (34::(acc++(t.data.toList.take n++escB (t[n]'hlt)))):=by
      rw [Lib.strCells_eq,Lib.strCells_eq,take_list,← List.cons_append,Lib.byteCells_append,Lib.byteCells_append,List.append_assoc]
    rw [this] at hI;exact .inr hI
def QuotePost (L:List UInt8) (w:World) (e:Ending) (w':World):Prop:=e=.returned (.string ⟨(quoteL L).toArray⟩)∧Below w.heap.size w w'
theorem quote_any (s:ByteArray) (w:World) (hs:s.size≤1000000) (hT:UT w) :
    Calls Tryz.prog 62 #[.string s] w (QuotePost s.data.toList w):=by
  have KV:=Lib.hid (valid_any s w (by unfold maxLen;omega) hT)
  clear hT
  cases hv:validL s.data.toList
  · have HQ:=Lib.hid (show quoteL s.data.toList=[] by unfold quoteL;rw [hv];rfl)
    rw [hv] at KV
    clear hv
    go_enter Tryz.func62,Tryz.ntmps62
    go_wp2_with fail
    refine KV.out.mono ?_
    rintro r w1 ⟨rfl,hb⟩
    have HB:=Lib.hid hb;clear hb
    go_wp2
    go_ret
    exact ⟨by rw [HQ.out];rfl,HB.out⟩
  · have HQ:=Lib.hid (show quoteL s.data.toList=34::(bodyL s.data.toList++[34]) by unfold quoteL;rw [hv];rfl)
    rw [hv] at KV
    clear hv
    go_enter Tryz.func62,Tryz.ntmps62
    go_wp2_with fail
    refine KV.out.mono ?_
    rintro r w1 ⟨rfl,hb⟩
    have hsz:=hb.size
    have HB:=Lib.hid hb;clear hb
    have hg:=Tryz.Builder_Grow_fresh w.heap.size w1.heap.size (s.size+2) (w1.alloc (.cells #[.pointer none,.slice none 0 0] 62)) hsz (heap_alloc_new w1 _) (by simp;omega) (by omega)
    rw [show ((s.size+2:Nat):Int)=(s.size:Int)+2 from rfl] at hg
    have KG:=Lib.hid hg;clear hg
    go_wp2_with fail
    refine KG.out.mono ?_
    rintro r w2 ⟨rfl,h2,hb2⟩
    have hbw2:Below w.heap.size w w2:=(HB.out.alloc hsz _).trans hb2
    have hsz2:w1.heap.size<w2.heap.size:=by have:=hb2.size;simp at this;omega
    have HB2:=Lib.hid hbw2
    have KB:=Lib.hid (writeByte_k w.heap.size w1.heap.size [] 34 w2 (Lib.IsBuilderF.of (.inr h2)) (by simp) hbw2.size)
    clear h2 hb2 hbw2 HB KG
    generalize hb:w1.heap.size=b at *
    have Hb:=Lib.hid hb;clear hb
    go_wp2_with fail
    refine KB.out.mono ?_
    rintro r w3 ⟨rfl,h3,hb3,_⟩
    have hbw3:=HB2.out.trans hb3
    have hsz3:b<w3.heap.size:=by have:=hb3.size;omega
    have HST:=Lib.hid (show QT s.data.toList s.size w.heap.size b w s.size (.string s) w3 from
      ⟨s,[],rfl,Nat.le_refl _,Nat.le_refl _,rfl,by simp,.inr h3,hbw3,hsz3⟩)
    have HUN:=Lib.hid (fun W (h:Below w.heap.size w W)=>h.size)
    clear h3 hb3 hbw3 hsz3 hsz2 HB2 KB
    generalize hB:w.heap.size=B at *
    have HB:=Lib.hid hB;clear hB
    go_wp2
    go_loopg [0] s.size (fun k v wr=>QT s.data.toList s.size B b w k v wr)
    case atStart=>exact HST.out
    case round =>
      obtain ⟨t,acc,rfl,hk,hN,ha,hl,hI,hbl,hlt⟩:=hrel
      have HA:=Lib.hid ha;have HI:=Lib.hid hI;have HBL:=Lib.hid hbl
      have hun:=HUN.out _ hbl
      clear ha hI hbl
      by_cases h0:t.size=0
      · have e0:t=⟨#[]⟩:=by
          apply ByteArray.ext;apply Array.eq_empty_of_size_eq_zero;exact h0
        have ha0:acc=bodyL s.data.toList:=by rw [← HA.out,e0];simp [bodyL]
        subst e0
        have KW:=Lib.hid (writeByte_k B b (Lib.byteCells (34::acc)) 34 wr HI.out (by rw [Lib.byteCells_length];simp;omega) hun)
        have HA0:=Lib.hid ha0
        clear ha0
        go_wp2_with fail
        refine KW.out.mono ?_
        rintro r w4 ⟨rfl,h4,hb4,_⟩
        have hlt4:b<w4.heap.size:=by have:=hb4.size;omega
        have hbl4:=HBL.out.trans hb4
        have hI4:Lib.IsBuilderF 62 5 B b (Lib.byteCells (34::(acc++[34]))) w4:=by
          have e:Lib.byteCells (34::acc)++[Value.int .u8 34]=Lib.byteCells (34::(acc++[34])):=by
            rw [← List.cons_append,Lib.byteCells_append];rfl
          rw [e] at h4;exact .inr h4
        have KS:=Lib.hid (Tryz.Builder_String_any_k B b (34::(acc++[34])) w4 hI4 (HUN.out _ hbl4))
        have HB4:=Lib.hid hbl4
        clear h4 hb4 hbl4 hI4 KW
        go_wp2_with fail
        refine KS.out.mono ?_
        rintro r w5 ⟨rfl,_,hb5,_⟩
        have HF:=Lib.hid (HB4.out.trans hb5)
        clear hb5 KS
        go_wp2
        go_ret
        unfold QuotePost
        rw [HQ.out,HB.out,HA0.out]
        exact ⟨rfl,HF.out⟩
      · obtain ⟨k,rfl⟩:∃ k,gk=k+1:=⟨gk - 1,by omega⟩
        have hne:t.toList.isEmpty=false:=by
          rw [Lib.toList_data]
          cases h:t.data.toList with
          | nil=>exact absurd (by have:=congrArg List.length h;simpa using this) h0
          | cons _ _=>rfl
        have hle:=plainN_le t.data.toList
        have hsz:t.data.toList.length=t.size:=by simp
        rw [hsz] at hle
        clear hsz
        have KP:=Lib.hid (plainBytes_any t wr (by unfold maxLen;omega))
        have HSP:=Lib.hid (fun (n:Nat) (hn:plainN t.data.toList=n) (hlt:n<t.size) W p1 p2 p3=>QT.step (B:=B) (b:=b) (w:=w) (w':=W) hk hN HA.out hl hn hlt p1 p2 p3)
        have HLS:=Lib.hid (fun (hn:plainN t.data.toList=t.size) W p1 p2 p3=>QT.last (B:=B) (b:=b) (w:=w) (w':=W) hN HA.out hl hn p1 p2 p3)
        generalize hn:plainN t.data.toList=n at *
        have HN:=Lib.hid hn;clear hn
        have hls:(t.extract 0 n).size≤t.size:=by rw [ByteArray.size_extract];omega
        have KW:=Lib.hid (writeString_k B b (Lib.byteCells (34::acc)) (t.extract 0 n) wr HI.out (by rw [Lib.byteCells_length];simp;omega) hun)
        go_wp2_with fail
        refine KP.out.mono ?_
        rintro r w4 ⟨rfl,rfl⟩
        go_wp2_with fail
        refine KW.out.mono ?_
        rintro r w5 ⟨rfl,h5,hb5,_⟩
        have hlt5:b<w5.heap.size:=by have:=hb5.size;omega
        have hbl5:=HBL.out.trans hb5
        have H5:=Lib.hid h5;have HB5:=Lib.hid hbl5
        have hun5:=HUN.out _ hbl5
        clear h5 hb5 hbl5 KW KP
        by_cases hnt:n<t.size
        · have hntz:(n:Int)<(t.size:Int):=by omega
          have hx:plainB (t[n]'hnt)=false:=by
            have:=plainN_stop (l:=t.data.toList) (by rw [HN.out];simpa using hnt)
            rw [HN.out,at_get t n hnt] at this;exact this
          have KE:=Lib.hid (escape_any (t[n]'hnt) w5 hx)
          unfold EscPost at KE
          have HS:=Lib.hid (HSP.out n rfl hnt)
          have hel:=escB_len (t[n]'hnt)
          have HW:=Lib.hid (fun W (h:Below w5.heap.size w5 W)=>writeString_k B b (Lib.byteCells (34::acc)++Lib.strCells (t.extract 0 n)) ⟨(escB (t[n]'hnt)).toArray⟩ W (bld_below (.inr H5.out) h) (by
            have e1:=Lib.strCells_length (t.extract 0 n)
            have e2:=Lib.byteCells_length (34::acc)
            have e3:=arr_size (escB (t[n]'hnt))
            rw [List.length_append,e1,e2,e3,List.length_cons];omega) (HUN.out W (HB5.out.trans (h.mono hun5))))
          clear hx HSP HLS
          generalize hE:(escB (t[n]'hnt))=E at *
          clear hE
          generalize hX:t[n]'hnt=x at *
          go_wp2_with fail
          refine KE.out.mono ?_
          rintro r w6 ⟨rfl,h6⟩
          have hb6:=HB5.out.trans (h6.mono hun5)
          have KW6:=Lib.hid (HW.out w6 h6)
          have hlt6:b<w6.heap.size:=by have:=h6.size;omega
          have HB6:=Lib.hid hb6
          clear h6 hb6 KE HW
          go_wp2_with fail
          refine KW6.out.mono ?_
          rintro r w7 ⟨rfl,h7,hb7,_⟩
          have HF:=Lib.hid (HS.out w7 (HB6.out.trans hb7) (by have:=hb7.size;omega) h7)
          clear h7 hb7 KW6
          go_wp2
          go_roundg k
          case rel=>exact HF.out
          case measure=>omega
        · have hntz:¬ (n:Int)<(t.size:Int):=by omega
          obtain rfl:n=t.size:=by omega
          have HF:=Lib.hid (HLS.out rfl w5 HB5.out hlt5 H5.out)
          clear HSP HLS
          go_wp2
          go_roundg 0
          case rel=>exact HF.out
          case measure=>omega
theorem setCell_selfJ {w:World} {g j:Nat} {v:Value} (h:w.cell? ⟨g,j,none⟩=some v):w.setCell ⟨g,j,none⟩ v=w:=by
  have e:(w.setCell ⟨g,j,none⟩ v).heap=w.heap:=by
    apply Array.ext_getElem?
    intro k
    simp only [World.setCell,Array.getElem?_modify]
    by_cases hk:g=k
    · subst hk
      rw [if_pos rfl]
      unfold World.cell? at h
      cases hh:w.heap[g]? with
      | none=>rfl
      | some o =>
        cases o with
        | cells c t f =>
          simp only [hh] at h
          have h2:c[j]? = some v:=by simpa using h
          obtain ⟨h3,h4⟩:=Array.getElem?_eq_some_iff.1 h2
          have h5:c.setIfInBounds j v=c:=by
            apply Array.ext_getElem?
            intro i
            rw [Array.getElem?_setIfInBounds]
            split
            · rename_i hij;subst hij;first | exact h2.symm | (rw [if_pos h3];exact h2.symm)
            · rfl
          simp [h5]
        | _=>rfl
    · rw [if_neg hk]
  show ({ w with heap:=(w.setCell ⟨g,j,none⟩ v).heap }:World)=w
  rw [e]
theorem setCell_twice (w:World) (a:Addr) (x y:Value):(w.setCell a x).setCell a y=w.setCell a y:=by
  have e:((w.setCell a x).setCell a y).heap=(w.setCell a y).heap:=by
    apply Array.ext_getElem?
    intro k
    simp only [World.setCell,Array.getElem?_modify]
    by_cases hk:a.block=k
    · simp only [if_pos hk]
      cases hh:w.heap[k]? with
      | none=>rfl
      | some o =>
        cases o <;> simp
        by_cases ha:a.spot.isSome=true <;> simp [ha]
    · simp only [if_neg hk]
  show ({ w with heap:=((w.setCell a x).setCell a y).heap }:World) = { w with heap:=(w.setCell a y).heap }
  rw [e]
structure Rdr (g:Nat) (s:ByteArray) (k:Int) (w:World):Prop where
  c0:w.cell? ⟨g,0,none⟩=some (.string s)
  c1:w.cell? ⟨g,1,none⟩=some (.int .i64 k)
  f1:w.frozen? ⟨g,1,none⟩=false
theorem Rdr.lt {g:Nat} {s:ByteArray} {k:Int} {w:World} (h:Rdr g s k w):g<w.heap.size:=World.block_lt_of_cell? w _ h.c0
def Stepd (g:Nat) (k:Int) (w w':World):Prop:=Below w.heap.size (w.setCell ⟨g,1,none⟩ (.int .i64 k)) w'
theorem Stepd.size {g:Nat} {k:Int} {w w':World} (h:Stepd g k w w'):w.heap.size≤w'.heap.size:=by
  have:=Below.size h;simpa [World.setCell] using this
theorem Stepd.of_below {g:Nat} {s:ByteArray} {k:Int} {w w':World} (hr:Rdr g s k w) (h:Below w.heap.size w w'):Stepd g k w w':=by
  unfold Stepd;rw [setCell_selfJ hr.c1];exact h
theorem Stepd.trans {g:Nat} {k j:Int} {w w1 w2:World} (h:Stepd g k w w1) (h2:Stepd g j w1 w2):Stepd g j w w2:=by
  have hs:=h.size
  refine ⟨?_,?_,?_,?_,?_⟩
  · have a:=Below.os h2;have b:=Below.os h;exact a.trans b
  · have a:=Below.tape h2;have b:=Below.tape h;exact a.trans b
  · have a:=Below.output h2;have b:=Below.output h;exact a.trans b
  · have a:=h2.size;have b:=h.size;simp [World.setCell];omega
  · intro i hi
    rw [Below.block h2 i (by omega)]
    by_cases hg:i=g
    · have e:(w1.setCell ⟨g,1,none⟩ (.int .i64 j)).heap[i]? = ((w.setCell ⟨g,1,none⟩ (.int .i64 k)).setCell ⟨g,1,none⟩ (.int .i64 j)).heap[i]?:=by
        simp only [World.setCell,Array.getElem?_modify]
        have:=Below.block h i hi
        simp only [World.setCell,Array.getElem?_modify] at this
        rw [this]
      rw [e,setCell_twice]
    · rw [Below.heap_setCell _ _ _ _ (by simpa using hg),Below.heap_setCell _ _ _ _ (by simpa using hg),Below.block h i hi,Below.heap_setCell _ _ _ _ (by simpa using hg)]
theorem Stepd.rdr {g:Nat} {s:ByteArray} {k j:Int} {w w':World} (hr:Rdr g s k w) (h:Stepd g j w w'):Rdr g s j w':=by
  have hlt:=hr.lt
  refine ⟨?_,?_,?_⟩
  · rw [Below.cell h (p:=⟨g,0,none⟩) hlt,World.cell?_setCell_other (h:=by simp)];exact hr.c0
  · rw [Below.cell h (p:=⟨g,1,none⟩) hlt]
    exact World.cell?_setCell_same _ _ _ hr.c1
  · rw [Below.frozen h (p:=⟨g,1,none⟩) hlt,World.frozen?_setCell]
    exact hr.f1
theorem Stepd.block {g:Nat} {j:Int} {w w':World} (h:Stepd g j w w') {i:Nat} (hi:i<w.heap.size) (hg:i ≠ g):w'.heap[i]? = w.heap[i]?:=by
  rw [Below.block h i hi,Below.heap_setCell _ _ _ _ (by simpa using hg)]
theorem Stepd.below {g B:Nat} {j:Int} {w w':World} (h:Stepd g j w w') (hB:B≤g) (hs:B≤w.heap.size):Below B w w' :=
  ((Below.refl B w).setCell (by simpa using hB) _).trans (Below.mono h hs)
def ThrowsR (g:Nat) (w:World) (e:Ending) (w':World):Prop:=e=.panicked [{ v:=.iface 31 (.int .i64 2),recovered:=false }]∧∃ k,Stepd g k w w'
theorem ThrowsR.on {g:Nat} {k:Int} {w w1 w':World} {e:Ending} (h:Stepd g k w w1) (h2:ThrowsR g w1 e w'):ThrowsR g w e w':=by
  obtain ⟨he,j,hj⟩:=h2
  exact ⟨he,j,h.trans hj⟩
def TakeY (g:Nat) (c:UInt8) (n:Nat) (w:World) (e:Ending) (w':World):Prop:=e=.returned (.int .u8 ((c.toNat:Nat):Int))∧Stepd g ((n+1:Nat):Int) w w'
theorem take_no (g:Nat) (s:ByteArray) (k:Int) (w:World) (hs:s.size≤1000000) (hr:Rdr g s k w) (hk:-9223372036854775808≤k∧k≤9223372036854775807) (hno:k<0∨(s.size:Int)≤k) :
    Calls Tryz.prog 163 #[.pointer (some ⟨g,0,none⟩)] w (ThrowsR g w):=by
  have HF:=Lib.hid (fun W (h:Below w.heap.size w W)=>Stepd.of_below hr h)
  obtain ⟨c0,c1,f1⟩:=hr
  by_cases h0:k<0
  · have b0:decide (k<0)=true:=decide_eq_true h0
    go_enter Tryz.func163,Tryz.ntmps163
    go_wp2
    go_region
    go_wp2
    exact ⟨rfl,rfl,k,HF.out _ (Below.refl _ _).drew⟩
  · have b0:decide (k<0)=false:=decide_eq_false h0
    have b1:(s.size:Int)≤k:=by omega
    go_enter Tryz.func163,Tryz.ntmps163
    go_wp2
    go_region
    go_wp2
    exact ⟨rfl,rfl,k,HF.out _ (Below.refl _ _).drew⟩
theorem take_yes (g:Nat) (s:ByteArray) (n:Nat) (w:World) (hs:s.size≤1000000) (hr:Rdr g s n w) (hn:n<s.size) (c:UInt8) (hc:s[n]'hn=c) :
    Calls Tryz.prog 163 #[.pointer (some ⟨g,0,none⟩)] w (TakeY g c n w):=by
  have hlt:=Lib.hid hr.lt
  obtain ⟨c0,c1,f1⟩:=hr
  have b0:decide ((n:Int)<0)=false:=decide_eq_false (by omega)
  have b1:¬ (s.size:Int)≤(n:Int):=by omega
  go_enter Tryz.func163,Tryz.ntmps163
  go_wp2
  go_region
  go_wp2
  go_region
  go_wp2
  go_ret
  exact ⟨rfl,((Below.refl _ _).drew).drew⟩
def MustY (g:Nat) (n:Nat) (w:World) (e:Ending) (w':World):Prop:=e=.returned (.tuple #[])∧Stepd g ((n+1:Nat):Int) w w'
theorem must_yes (g:Nat) (s:ByteArray) (n:Nat) (w:World) (c:UInt8) (hs:s.size≤1000000) (hr:Rdr g s n w) (hn:n<s.size) (hc:s[n]'hn=c) :
    Calls Tryz.prog 161 #[.pointer (some ⟨g,0,none⟩),.int .u8 ((c.toNat:Nat):Int)] w (MustY g n w):=by
  have K:=Lib.hid (take_yes g s n w hs hr hn c hc)
  clear hr hc
  go_enter Tryz.func161,Tryz.ntmps161
  go_wp2_with fail
  refine K.out.mono ?_
  rintro r w1 ⟨rfl,h1⟩
  have H1:=Lib.hid h1;clear h1
  go_wp2
  exact bodyPost_ret (v:=.tuple #[]) (by simp [results,Tryz.results161,go_sem]) rfl ⟨rfl,H1.out⟩
theorem must_no (g:Nat) (s:ByteArray) (k:Int) (w:World) (c:UInt8) (hs:s.size≤1000000) (hr:Rdr g s k w) (hk:-9223372036854775808≤k∧k≤9223372036854775807) (hno:∀ n:Nat,k=n→s.data.toList[n]? ≠ some c) :
    Calls Tryz.prog 161 #[.pointer (some ⟨g,0,none⟩),.int .u8 ((c.toNat:Nat):Int)] w (ThrowsR g w):=by
  by_cases h0:k<0∨(s.size:Int)≤k
  · have K:=Lib.hid (take_no g s k w hs hr hk h0)
    clear hr hno h0
    go_enter Tryz.func161,Tryz.ntmps161
    go_wp2_with fail
    refine K.out.mono ?_
    rintro r w1 ⟨rfl,j,h1⟩
    have H1:=Lib.hid h1;clear h1
    go_wp2
    exact ⟨rfl,rfl,j,H1.out⟩
  · obtain ⟨n,rfl⟩:∃ n:Nat,k=n:=⟨k.toNat,by omega⟩
    have hn:n<s.size:=by omega
    have hne:s[n]'hn ≠ c:=by
      intro e;apply hno n rfl
      rw [List.getElem?_eq_getElem (by simpa using hn)]
      rw [← e];rfl
    have K:=Lib.hid (take_yes g s n w hs hr hn _ rfl)
    generalize s[n]'hn=d at *
    have hne2:d.toNat ≠ c.toNat:=fun e=>hne (UInt8.toNat_inj.1 e)
    have b1:((d.toNat:Int) == (c.toNat:Int))=false:=by rw [beq_eq_false_iff_ne];omega
    have b2:((d.toNat:Int) != (c.toNat:Int))=true:=by rw [bne_iff_ne];omega
    clear hr hno h0 hne hne2
    go_enter Tryz.func161,Tryz.ntmps161
    go_wp2_with fail
    refine K.out.mono ?_
    rintro r w1 ⟨rfl,h1⟩
    have H1:=Lib.hid h1;clear h1
    go_wp2
    exact ⟨rfl,rfl,_,H1.out⟩
def ThrowsW (w:World) (e:Ending) (w':World):Prop:=e=.panicked [{ v:=.iface 31 (.int .i64 2),recovered:=false }]∧w'=w
theorem digit_yes (c d:Nat) (w:World) (hc:c<256) (hd:hexN c=some d) :
    Calls Tryz.prog 214 #[.int .u8 (c:Int)] w fun e w'=>e=.returned (.int .i32 (d:Int))∧w'=w:=by
  have hcz:0≤(c:Int)∧(c:Int)≤255:=by omega
  unfold hexN at hd
  split at hd
  · rename_i h1
    simp only [Option.some.injEq] at hd
    have hd2:(d:Int)=(c:Int) - 48:=by omega
    have b1:decide ((65:Int)≤(c:Int))=false:=decide_eq_false (by omega)
    have b2:decide ((97:Int)≤(c:Int))=false:=decide_eq_false (by omega)
    have b3:decide ((48:Int)≤(c:Int))=true:=decide_eq_true (by omega)
    have b4:decide ((c:Int)≤57)=true:=decide_eq_true (by omega)
    have l1:(48:Int)≤(c:Int):=by omega
    have l2:(c:Int)≤57:=by omega
    have HD:=Lib.hid hd2
    clear hd hd2 h1 hc hcz
    generalize (c:Int)=x at *
    go_enter Tryz.func214,Tryz.ntmps214
    go_wp2
    go_ret
    exact ⟨by rw [HD.out];rfl,rfl⟩
  · rename_i h1
    split at hd
    · rename_i h2
      simp only [Option.some.injEq] at hd
      have hd2:(d:Int)=(c:Int) - 97+10:=by omega
      have b1:decide ((65:Int)≤(c:Int))=true:=decide_eq_true (by omega)
      have b0:decide ((c:Int)≤70)=false:=decide_eq_false (by omega)
      have b2:decide ((97:Int)≤(c:Int))=true:=decide_eq_true (by omega)
      have b4:decide ((c:Int)≤102)=true:=decide_eq_true (by omega)
      have l1:(97:Int)≤(c:Int):=by omega
      have l2:(c:Int)≤102:=by omega
      have HD:=Lib.hid hd2
      clear hd hd2 h1 h2 hc hcz
      generalize (c:Int)=x at *
      go_enter Tryz.func214,Tryz.ntmps214
      go_wp2
      go_ret
      exact ⟨by rw [HD.out];first | rfl | (refine congrArg Ending.returned ?_;show Value.int _ _=_;congr 1),rfl⟩
    · rename_i h2
      split at hd
      · rename_i h3
        simp only [Option.some.injEq] at hd
        have hd2:(d:Int)=(c:Int)+32 - 97+10:=by omega
        have b1:decide ((65:Int)≤(c:Int))=true:=decide_eq_true (by omega)
        have b0:decide ((c:Int)≤70)=true:=decide_eq_true (by omega)
        have l1:(65:Int)≤(c:Int):=by omega
        have l2:(c:Int)≤70:=by omega
        have l3:97≤(c:Int)+32:=by omega
        have l4:(c:Int)+32≤102:=by omega
        have HD:=Lib.hid hd2
        clear hd hd2 h1 h2 h3 hc hcz
        generalize (c:Int)=x at *
        go_enter Tryz.func214,Tryz.ntmps214
        go_wp2
        go_ret
        exact ⟨by rw [HD.out];first | rfl | (refine congrArg Ending.returned ?_;show Value.int _ _=_;congr 1;omega),rfl⟩
      · cases hd
theorem digit_no (c:Nat) (w:World) (hc:c<256) (hd:hexN c=none) :
    Calls Tryz.prog 214 #[.int .u8 (c:Int)] w (ThrowsW w):=by
  have hno:¬ (48≤c∧c≤57)∧¬ (97≤c∧c≤102)∧¬ (65≤c∧c≤70):=by
    unfold hexN at hd
    refine ⟨?_,?_,?_⟩
    · intro h;rw [if_pos h] at hd;cases hd
    · intro h;rw [if_neg (by omega),if_pos h] at hd;cases hd
    · intro h;rw [if_neg (by omega),if_neg (by omega),if_pos h] at hd;cases hd
  have hcz:0≤(c:Int)∧(c:Int)≤255:=by omega
  unfold ThrowsW
  have h4:(c<48)∨(58≤c∧c<65)∨(71≤c∧c<97)∨103≤c:=by omega
  rcases h4 with h | h | h | h
  · have b1:decide ((65:Int)≤(c:Int))=false:=decide_eq_false (by omega)
    have b2:decide ((97:Int)≤(c:Int))=false:=decide_eq_false (by omega)
    have b3:decide ((48:Int)≤(c:Int))=false:=decide_eq_false (by omega)
    clear hd hno h hc
    generalize (c:Int)=x at *
    go_enter Tryz.func214,Tryz.ntmps214
    go_wp2
    exact ⟨rfl,rfl,rfl⟩
  · have b1:decide ((65:Int)≤(c:Int))=false:=decide_eq_false (by omega)
    have b2:decide ((97:Int)≤(c:Int))=false:=decide_eq_false (by omega)
    have b3:decide ((48:Int)≤(c:Int))=true:=decide_eq_true (by omega)
    have b4:decide ((c:Int)≤57)=false:=decide_eq_false (by omega)
    clear hd hno h hc
    generalize (c:Int)=x at *
    go_enter Tryz.func214,Tryz.ntmps214
    go_wp2
    exact ⟨rfl,rfl,rfl⟩
  · have b1:decide ((65:Int)≤(c:Int))=true:=decide_eq_true (by omega)
    have b5:decide ((c:Int)≤70)=false:=decide_eq_false (by omega)
    have b2:decide ((97:Int)≤(c:Int))=false:=decide_eq_false (by omega)
    have b3:decide ((48:Int)≤(c:Int))=true:=decide_eq_true (by omega)
    have b4:decide ((c:Int)≤57)=false:=decide_eq_false (by omega)
    clear hd hno h hc
    generalize (c:Int)=x at *
    go_enter Tryz.func214,Tryz.ntmps214
    go_wp2
    exact ⟨rfl,rfl,rfl⟩
  · have b1:decide ((65:Int)≤(c:Int))=true:=decide_eq_true (by omega)
    have b5:decide ((c:Int)≤70)=false:=decide_eq_false (by omega)
    have b2:decide ((97:Int)≤(c:Int))=true:=decide_eq_true (by omega)
    have b6:decide ((c:Int)≤102)=false:=decide_eq_false (by omega)
    have b3:decide ((48:Int)≤(c:Int))=true:=decide_eq_true (by omega)
    have b4:decide ((c:Int)≤57)=false:=decide_eq_false (by omega)
    clear hd hno h hc
    generalize (c:Int)=x at *
    go_enter Tryz.func214,Tryz.ntmps214
    go_wp2
    exact ⟨rfl,rfl,rfl⟩
theorem i32_or16 (x y:Int) (hx:0≤x) (hx2:x≤1000000) (hm:x % 16=0) (h₀:0≤y) (h₁:y<16):bits .or .i32 x y=x+y :=
  bits_join .i32 31 (by decide) wraps_i32 4 x y hx (by simpa using hm) (by simpa using (show x<2147483648 by omega)) h₀ (by simpa using h₁) (by simpa using (show y<2147483648 by omega))
theorem tail_cons {s:ByteArray} {n:Nat} (h:n<s.size):tailL s n=s[n]'h::tailL s (n+1):=by
  unfold tailL
  rw [List.drop_eq_getElem_cons (by simpa using h)]
  congr 1
def HalfPost (g:Nat) (r:Option Nat) (n:Nat) (w:World) (e:Ending) (w':World):Prop :=
  match r with
  | some r=>e=.returned (.int .i32 ((r:Nat):Int))∧Stepd g ((n+4:Nat):Int) w w'
  | none=>ThrowsR g w e w'
def HR (g:Nat) (s:ByteArray) (n:Nat) (w:World) (k:Nat) (v i:Value) (wr:World):Prop :=
  ∃ j x:Nat,j≤4∧4 - j≤k∧i=.int .i64 (j:Int)∧v=.int .i32 (x:Int)∧x<16 ^ j∧hexF (4 - j) x (tailL s (n+j))=fourL (tailL s n)∧Stepd g ((n+j:Nat):Int) w wr
theorem half_any (g:Nat) (s:ByteArray) (n:Nat) (w:World) (hs:s.size≤1000000) (hr:Rdr g s n w) (hn:n≤2000000) :
    Calls Tryz.prog 209 #[.pointer (some ⟨g,0,none⟩)] w (HalfPost g (fourL (tailL s n)) n w):=by
  have HRD:=Lib.hid (fun (k:Nat) W (h:Stepd g (k:Int) w W)=>h.rdr hr)
  have HST:=Lib.hid (show HR g s n w 4 (.int .i32 0) (.int .i64 0) w from ⟨0,0,by omega,by omega,rfl,rfl,by decide,rfl,Stepd.of_below hr (Below.refl _ _)⟩)
  clear hr
  go_enter Tryz.func209,Tryz.ntmps209
  go_wp2
  go_loopg [3,4] 4 (fun k v i wr=>HR g s n w k v i wr)
  case atStart=>exact HST.out
  case round =>
    obtain ⟨j,x,hj,hk,rfl,rfl,hx,he,hst⟩:=hrel
    have HE:=Lib.hid he;have HS:=Lib.hid hst;have HX:=Lib.hid hx
    have hr:=HRD.out _ _ hst
    clear he hst
    by_cases h4:j<4
    · obtain ⟨k,rfl⟩:∃ k,gk=k+1:=⟨gk - 1,by omega⟩
      have hjz:(j:Int)<4:=by omega
      have hxb:x<4096:=by
        have:16 ^ j≤16 ^ 3:=Nat.pow_le_pow_right (by decide) (by omega)
        omega
      clear hx
      by_cases hl:n+j<s.size
      · have HT:=Lib.hid (tail_cons hl)
        have KT:=Lib.hid (take_yes g s (n+j) wr hs hr hl _ rfl)
        generalize s[n+j]=c at *
        have hc:=c.toNat_lt
        cases hd:hexN c.toNat with
        | none =>
          have HN:=Lib.hid (show fourL (tailL s n)=none by
            rw [← HE.out,HT.out,show 4 - j=(3 - j)+1 by omega];simp only [hexF,hd])
          have KD:=Lib.hid (fun W=>digit_no c.toNat W hc hd)
          clear hd hr
          unfold ThrowsW at KD
          go_wp2_with fail
          refine KT.out.mono ?_
          rintro r w1 ⟨rfl,h1⟩
          have H1:=Lib.hid (HS.out.trans h1);clear h1
          go_wp2_with fail
          refine (KD.out _).mono ?_
          rintro r w2 ⟨rfl,rfl⟩
          go_wp2
          unfold HalfPost
          rw [HN.out]
          exact ⟨rfl,rfl,_,H1.out⟩
        | some d =>
          have hdl:=hexN_lt hd
          have HN:=Lib.hid (show hexF (4 - (j+1)) (x*16+d) (tailL s (n+(j+1)))=fourL (tailL s n) by
            rw [← HE.out,HT.out,show 4 - j=(4 - (j+1))+1 by omega];simp only [hexF,hd];rfl)
          have KD:=Lib.hid (fun W=>digit_yes c.toNat d W hc hd)
          have hor:=i32_or16 ((x:Int)*16) (d:Int) (by omega) (by omega) (by omega) (by omega) (by omega)
          have HP:=Lib.hid (show x*16+d<16 ^ (j+1) by have:=HX.out;rw [Nat.pow_succ];omega)
          clear hd hr
          go_wp2_with fail
          refine KT.out.mono ?_
          rintro r w1 ⟨rfl,h1⟩
          have H1:=Lib.hid (HS.out.trans h1);clear h1
          go_wp2_with fail
          refine (KD.out _).mono ?_
          rintro r w2 ⟨rfl,rfl⟩
          go_wp2
          go_roundg k
          case rel=>exact ⟨j+1,x*16+d,by omega,by omega,by go_num,by first | rfl | (congr 1) | skip,HP.out,HN.out,H1.out⟩
          case measure=>omega
      · have HN:=Lib.hid (show fourL (tailL s n)=none by
          rw [← HE.out,tailL_end (by omega),show 4 - j=(3 - j)+1 by omega];rfl)
        have KT:=Lib.hid (take_no g s ((n+j:Nat):Int) wr hs hr (by omega) (by omega))
        clear hr
        go_wp2_with fail
        refine KT.out.mono ?_
        rintro r w1 ⟨rfl,q,h1⟩
        have H1:=Lib.hid (HS.out.trans h1);clear h1
        go_wp2
        unfold HalfPost
        rw [HN.out]
        exact ⟨rfl,rfl,_,H1.out⟩
    · obtain rfl:j=4:=by omega
      have HN:=Lib.hid (show fourL (tailL s n)=some x by rw [← HE.out];rfl)
      clear hr hx
      go_wp2
      go_ret
      unfold HalfPost
      rw [HN.out]
      exact ⟨rfl,HS.out⟩
def cpL (l:List UInt8):Option (Nat × Nat) :=
  match fourL l with
  | none=>none
  | some r=>if r<55296∨57343<r then some (r,4) else if 56320≤r then none else
    match lowL (l.drop 4) with
    | none=>none
    | some low=>some (65536+(r - 55296)*1024+(low - 56320),10)
theorem escL_u {c:UInt8} (h:c.toNat=117) (l:List UInt8):escL (c::l)=(cpL l).map fun p=>(enc (p.1:Int),p.2+1):=by
  simp only [escL,if_pos h,cpL]
  cases fourL l with
  | none=>rfl
  | some r =>
    simp only
    split
    · rfl
    · split
      · rfl
      · cases lowL (l.drop 4) <;> rfl
theorem bt_tail {s:ByteArray} {k j:Nat} {c:UInt8} (hc:c.toNat ≠ 0):bt (tailL s k) j=c.toNat ↔ s.data.toList[k+j]? = some c:=by
  unfold bt tailL
  rw [List.getD,List.getElem?_drop]
  cases h:s.data.toList[k+j]? with
  | none=>simp;omega
  | some x =>
    simp only [Option.getD_some,Option.some.injEq]
    exact UInt8.toNat_inj
theorem get_some {s:ByteArray} {k:Nat} {c:UInt8} (h:s.data.toList[k]? = some c):∃ hk:k<s.size,s[k]'hk=c:=by
  obtain ⟨h1,h2⟩:=List.getElem?_eq_some_iff.1 h
  exact ⟨by simpa using h1,by rw [← h2];rfl⟩
def CpPost (g:Nat) (r:Option (Nat × Nat)) (n:Nat) (w:World) (e:Ending) (w':World):Prop :=
  match r with
  | some p=>e=.returned (.int .i32 ((p.1:Nat):Int))∧Stepd g ((n+p.2:Nat):Int) w w'
  | none=>ThrowsR g w e w'
theorem codePoint_any (g:Nat) (s:ByteArray) (n:Nat) (w:World) (hs:s.size≤1000000) (hr:Rdr g s n w) (hn:n≤1000000) :
    Calls Tryz.prog 193 #[.pointer (some ⟨g,0,none⟩)] w (CpPost g (cpL (tailL s n)) n w):=by
  have KH:=Lib.hid (half_any g s n w hs hr (by omega))
  have HRD:=Lib.hid (fun (k:Nat) W (h:Stepd g (k:Int) w W)=>h.rdr hr)
  clear hr
  cases hf:fourL (tailL s n) with
  | none =>
    have HC:=Lib.hid (show cpL (tailL s n)=none by unfold cpL;rw [hf])
    rw [hf] at KH
    clear hf
    unfold HalfPost at KH
    go_enter Tryz.func193,Tryz.ntmps193
    go_wp2_with fail
    refine KH.out.mono ?_
    rintro r w1 ⟨rfl,j,h1⟩
    have H1:=Lib.hid h1;clear h1
    go_wp2
    unfold CpPost
    rw [HC.out]
    exact ⟨rfl,rfl,_,H1.out⟩
  | some r =>
    have hlt:=fourL_lt hf
    have h4:=fourL_len hf
    rw [tailL_length] at h4
    rw [hf] at KH
    unfold HalfPost at KH
    by_cases hsur:r<55296∨57343<r
    · have HC:=Lib.hid (show cpL (tailL s n)=some (r,4) by unfold cpL;rw [hf];simp only [if_pos hsur])
      clear hf
      by_cases h0:r<55296
      · have b0:decide ((r:Int)<55296)=true:=decide_eq_true (by omega)
        go_enter Tryz.func193,Tryz.ntmps193
        go_wp2_with fail
        refine KH.out.mono ?_
        rintro x w1 ⟨rfl,h1⟩
        have H1:=Lib.hid h1;clear h1
        go_wp2
        go_ret
        unfold CpPost
        rw [HC.out]
        exact ⟨rfl,H1.out⟩
      · have b0:decide ((r:Int)<55296)=false:=decide_eq_false (by omega)
        have b1:decide ((57343:Int)<(r:Int))=true:=decide_eq_true (by omega)
        go_enter Tryz.func193,Tryz.ntmps193
        go_wp2_with fail
        refine KH.out.mono ?_
        rintro x w1 ⟨rfl,h1⟩
        have H1:=Lib.hid h1;clear h1
        go_wp2
        go_ret
        unfold CpPost
        rw [HC.out]
        exact ⟨rfl,H1.out⟩
    · have b0:decide ((r:Int)<55296)=false:=decide_eq_false (by omega)
      have b1:decide ((57343:Int)<(r:Int))=false:=decide_eq_false (by omega)
      have hr1:55296≤r∧r≤57343:=by omega
      have HCN:=Lib.hid (fun (h:56320≤r∨lowL (tailL s (n+4))=none)=>(by
        unfold cpL;rw [hf];simp only [if_neg hsur]
        split
        · rfl
        · rename_i h5
          rw [tailL_drop]
          rcases h with h | h
          · exact absurd h h5
          · rw [h]:cpL (tailL s n)=none))
      have HCY:=Lib.hid (fun low (h:lowL (tailL s (n+4))=some low) (h5:r<56320)=>(by
        unfold cpL;rw [hf];simp only [if_neg hsur,if_neg (show ¬ 56320≤r by omega)]
        rw [tailL_drop,h]:cpL (tailL s n)=some (65536+(r - 55296)*1024+(low - 56320),10)))
      clear hf hsur hlt
      have hl0:(55296:Int)≤(r:Int):=by omega
      have hl1:(r:Int)≤57343:=by omega
      by_cases hA:s.data.toList[n+4]? = some 92
      · obtain ⟨hAk,hA2⟩:=get_some hA
        have KM1:=Lib.hid (fun W (h:Stepd g ((n+4:Nat):Int) w W)=>must_yes g s (n+4) W 92 hs (HRD.out _ W h) hAk hA2)
        by_cases hB:s.data.toList[n+5]? = some 117
        · obtain ⟨hBk,hB2⟩:=get_some hB
          have KM2:=Lib.hid (fun W (h:Stepd g ((n+5:Nat):Int) w W)=>must_yes g s (n+5) W 117 hs (HRD.out _ W h) hBk hB2)
          have KH2:=Lib.hid (fun W (h:Stepd g ((n+6:Nat):Int) w W)=>half_any g s (n+6) W hs (HRD.out _ W h) (by omega))
          have hlow:lowL (tailL s (n+4))=match fourL (tailL s (n+6)) with | none=>none | some r=>if 56320≤r∧r≤57343 then some r else none:=by
            unfold lowL
            rw [if_pos ⟨(bt_tail (c:=92) (by decide)).2 hA,(bt_tail (c:=117) (by decide)).2 hB⟩,tailL_drop]
            rfl
          have HL:=Lib.hid hlow
          clear hA hB hAk hBk hA2 hB2 hlow
          cases hf2:fourL (tailL s (n+6)) with
          | none =>
            have HC:=Lib.hid (HCN.out (.inr (by rw [HL.out,hf2])))
            rw [hf2] at KH2
            clear hf2
            unfold HalfPost at KH2
            go_enter Tryz.func193,Tryz.ntmps193
            go_wp2_with fail
            refine KH.out.mono ?_
            rintro x w1 ⟨rfl,h1⟩
            have H1:=Lib.hid h1;clear h1
            go_wp2_with fail
            refine (KM1.out w1 H1.out).mono ?_
            rintro x w2 ⟨rfl,h2⟩
            have H2:=Lib.hid (H1.out.trans h2);clear h2
            go_wp2_with fail
            refine (KM2.out w2 H2.out).mono ?_
            rintro x w3 ⟨rfl,h3⟩
            have H3:=Lib.hid (H2.out.trans h3);clear h3
            go_wp2_with fail
            refine (KH2.out w3 H3.out).mono ?_
            rintro x w4 ⟨rfl,q,h4⟩
            have H4:=Lib.hid (H3.out.trans h4);clear h4
            go_wp2
            unfold CpPost
            rw [HC.out]
            exact ⟨rfl,rfl,_,H4.out⟩
          | some low =>
            have hll:=fourL_lt hf2
            rw [hf2] at KH2
            unfold HalfPost at KH2
            by_cases hr5:56320≤r
            · have HC:=Lib.hid (HCN.out (.inl hr5))
              have b2:decide ((56320:Int)≤(r:Int))=true:=decide_eq_true (by omega)
              clear hf2
              go_enter Tryz.func193,Tryz.ntmps193
              go_wp2_with fail
              refine KH.out.mono ?_
              rintro x w1 ⟨rfl,h1⟩
              have H1:=Lib.hid h1;clear h1
              go_wp2_with fail
              refine (KM1.out w1 H1.out).mono ?_
              rintro x w2 ⟨rfl,h2⟩
              have H2:=Lib.hid (H1.out.trans h2);clear h2
              go_wp2_with fail
              refine (KM2.out w2 H2.out).mono ?_
              rintro x w3 ⟨rfl,h3⟩
              have H3:=Lib.hid (H2.out.trans h3);clear h3
              go_wp2_with fail
              refine (KH2.out w3 H3.out).mono ?_
              rintro x w4 ⟨rfl,h4⟩
              have H4:=Lib.hid (H3.out.trans h4);clear h4
              go_wp2
              unfold CpPost
              rw [HC.out]
              exact ⟨rfl,rfl,_,H4.out⟩
            · have b2:decide ((56320:Int)≤(r:Int))=false:=decide_eq_false (by omega)
              by_cases hlo:low<56320
              · have HC:=Lib.hid (HCN.out (.inr (by rw [HL.out,hf2];simp only;rw [if_neg (by omega)])))
                have b3:decide ((low:Int)<56320)=true:=decide_eq_true (by omega)
                clear hf2
                go_enter Tryz.func193,Tryz.ntmps193
                go_wp2_with fail
                refine KH.out.mono ?_
                rintro x w1 ⟨rfl,h1⟩
                have H1:=Lib.hid h1;clear h1
                go_wp2_with fail
                refine (KM1.out w1 H1.out).mono ?_
                rintro x w2 ⟨rfl,h2⟩
                have H2:=Lib.hid (H1.out.trans h2);clear h2
                go_wp2_with fail
                refine (KM2.out w2 H2.out).mono ?_
                rintro x w3 ⟨rfl,h3⟩
                have H3:=Lib.hid (H2.out.trans h3);clear h3
                go_wp2_with fail
                refine (KH2.out w3 H3.out).mono ?_
                rintro x w4 ⟨rfl,h4⟩
                have H4:=Lib.hid (H3.out.trans h4);clear h4
                go_wp2
                unfold CpPost
                rw [HC.out]
                exact ⟨rfl,rfl,_,H4.out⟩
              · have b3:decide ((low:Int)<56320)=false:=decide_eq_false (by omega)
                by_cases hhi:57343<low
                · have HC:=Lib.hid (HCN.out (.inr (by rw [HL.out,hf2];simp only;rw [if_neg (by omega)])))
                  have b4:decide ((57343:Int)<(low:Int))=true:=decide_eq_true (by omega)
                  clear hf2
                  go_enter Tryz.func193,Tryz.ntmps193
                  go_wp2_with fail
                  refine KH.out.mono ?_
                  rintro x w1 ⟨rfl,h1⟩
                  have H1:=Lib.hid h1;clear h1
                  go_wp2_with fail
                  refine (KM1.out w1 H1.out).mono ?_
                  rintro x w2 ⟨rfl,h2⟩
                  have H2:=Lib.hid (H1.out.trans h2);clear h2
                  go_wp2_with fail
                  refine (KM2.out w2 H2.out).mono ?_
                  rintro x w3 ⟨rfl,h3⟩
                  have H3:=Lib.hid (H2.out.trans h3);clear h3
                  go_wp2_with fail
                  refine (KH2.out w3 H3.out).mono ?_
                  rintro x w4 ⟨rfl,h4⟩
                  have H4:=Lib.hid (H3.out.trans h4);clear h4
                  go_wp2
                  unfold CpPost
                  rw [HC.out]
                  exact ⟨rfl,rfl,_,H4.out⟩
                · have HC:=Lib.hid (HCY.out low (by rw [HL.out,hf2];simp only;rw [if_pos (by omega)]) (by omega))
                  have b4:decide ((57343:Int)<(low:Int))=false:=decide_eq_false (by omega)
                  have hv:(65536:Int)+((r:Int) - 55296)*1024+((low:Int) - 56320)=((65536+(r - 55296)*1024+(low - 56320):Nat):Int):=by omega
                  have HV:=Lib.hid hv
                  have c1:(56320:Int)≤(low:Int):=by omega
                  have c2:(low:Int)≤57343:=by omega
                  have c3:(r:Int)<56320:=by omega
                  clear hf2 hv
                  go_enter Tryz.func193,Tryz.ntmps193
                  go_wp2_with fail
                  refine KH.out.mono ?_
                  rintro x w1 ⟨rfl,h1⟩
                  have H1:=Lib.hid h1;clear h1
                  go_wp2_with fail
                  refine (KM1.out w1 H1.out).mono ?_
                  rintro x w2 ⟨rfl,h2⟩
                  have H2:=Lib.hid (H1.out.trans h2);clear h2
                  go_wp2_with fail
                  refine (KM2.out w2 H2.out).mono ?_
                  rintro x w3 ⟨rfl,h3⟩
                  have H3:=Lib.hid (H2.out.trans h3);clear h3
                  go_wp2_with fail
                  refine (KH2.out w3 H3.out).mono ?_
                  rintro x w4 ⟨rfl,h4⟩
                  have H4:=Lib.hid (H3.out.trans h4);clear h4
                  go_wp2
                  go_ret
                  unfold CpPost
                  rw [HC.out]
                  refine ⟨?_,H4.out⟩
                  simp only
                  rw [← HV.out]
                  rfl
        · have KM2:=Lib.hid (fun W (h:Stepd g ((n+5:Nat):Int) w W)=>must_no g s ((n+5:Nat):Int) W 117 hs (HRD.out _ W h) (by omega) (by
            intro m hm;obtain rfl:n+5=m:=by omega
            exact hB))
          have HC:=Lib.hid (HCN.out (.inr (by
            unfold lowL;rw [if_neg]
            intro h;exact hB ((bt_tail (s:=s) (k:=n+4) (j:=1) (c:=117) (by decide)).1 h.2))))
          clear hA hB hAk hA2
          go_enter Tryz.func193,Tryz.ntmps193
          go_wp2_with fail
          refine KH.out.mono ?_
          rintro x w1 ⟨rfl,h1⟩
          have H1:=Lib.hid h1;clear h1
          go_wp2_with fail
          refine (KM1.out w1 H1.out).mono ?_
          rintro x w2 ⟨rfl,h2⟩
          have H2:=Lib.hid (H1.out.trans h2);clear h2
          go_wp2_with fail
          refine (KM2.out w2 H2.out).mono ?_
          rintro x w3 ⟨rfl,q,h3⟩
          have H3:=Lib.hid (H2.out.trans h3);clear h3
          go_wp2
          unfold CpPost
          rw [HC.out]
          exact ⟨rfl,rfl,_,H3.out⟩
      · have KM1:=Lib.hid (fun W (h:Stepd g ((n+4:Nat):Int) w W)=>must_no g s ((n+4:Nat):Int) W 92 hs (HRD.out _ W h) (by omega) (by
          intro m hm;obtain rfl:n+4=m:=by omega
          exact hA))
        have HC:=Lib.hid (HCN.out (.inr (by
          unfold lowL;rw [if_neg]
          intro h;exact hA ((bt_tail (s:=s) (k:=n+4) (j:=0) (c:=92) (by decide)).1 h.1))))
        clear hA
        go_enter Tryz.func193,Tryz.ntmps193
        go_wp2_with fail
        refine KH.out.mono ?_
        rintro x w1 ⟨rfl,h1⟩
        have H1:=Lib.hid h1;clear h1
        go_wp2_with fail
        refine (KM1.out w1 H1.out).mono ?_
        rintro x w2 ⟨rfl,q,h2⟩
        have H2:=Lib.hid (H1.out.trans h2);clear h2
        go_wp2
        unfold CpPost
        rw [HC.out]
        exact ⟨rfl,rfl,_,H2.out⟩
end Go.Proofs.YtijaphbccnadbaaGreatDoor
