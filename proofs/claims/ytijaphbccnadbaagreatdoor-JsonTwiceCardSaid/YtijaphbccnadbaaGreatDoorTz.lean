/- Texts of the claim. -/
import Derived.Test.YtijaphbccnadbaaGreatDoorTy
import Derived.Laws.BytesArg
set_option linter.unusedVariables false
set_option linter.unusedSimpArgs false
set_option maxHeartbeats 2000000
set_option maxRecDepth 100000
namespace Go.Proofs.YtijaphbccnadbaaGreatDoor
open Go.RowKit Go.Shelf Go.Lib
theorem RunePost.below {r m:Int} {w:World} {e:Ending} {w':World} (h:RunePost r m w e w'):e=.returned (.tuple #[.int .i32 r,.int .i64 m])∧Below w.heap.size w w':=by
  obtain ⟨he,q,rfl⟩:=h
  exact ⟨he,(Below.refl _ _).trans ⟨rfl,rfl,rfl,Nat.le_refl _,fun _ _=>rfl⟩⟩

def QR (s:ByteArray) (B:Nat) (w:World) (k:Nat) (v a:Value) (wr:World):Prop :=
  ∃ pos acc,s.size - pos≤k∧a=.int .i64 ((pos:Nat):Int)∧acc++runesL (tailL s pos)=runesL s.data.toList∧acc.length≤pos∧pos≤s.size∧wr.ownsRow B 21 1 v acc.length (rv acc)∧Below B w wr
theorem QR.step {s:ByteArray} {B:Nat} {w wr w':World} {k pos:Nat} {acc:List Int} {v v':Value} {o:Obj} (hp:pos<s.size) (hk:s.size - pos≤k+1) (ha:acc++runesL (tailL s pos)=runesL s.data.toList) (hl:acc.length≤pos)
    (ho:wr.ownsRow B 21 1 v acc.length (rv acc)) (hb:Below B w wr) (hB:B≤wr.heap.size)
    (h1:w'.ownsRow B 21 1 v' (acc.length+1) (rv acc++[.int .i32 (runeL (tailL s pos)).1])) (h2:(wr.alloc o).grownBy w' v.ownBlock):QR s B w k v' (.int .i64 ((pos+(runeL (tailL s pos)).2:Nat):Int)) w':=by
  have hw:=runeL_width (tailL s pos) (tailL_ne hp)
  rw [tailL_length] at hw
  refine ⟨pos+(runeL (tailL s pos)).2,acc++[(runeL (tailL s pos)).1],by omega,rfl,?_,by simp;omega,by omega,?_,?_⟩
  · rw [← ha,runesL_cons (tailL_ne hp),tailL_drop];simp
  · simpa [rv] using h1
  · exact (hb.alloc hB o).grown h2 (by simp;omega) (fun g hg=>(ho.lt g hg).1)
def EscPost (c:UInt8) (w:World) (e:Ending) (w':World):Prop:=e=.returned (.string ⟨(escB c).toArray⟩)∧Below w.heap.size w w'
theorem conv2d (w:World) (a b:Int):Sem.run Tryz.prog (convert 60 9 (.slice (some ⟨w.heap.size,0,none⟩) 2 2)) ((w.alloc (.cells #[.int .u8 a,.int .u8 b] 5)).drew)=.ok (.string (strOfNums [a,b])) ((w.alloc (.cells #[.int .u8 a,.int .u8 b] 5)).drew):=by
  refine run_convert_bytes_arg _ 60 5 Tryz.underlying60 Tryz.underlying5 w.heap.size 0 2 2 [a,b] rfl ?_ 9 Tryz.underlying9
  intro i hi
  have hi':i=0∨i=1:=by omega
  rcases hi' with rfl | rfl <;> simp
theorem conv2e (w:World) (x y:UInt8):Sem.run Tryz.prog (convert 60 9 (.slice (some ⟨w.heap.size,0,none⟩) 2 2)) ((w.alloc (.cells #[.int .u8 (x.toNat:Int),.int .u8 (y.toNat:Int)] 5)).drew)=.ok (.string ⟨#[x,y]⟩) ((w.alloc (.cells #[.int .u8 (x.toNat:Int),.int .u8 (y.toNat:Int)] 5)).drew):=by
  rw [conv2d]
  congr 2
  unfold strOfNums
  simp
theorem dig_hexd:∀ x:Fin 16,({ data:=#[48,49,50,51,52,53,54,55,56,57,97,98,99,100,101,102] }:ByteArray)[x.val]'(by have:=x.isLt;show x.val<16;omega)=hexd x.val:=by decide
theorem strOf_hexd (a b:Nat):({ data:=#[92,117,48,48] }:ByteArray)++⟨#[hexd a,hexd b]⟩=⟨([92,117,48,48,hexd a,hexd b]:List UInt8).toArray⟩:=by
  apply ByteArray.ext
  simp
theorem index_no (c:UInt8) (h:¬ (c.toNat=34∨c.toNat=92∨c.toNat=8∨c.toNat=9∨c.toNat=10∨c.toNat=12∨c.toNat=13)):Lib.indexByte (⟨#[34,92,8,12,10,13,9]⟩:ByteArray).data.toList c = -1:=by
  have key:∀ k:UInt8,c.toNat ≠ k.toNat→(k == c)=false:=by
    intro k hk;rw [beq_eq_false_iff_ne];intro e;exact hk (by rw [e])
  simp only [Lib.indexByte,key 34 (by intro e;simp at e;omega),key 92 (by intro e;simp at e;omega),key 8 (by intro e;simp at e;omega),key 12 (by intro e;simp at e;omega),key 10 (by intro e;simp at e;omega),key 13 (by intro e;simp at e;omega),key 9 (by intro e;simp at e;omega)]
  rfl
theorem escape_any (c:UInt8) (w:World) (hp:plainB c=false) :
    Calls Tryz.prog 103 #[.int .u8 ((c.toNat:Nat):Int)] w (EscPost c w):=by
  have KI:=Lib.hid (Tryz.strings_IndexByte ⟨#[34,92,8,12,10,13,9]⟩ ((c.toNat:Nat):Int) w)
  have hc:=plainB_not hp
  have e:(((c.toNat:Nat):Int)).toNat.toUInt8=c:=by simp
  rw [e] at KI
  clear e hp
  unfold EscPost
  by_cases h1:c.toNat=34∨c.toNat=92∨c.toNat=8∨c.toNat=9∨c.toNat=10∨c.toNat=12∨c.toNat=13
  · have hofn:∀ k:Nat,c.toNat=k→c=UInt8.ofNat k:=by intro k hk;subst hk;simp
    rcases h1 with h1 | h1 | h1 | h1 | h1 | h1 | h1
    all_goals
      have h2:=hofn _ h1
      clear h1 hofn hc
      subst h2
      go_enter Tryz.func103,Tryz.ntmps103
      go_wp2_with fail
      refine KI.out.mono ?_
      rintro r w1 ⟨rfl,rfl⟩
      dsimp only [Lib.indexByte]
      go_wp2
      go_ret
      exact ⟨rfl,Below.refl _ _⟩
  · have hlt:c.toNat<32:=by omega
    have hi:Lib.indexByte (⟨#[34,92,8,12,10,13,9]⟩:ByteArray).data.toList c = -1:=index_no c h1
    have hE:escB c=[92,117,48,48,hexd (c.toNat / 16),hexd (c.toNat % 16)]:=by
      unfold escB;simp only [show ¬ c.toNat=34 by omega,show ¬ c.toNat=92 by omega,show ¬ c.toNat=8 by omega,show ¬ c.toNat=9 by omega,show ¬ c.toNat=10 by omega,show ¬ c.toNat=12 by omega,show ¬ c.toNat=13 by omega,if_false]
    rw [hi] at KI
    have HE:=Lib.hid hE
    clear hi hE h1 hc
    generalize c.toNat=n at *
    obtain ⟨a,ha⟩:∃ a:Nat,n / 16=a:=⟨_,rfl⟩
    obtain ⟨b,hb⟩:∃ b:Nat,n % 16=b:=⟨_,rfl⟩
    have qa:(n:Int) / 16=(a:Int):=by omega
    have qb:(n:Int) % 16=(b:Int):=by omega
    have la:a<16:=by omega
    have lb:b<16:=by omega
    rw [ha,hb] at HE
    have hda:=dig_hexd ⟨a,la⟩
    have hdb:=dig_hexd ⟨b,lb⟩
    simp only at hda hdb
    have hcv:=fun W=>conv2e W (hexd a) (hexd b)
    have la2:(a:Int)<16:=by omega
    have lb2:(b:Int)<16:=by omega
    have HS:=Lib.hid (strOf_hexd a b)
    clear ha hb hlt
    go_enter Tryz.func103,Tryz.ntmps103
    go_wp2_with fail
    refine KI.out.mono ?_
    rintro r w1 ⟨rfl,rfl⟩
    clear KI
    go_wp2
    go_region
    clear hda hdb hcv
    go_wp2
    go_ret
    exact ⟨by rw [HE.out,HS.out];rfl,((Below.refl _ _).alloc (Nat.le_refl _) _).drew⟩
theorem bld_below {T e:TypeId} {B b:Nat} {bs:List Value} {w w':World} (h:Lib.IsBuilderF T e B b bs w) (hb:Below w.heap.size w w'):Lib.IsBuilderF T e B b bs w':=by
  have key:∀ p,Lib.BuilderAtF T e B b p bs w→Lib.BuilderAtF T e B b p bs w':=by
    intro p h
    have hlt:=h.lt
    obtain ⟨hB,v,hv,hown,hne⟩:=h
    refine ⟨hB,v,by rw [hb.block b hlt];exact hv,⟨hown.1,?_⟩,hne⟩
    rcases hown.2 with h2 | ⟨g,cap,cur,fz,rfl,hB2,hg,rest⟩
    · exact .inl h2
    · refine .inr ⟨g,cap,cur,fz,rfl,hB2,?_,rest⟩
      rw [hb.block g (Array.getElem?_eq_some_iff.1 hg).1];exact hg
  exact h.elim (fun x=>.inl (key _ x)) (fun x=>.inr (key _ x))
theorem take_list (t:ByteArray) (n:Nat):(t.extract 0 n).data.toList=t.data.toList.take n:=by
  rw [ByteArray.data_extract,Array.toList_extract]
  simp [List.extract_eq_take_drop]
theorem arr_size (l:List UInt8):(⟨l.toArray⟩:ByteArray).size=l.length:=by simp [ByteArray.size]
def QT (L : List UInt8) (N B b : Nat) (w : World) (k : Nat) (v : Value) (wr : World) : Prop :=
  ∃ (t : ByteArray) (acc : List UInt8), v = .string t ∧ t.size ≤ k ∧ t.size ≤ N ∧ acc ++ bodyL t.data.toList = bodyL L ∧ acc.length ≤ 6 * (N - t.size) ∧
    Lib.IsBuilderF 62 5 B b (Lib.byteCells (34 :: acc)) wr ∧ Below B w wr ∧ b < wr.heap.size
theorem bodyL_run (t:ByteArray):bodyL t.data.toList=t.data.toList.take (plainN t.data.toList)++bodyL (t.data.toList.drop (plainN t.data.toList)):=by
  conv=>lhs;rw [← List.take_append_drop (plainN t.data.toList) t.data.toList]
  rw [bodyL_append,bodyL_plain (plainN_all _)]
theorem QT.last {L:List UInt8} {N B b:Nat} {w w':World} {t:ByteArray} {acc:List UInt8} (hN:t.size≤N) (ha:acc++bodyL t.data.toList=bodyL L) (hl:acc.length≤6*(N - t.size))
    (hn:plainN t.data.toList=t.size) (hb:Below B w w') (hlt:b<w'.heap.size)
    (hI:Lib.BuilderAtF 62 5 B b (.pointer (some ⟨b,0,none⟩)) (Lib.byteCells (34::acc)++Lib.strCells (t.extract 0 t.size)) w') :
    QT L N B b w 0 (.string ByteArray.empty) w':=by
  have h0:(ByteArray.empty).size=0:=rfl
  have e0:(ByteArray.empty).data.toList=[]:=rfl
  have hb2:bodyL t.data.toList=t.data.toList:=by
    have:=bodyL_run t
    rw [hn,List.take_of_length_le (by simp),List.drop_of_length_le (by simp)] at this
    simpa [bodyL] using this
  refine ⟨_,acc++t.data.toList,rfl,by omega,by omega,?_,?_,?_,hb,hlt⟩
  · rw [e0,← ha,hb2];simp [bodyL]
  · rw [List.length_append,h0];simp;omega
  · have:Lib.byteCells (34::acc)++Lib.strCells (t.extract 0 t.size)=Lib.byteCells (34::(acc++t.data.toList)):=by
      rw [Lib.strCells_eq,take_list,List.take_of_length_le (by simp),← List.cons_append,Lib.byteCells_append]
    rw [this] at hI;exact .inr hI
theorem QT.step {L:List UInt8} {N B b k n:Nat} {w w':World} {t:ByteArray} {acc:List UInt8} (hk:t.size≤k+1) (hN:t.size≤N) (ha:acc++bodyL t.data.toList=bodyL L) (hl:acc.length≤6*(N - t.size))
    (hn:plainN t.data.toList=n) (hlt:n<t.size) (hb:Below B w w') (hblt:b<w'.heap.size)
    (hI:Lib.BuilderAtF 62 5 B b (.pointer (some ⟨b,0,none⟩)) (Lib.byteCells (34::acc)++Lib.strCells (t.extract 0 n)++Lib.strCells ⟨(escB (t[n]'hlt)).toArray⟩) w') :
    QT L N B b w k (.string (t.extract (n+1) t.size)) w':=by
  have hs1:(t.extract (n+1) t.size).size=t.size - (n+1):=by rw [ByteArray.size_extract];omega
  have hx:plainB (t[n]'hlt)=false:=by
    have:=plainN_stop (l:=t.data.toList) (by rw [hn];simpa using hlt)
    rw [hn,at_get t n hlt] at this;exact this
  have hd:t.data.toList.drop n=t[n]'hlt::t.data.toList.drop (n+1):=by
    rw [List.drop_eq_getElem_cons (by simpa using hlt)]
    congr 1
  have hb2:bodyL t.data.toList=t.data.toList.take n++(escB (t[n]'hlt)++bodyL (t.data.toList.drop (n+1))):=by
    rw [bodyL_run t,hn,hd,bodyL_cons]
    congr 2
    unfold qb;rw [hx];rfl
  have he:=escB_len (t[n]'hlt)
  refine ⟨_,acc++(t.data.toList.take n++escB (t[n]'hlt)),rfl,by omega,by omega,?_,?_,?_,hb,hblt⟩
  · rw [← ha,hb2,extract_list];simp
  · rw [List.length_append,List.length_append,List.length_take,hs1];simp;omega
  · have:Lib.byteCells (34::acc)++Lib.strCells (t.extract 0 n)++Lib.strCells ⟨(escB (t[n]'hlt)).toArray⟩=Lib.byteCells (34::(acc++(t.data.toList.take n++escB (t[n]'hlt)))):=by
      rw [Lib.strCells_eq,Lib.strCells_eq,take_list,← List.cons_append,Lib.byteCells_append,Lib.byteCells_append,List.append_assoc]
    rw [this] at hI;exact .inr hI
def QuotePost (L:List UInt8) (w:World) (e:Ending) (w':World):Prop:=e=.returned (.string ⟨(quoteL L).toArray⟩)∧Below w.heap.size w w'
theorem quote_any (s:ByteArray) (w:World) (hs:s.size≤1000000) (hT:UT w) :
    Calls Tryz.prog 62 #[.string s] w (QuotePost s.data.toList w):=by
  have KV:=Lib.hid (valid_any s w (by unfold maxLen;omega) hT)
  clear hT
  cases hv:validL s.data.toList
  · have HQ:=Lib.hid (show quoteL s.data.toList=[] by unfold quoteL;rw [hv];rfl)
    rw [hv] at KV
    clear hv
    go_enter Tryz.func62,Tryz.ntmps62
    go_wp2_with fail
    refine KV.out.mono ?_
    rintro r w1 ⟨rfl,hb⟩
    have HB:=Lib.hid hb;clear hb
    go_wp2
    go_ret
    exact ⟨by rw [HQ.out];rfl,HB.out⟩
  · have HQ:=Lib.hid (show quoteL s.data.toList=34::(bodyL s.data.toList++[34]) by unfold quoteL;rw [hv];rfl)
    rw [hv] at KV
    clear hv
    go_enter Tryz.func62,Tryz.ntmps62
    go_wp2_with fail
    refine KV.out.mono ?_
    rintro r w1 ⟨rfl,hb⟩
    have hsz:=hb.size
    have HB:=Lib.hid hb;clear hb
    have hg:=Tryz.Builder_Grow_fresh w.heap.size w1.heap.size (s.size+2) (w1.alloc (.cells #[.pointer none,.slice none 0 0] 62)) hsz (heap_alloc_new w1 _) (by simp;omega) (by omega)
    rw [show ((s.size+2:Nat):Int)=(s.size:Int)+2 from rfl] at hg
    have KG:=Lib.hid hg;clear hg
    go_wp2_with fail
    refine KG.out.mono ?_
    rintro r w2 ⟨rfl,h2,hb2⟩
    have hbw2:Below w.heap.size w w2:=(HB.out.alloc hsz _).trans hb2
    have hsz2:w1.heap.size<w2.heap.size:=by have:=hb2.size;simp at this;omega
    have HB2:=Lib.hid hbw2
    have KB:=Lib.hid (writeByte_k w.heap.size w1.heap.size [] 34 w2 (Lib.IsBuilderF.of (.inr h2)) (by simp) hbw2.size)
    clear h2 hb2 hbw2 HB KG
    generalize hb:w1.heap.size=b at *
    have Hb:=Lib.hid hb;clear hb
    go_wp2_with fail
    refine KB.out.mono ?_
    rintro r w3 ⟨rfl,h3,hb3,_⟩
    have hbw3:=HB2.out.trans hb3
    have hsz3:b<w3.heap.size:=by have:=hb3.size;omega
    have HST:=Lib.hid (show QT s.data.toList s.size w.heap.size b w s.size (.string s) w3 from
      ⟨s,[],rfl,Nat.le_refl _,Nat.le_refl _,rfl,by simp,.inr h3,hbw3,hsz3⟩)
    have HUN:=Lib.hid (fun W (h:Below w.heap.size w W)=>h.size)
    clear h3 hb3 hbw3 hsz3 hsz2 HB2 KB
    generalize hB:w.heap.size=B at *
    have HB:=Lib.hid hB;clear hB
    go_wp2
    go_loopg [0] s.size (fun k v wr=>QT s.data.toList s.size B b w k v wr)
    case atStart=>exact HST.out
    case round =>
      obtain ⟨t,acc,rfl,hk,hN,ha,hl,hI,hbl,hlt⟩:=hrel
      have HA:=Lib.hid ha;have HI:=Lib.hid hI;have HBL:=Lib.hid hbl
      have hun:=HUN.out _ hbl
      clear ha hI hbl
      by_cases h0:t.size=0
      · have e0:t=⟨#[]⟩:=by
          apply ByteArray.ext;apply Array.eq_empty_of_size_eq_zero;exact h0
        have ha0:acc=bodyL s.data.toList:=by rw [← HA.out,e0];simp [bodyL]
        subst e0
        have KW:=Lib.hid (writeByte_k B b (Lib.byteCells (34::acc)) 34 wr HI.out (by rw [Lib.byteCells_length];simp;omega) hun)
        have HA0:=Lib.hid ha0
        clear ha0
        go_wp2_with fail
        refine KW.out.mono ?_
        rintro r w4 ⟨rfl,h4,hb4,_⟩
        have hlt4:b<w4.heap.size:=by have:=hb4.size;omega
        have hbl4:=HBL.out.trans hb4
        have hI4:Lib.IsBuilderF 62 5 B b (Lib.byteCells (34::(acc++[34]))) w4:=by
          have e:Lib.byteCells (34::acc)++[Value.int .u8 34]=Lib.byteCells (34::(acc++[34])):=by
            rw [← List.cons_append,Lib.byteCells_append];rfl
          rw [e] at h4;exact .inr h4
        have KS:=Lib.hid (Tryz.Builder_String_any_k B b (34::(acc++[34])) w4 hI4 (HUN.out _ hbl4))
        have HB4:=Lib.hid hbl4
        clear h4 hb4 hbl4 hI4 KW
        go_wp2_with fail
        refine KS.out.mono ?_
        rintro r w5 ⟨rfl,_,hb5,_⟩
        have HF:=Lib.hid (HB4.out.trans hb5)
        clear hb5 KS
        go_wp2
        go_ret
        unfold QuotePost
        rw [HQ.out,HB.out,HA0.out]
        exact ⟨rfl,HF.out⟩
      · obtain ⟨k,rfl⟩:∃ k,gk=k+1:=⟨gk - 1,by omega⟩
        have hne:t.toList.isEmpty=false:=by
          rw [Lib.toList_data]
          cases h:t.data.toList with
          | nil=>exact absurd (by have:=congrArg List.length h;simpa using this) h0
          | cons _ _=>rfl
        have hle:=plainN_le t.data.toList
        have hsz:t.data.toList.length=t.size:=by simp
        rw [hsz] at hle
        clear hsz
        have KP:=Lib.hid (plainBytes_any t wr (by unfold maxLen;omega))
        have HSP:=Lib.hid (fun (n:Nat) (hn:plainN t.data.toList=n) (hlt:n<t.size) W p1 p2 p3=>QT.step (B:=B) (b:=b) (w:=w) (w':=W) hk hN HA.out hl hn hlt p1 p2 p3)
        have HLS:=Lib.hid (fun (hn:plainN t.data.toList=t.size) W p1 p2 p3=>QT.last (B:=B) (b:=b) (w:=w) (w':=W) hN HA.out hl hn p1 p2 p3)
        generalize hn:plainN t.data.toList=n at *
        have HN:=Lib.hid hn;clear hn
        have hls:(t.extract 0 n).size≤t.size:=by rw [ByteArray.size_extract];omega
        have KW:=Lib.hid (writeString_k B b (Lib.byteCells (34::acc)) (t.extract 0 n) wr HI.out (by rw [Lib.byteCells_length];simp;omega) hun)
        go_wp2_with fail
        refine KP.out.mono ?_
        rintro r w4 ⟨rfl,rfl⟩
        go_wp2_with fail
        refine KW.out.mono ?_
        rintro r w5 ⟨rfl,h5,hb5,_⟩
        have hlt5:b<w5.heap.size:=by have:=hb5.size;omega
        have hbl5:=HBL.out.trans hb5
        have H5:=Lib.hid h5;have HB5:=Lib.hid hbl5
        have hun5:=HUN.out _ hbl5
        clear h5 hb5 hbl5 KW KP
        by_cases hnt:n<t.size
        · have hntz:(n:Int)<(t.size:Int):=by omega
          have hx:plainB (t[n]'hnt)=false:=by
            have:=plainN_stop (l:=t.data.toList) (by rw [HN.out];simpa using hnt)
            rw [HN.out,at_get t n hnt] at this;exact this
          have KE:=Lib.hid (escape_any (t[n]'hnt) w5 hx)
          unfold EscPost at KE
          have HS:=Lib.hid (HSP.out n rfl hnt)
          have hel:=escB_len (t[n]'hnt)
          have HW:=Lib.hid (fun W (h:Below w5.heap.size w5 W)=>writeString_k B b (Lib.byteCells (34::acc)++Lib.strCells (t.extract 0 n)) ⟨(escB (t[n]'hnt)).toArray⟩ W (bld_below (.inr H5.out) h) (by
            have e1:=Lib.strCells_length (t.extract 0 n)
            have e2:=Lib.byteCells_length (34::acc)
            have e3:=arr_size (escB (t[n]'hnt))
            rw [List.length_append,e1,e2,e3,List.length_cons];omega) (HUN.out W (HB5.out.trans (h.mono hun5))))
          clear hx HSP HLS
          generalize hE:(escB (t[n]'hnt))=E at *
          clear hE
          generalize hX:t[n]'hnt=x at *
          go_wp2_with fail
          refine KE.out.mono ?_
          rintro r w6 ⟨rfl,h6⟩
          have hb6:=HB5.out.trans (h6.mono hun5)
          have KW6:=Lib.hid (HW.out w6 h6)
          have hlt6:b<w6.heap.size:=by have:=h6.size;omega
          have HB6:=Lib.hid hb6
          clear h6 hb6 KE HW
          go_wp2_with fail
          refine KW6.out.mono ?_
          rintro r w7 ⟨rfl,h7,hb7,_⟩
          have HF:=Lib.hid (HS.out w7 (HB6.out.trans hb7) (by have:=hb7.size;omega) h7)
          clear h7 hb7 KW6
          go_wp2
          go_roundg k
          case rel=>exact HF.out
          case measure=>omega
        · have hntz:¬ (n:Int)<(t.size:Int):=by omega
          obtain rfl:n=t.size:=by omega
          have HF:=Lib.hid (HLS.out rfl w5 HB5.out hlt5 H5.out)
          clear HSP HLS
          go_wp2
          go_roundg 0
          case rel=>exact HF.out
          case measure=>omega
end Go.Proofs.YtijaphbccnadbaaGreatDoor
