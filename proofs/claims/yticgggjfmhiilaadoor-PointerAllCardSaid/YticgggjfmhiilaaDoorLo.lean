/- Texts of the claim. -/
import Derived.Test.YticgggjfmhiilaaDoorLn
import Derived.Lib.AtoiErrMem
set_option linter.unusedVariables false
set_option linter.unusedSimpArgs false
set_option maxHeartbeats 8000000
set_option maxRecDepth 100000
namespace Go.Proofs.YticgggjfmhiilaaDoor
open Go.RowKit Go.Shelf
def LgB (t:MT):Prop:=∀ s,t.sub s→s.c.mn≤95∧s.c.kn≤40∧s.c.vn≤40∧s.c.s.size≤2100∧∀ x∈s.k,x.size≤2100
theorem LgB.part {t s:MT} (h:LgB t) (hs:s∈t.v):LgB s:=fun u hu=>h u (MT.sub_v hs hu)
theorem LgB.sml {t:MT} (h:LgB t):Sml t:=fun s hs=>by obtain ⟨h1,h2,h3,_⟩:=h s hs;exact ⟨by omega,by omega,by omega⟩
theorem LgB.lgt {t:MT} (h:LgB t):LgtT t:=fun s hs=>by obtain ⟨h1,h2,h3,h4,h5⟩:=h s hs;exact ⟨by omega,fun x hx=>by have:=h5 x hx;omega,by omega⟩
def LightP4 (t:MT) (n:Int) (w:World) (e:Ending) (w':World):Prop :=
  ∃ z:Int,e=.returned (.int .i64 z)∧-1≤z∧z≤1000∧(0≤z→LgB t∧z+(t.nodes:Int)≤n)∧Below w.heap.size w w'
def LN4 (names:List ByteArray) (W0:World) (n k:Nat) (i:Value) (wr:World):Prop :=
  ∃ j:Nat,j≤n∧n - j≤k∧i=.int .i64 (j:Int)∧(∀ i,i<j→(names.getD i ByteArray.empty).size≤2100)∧Below W0.heap.size W0 wr
def LV4 (n0:Int) (vals:List MT) (W0:World) (n k:Nat) (nv i:Value) (wr:World):Prop :=
  ∃ (j:Nat) (z:Int),j≤n∧n - j≤k∧i=.int .i64 (j:Int)∧nv=.int .i64 z∧-1≤z∧z≤1000∧(0≤z→(∀ s∈vals.take j,LgB s)∧z+1+(MT.nodesL (vals.take j):Int)≤n0)∧Below W0.heap.size W0 wr
theorem light4_any (t:MT):∀ (n:Int) (w:World),0≤n→n≤1000→Rep w t →
    Calls Tryd.prog 39 #[t.c.val,.int .i64 n] w (LightP4 t n w):=by
  refine MT.ind (P:=fun t=>∀ (n:Int) (w:World),0≤n→n≤1000→Rep w t→Calls Tryd.prog 39 #[t.c.val,.int .i64 n] w (LightP4 t n w)) ?_ t
  intro t ih n w hn0 hn1 hR
  have own:=hR.own
  obtain ⟨Wb,hWb⟩:∃ x,w.alloc (.cells t.c.cells.toArray 28)=x:=⟨_,rfl⟩
  have hb0:Below w.heap.size w Wb:=by rw [← hWb];exact (Below.refl _ _).alloc (Nat.le_refl _) _
  have hsz:Wb.heap.size=w.heap.size+1:=by rw [← hWb];simp
  have hbx:BoxT Wb w.heap.size t.c:=by unfold BoxT;rw [← hWb];exact heap_alloc_new w _
  have HB0:=Lib.hid (fun W (h:Below Wb.heap.size Wb W)=>hb0.trans (h.mono hb0.size))
  have HBX:=Lib.hid (fun W (h:Below Wb.heap.size Wb W)=>hbx.on (h.block _ (by omega)))
  have HK:=Lib.hid (fun W (h:Below w.heap.size w W)=>own.kr.on h)
  have HV:=Lib.hid (fun W (h:Below w.heap.size w W)=>own.vr.on h)
  have HKL:=Lib.hid own.kn
  have HVL:=Lib.hid own.vn
  have KI:=Lib.hid (fun (j:Nat) (hj:j<t.v.length) (z:Int) (W:World) (h0:0≤z) (h1:z≤1000) (h:Below w.heap.size w W)=>ih (t.v.getD j (leafT 0 false ⟨#[]⟩)) (by simp [List.getD,hj]) z W h0 h1 (by
    have hm:t.v.getD j (leafT 0 false ⟨#[]⟩)∈t.v:=by simp [List.getD,hj]
    exact (hR.part hm).on h))
  have hkc:=own.kc;have hvc:=own.vc;have hlm:=own.lm
  have HWB:=Lib.hid (show Below Wb.heap.size Wb (w.alloc (.cells t.c.cells.toArray 28)) by rw [hWb];exact Below.refl _ _)
  have HFN:=Lib.hid (show ∀ W (z:Int),-1≤z→z≤1000→(0≤z→LgB t∧z+(t.nodes:Int)≤n)→Below Wb.heap.size Wb W→LightP4 t n w (.returned (.int .i64 z)) W from fun W z h1 h2 h0 h3=>⟨z,rfl,h1,h2,h0,HB0.out W h3⟩)
  have HSM:=Lib.hid (show t.c.mn≤95→t.c.kn≤40→t.c.vn≤40→t.c.s.size≤2100→(∀ i,i<t.k.length→(t.k.getD i ByteArray.empty).size≤2100)→∀ z:Int,(∀ s∈t.v,LgB s)∧z+1+(MT.nodesL t.v:Int)≤n→LgB t∧z+(t.nodes:Int)≤n from fun h1 h2 h3 h5 h6 z h4=>by
    refine ⟨fun u hu=>?_,by rw [MT.nodes_eq];have:=h4.2;omega⟩
    rcases MT.sub_cases hu with rfl | ⟨s,hs,hu⟩
    · refine ⟨h1,h2,h3,h5,fun x hx=>?_⟩
      obtain ⟨i,hi,rfl⟩:=List.getElem_of_mem hx
      have:=h6 i hi
      simpa [List.getD,hi] using this
    · exact h4.1 s hs u hu)
  have HZ:=Lib.hid hsz
  unfold LightP4 at HFN
  obtain ⟨ST,hST⟩:∃ p:Int→Prop,(fun z=>LgB t∧z+(t.nodes:Int)≤n)=p:=⟨_,rfl⟩
  have hST2:∀ z:Int,(LgB t∧z+(t.nodes:Int)≤n)=ST z:=fun z=>by rw [← hST]
  simp only [hST2] at HFN HSM
  unfold LightP4
  simp only [hST2]
  clear hb0 hsz hbx own hR ih hWb hST hST2
  generalize t.k=names at *
  generalize t.v=vals at *
  generalize t.m=limbs at *
  generalize t.c=c at *
  obtain ⟨k,b,neg,ma,mn,mc,e,st,ka,kn,kc,va,vn,vc⟩:=c
  unfold Cel.val
  unfold Cel.cells at HWB
  simp only at HWB hkc hvc hlm HKL HVL HK HV
  obtain ⟨hl1,hl2,hl3⟩:=hlm
  have hw1:-9223372036854775808≤n - 1∧n - 1≤9223372036854775807:=by omega
  go_enter Tryd.func39,Tryd.ntmps39
  by_cases g1:(95:Int)<(mn:Int)
  · go_wp2
    go_ret
    exact HFN.out _ _ (by omega) (by omega) (fun h=>absurd h (by decide)) HWB.out
  by_cases g2:(2100:Int)<(st.size:Int)
  · go_wp2
    go_ret
    exact HFN.out _ _ (by omega) (by omega) (fun h=>absurd h (by decide)) HWB.out
  by_cases g3:(40:Int)<(kn:Int)
  · go_wp2
    go_ret
    exact HFN.out _ _ (by omega) (by omega) (fun h=>absurd h (by decide)) HWB.out
  by_cases g4:(40:Int)<(vn:Int)
  · go_wp2
    go_ret
    exact HFN.out _ _ (by omega) (by omega) (fun h=>absurd h (by decide)) HWB.out
  go_wp2
  go_loopg [5] kn (fun k i wr=>LN4 names Wb kn k i wr)
  case atStart=>exact ⟨0,Nat.zero_le _,by omega,rfl,fun i hi=>absurd hi (Nat.not_lt_zero i),HWB.out⟩
  case round =>
    obtain ⟨j,hj,hk,rfl,hnm,hb⟩:=hrel
    have HNM:=Lib.hid hnm
    clear hnm
    obtain ⟨c0,c1,c2,c3,c4,c5,c6,c7⟩:=(HBX.out _ hb).cells
    simp only at c0 c1 c2 c3 c4 c5 c6 c7
    have HB:=Lib.hid hb
    clear hb
    by_cases hlt:j<kn
    · obtain ⟨k,rfl⟩:∃ k,gk=k+1:=⟨gk - 1,by omega⟩
      have hjz:(j:Int)<(kn:Int):=by omega
      have hjl:j<names.length:=by rw [HKL.out];exact hlt
      obtain ⟨bk,o,rfl,hbl,hc⟩:=HK.out wr (HB0.out _ HB.out) j (by rw [sv_len];exact hjl)
      rw [sv_get _ _ hjl] at hc
      obtain ⟨x,hx⟩:∃ x,names.getD j ByteArray.empty=x:=⟨_,rfl⟩
      have HX:=Lib.hid hx
      rw [hx] at hc
      clear hx
      by_cases g5:(2100:Int)<(x.size:Int)
      · go_wp2
        go_ret
        exact HFN.out _ _ (by omega) (by omega) (fun h=>absurd h (by decide)) HB.out
      · have HN:=Lib.hid (show LN4 names Wb kn k (.int .i64 ((j:Int)+1)) wr from ⟨j+1,by omega,by omega,rfl,fun i hi=>by
          by_cases e:i=j
          · subst e;rw [HX.out];omega
          · exact HNM.out i (by omega),HB.out⟩)
        go_wp2
        go_roundg k
        case rel=>exact HN.out
        case measure=>omega
    · have hjz:¬ (j:Int)<(kn:Int):=by omega
      have HNF:=Lib.hid (show ∀ i,i<kn→(names.getD i ByteArray.empty).size≤2100 from fun i hi=>HNM.out i (by omega))
      go_wp2
      clear c0 c1 c2 c3 c4 c5 c6 c7 hjz hlt HNM
      go_loopg [1,6] vn (fun k nv i wr=>LV4 n vals Wb vn k nv i wr)
      case atStart=>exact ⟨0,n - 1,Nat.zero_le _,by omega,rfl,rfl,by omega,by omega,fun _=>⟨fun s hs=>by simp at hs,by rw [List.take_zero,MT.nodesL_nil];omega⟩,HB.out⟩
      case round =>
        obtain ⟨j,z,hj,hk,rfl,rfl,hz1,hz2,hsm,hb⟩:=hrel
        have HSJ:=Lib.hid hsm
        clear hsm
        obtain ⟨c0,c1,c2,c3,c4,c5,c6,c7⟩:=(HBX.out _ hb).cells
        simp only at c0 c1 c2 c3 c4 c5 c6 c7
        have HB:=Lib.hid hb
        clear hb
        by_cases hlt:j<vn
        · have hjz:(j:Int)<(vn:Int):=by omega
          by_cases hz0:0≤z
          · obtain ⟨k,rfl⟩:∃ k,gk=k+1:=⟨gk - 1,by omega⟩
            have hjl:j<vals.length:=by rw [HVL.out];exact hlt
            have hrd:=HV.out wr (HB0.out _ HB.out)
            obtain ⟨xbk,xo,rfl,hbl⟩:=hrd.shape (by rw [flat_len,List.length_map];omega)
            obtain ⟨x0,x1,x2,x3,x4,x5,x6,x7⟩:=flat_at hrd j (by rw [List.length_map];omega) (c:=(vals.getD j (leafT 0 false ⟨#[]⟩)).c) (getD_mapc hjl _)
            have K:=KI.out j hjl z wr hz0 hz2 (HB0.out _ HB.out)
            clear hrd
            obtain ⟨TJ,hTJ⟩:∃ x,vals.getD j (leafT 0 false ⟨#[]⟩)=x:=⟨_,rfl⟩
            have HTJ:=Lib.hid hTJ
            rw [hTJ] at K x0 x1 x2 x3 x4 x5 x6 x7
            clear hTJ
            unfold LightP4 at K
            generalize TJ.c=xc at *
            obtain ⟨xk,xb,xneg,xma,xmn,xmc,xe,xs,xka,xkn,xkc,xva,xvn,xvc⟩:=xc
            unfold Cel.val at K
            simp only at K x0 x1 x2 x3 x4 x5 x6 x7
            have KX:=Lib.hid K
            have HN:=Lib.hid (fun (W:World) (z2:Int) (h1:-1≤z2) (h2:z2≤1000) (h0:0≤z2→LgB TJ∧z2+(TJ.nodes:Int)≤z) (h:Below wr.heap.size wr W)=>(⟨j+1,z2,by omega,by omega,rfl,rfl,h1,h2,fun hz=>by
              have hg:vals[j]=TJ:=by rw [← HTJ.out];simp [List.getD,hjl]
              have ht:vals.take (j+1)=vals.take j++[TJ]:=by rw [List.take_add_one,List.getElem?_eq_getElem hjl,hg];rfl
              obtain ⟨q1,q2⟩:=HSJ.out hz0
              obtain ⟨q3,q4⟩:=h0 hz
              refine ⟨fun s hs=>?_,by rw [ht,nodesL_snocA];omega⟩
              rw [ht] at hs
              simp only [List.mem_append,List.mem_singleton] at hs
              rcases hs with hs | rfl
              · exact q1 s hs
              · exact q3,HB.out.trans (h.mono HB.out.size)⟩:LV4 n vals Wb vn k (.int .i64 z2) (.int .i64 ((j:Int)+1)) W))
            clear K
            go_wp2_with fail
            refine KX.out.mono ?_
            rintro r w2 ⟨z2,rfl,h1,h2,h4,h3⟩
            have HF:=Lib.hid (HN.out w2 z2 h1 h2 h4 h3)
            clear h3
            go_wp2
            go_roundg k
            case rel=>exact HF.out
            case measure=>omega
          · have hz0':z<0:=by omega
            go_wp2
            go_ret
            exact HFN.out _ _ hz1 hz2 (fun h=>absurd h (by omega)) HB.out
        · have hjz:¬ (j:Int)<(vn:Int):=by omega
          go_wp2
          go_ret
          exact HFN.out _ _ hz1 hz2 (fun h=>HSM.out (by omega) (by omega) (by omega) (by omega) (fun i hi=>HNF.out i (by have:=HKL.out;omega)) z (by have:=HSJ.out h;rwa [List.take_of_length_le (by have:=HVL.out;omega)] at this)) HB.out
end Go.Proofs.YticgggjfmhiilaaDoor
namespace Go.Proofs.YticgggjfmhiilaaDoor
open Go.Lib
theorem index_hit0 (old l:List UInt8):index (old++l) old=0:=by
  have:occAt (old++l) old 0=true:=by
    unfold occAt;rw [List.drop_zero];exact List.isPrefixOf_iff_prefix.2 (List.prefix_append old l)
  exact index_first (i:=0) (Nat.zero_le _) this (fun j h=>absurd h (Nat.not_lt_zero j))
theorem index_miss1 (b:UInt8) (l old:List UInt8) (h:old.isPrefixOf (b::l)=false) :
    index (b::l) old=if index l old == -1 then -1 else index l old+1:=by
  conv=>lhs;unfold index
  rw [h];simp
theorem count_nil1 (old:List UInt8) (h:old ≠ []):count [] old=0:=by
  refine count_miss ?_
  unfold index
  cases old with
  | nil=>exact absurd rfl h
  | cons a t=>rfl
theorem count_hit0 (old l:List UInt8) (h:old ≠ []):count (old++l) old=1+count l old:=by
  rw [count_hit (i:=0) h (index_hit0 old l),Nat.zero_add,List.drop_left]
theorem count_miss1 (b:UInt8) (l old:List UInt8) (ho:old ≠ []) (h:old.isPrefixOf (b::l)=false):count (b::l) old=count l old:=by
  have e:=index_miss1 b l old h
  by_cases hm:index l old = -1
  · rw [hm] at e
    rw [count_miss e,count_miss hm]
  · have hge:=index_ge l old
    obtain ⟨i,hi⟩:∃ i:Nat,index l old=i:=⟨(index l old).toNat,by omega⟩
    rw [hi] at e
    have hne:((i:Int) == -1)=false:=by rw [beq_eq_false_iff_ne];omega
    rw [hne] at e
    have e':index (b::l) old=((i+1:Nat):Int):=by rw [e];simp
    rw [count_hit (i:=i+1) ho e',count_hit (i:=i) ho hi]
    have:(b::l).drop (i+1+old.length)=l.drop (i+old.length):=by rw [show i+1+old.length=(i+old.length)+1 by omega,List.drop_succ_cons]
    rw [this]
theorem repl_eq (s old new:List UInt8) (h:old ≠ new):replaceAll s old new=replaceK old new (count s old) s:=by
  unfold replaceAll replace replaceNum
  have:(old == new)=false:=beq_eq_false_iff_ne.2 h
  rw [this]
  simp
theorem repl_nil (old new:List UInt8) (h:old ≠ new) (ho:old ≠ []):replaceAll [] old new=[]:=by
  rw [repl_eq _ _ _ h,count_nil1 _ ho];rfl
theorem repl_hit (old new l:List UInt8) (h:old ≠ new) (ho:old ≠ []):replaceAll (old++l) old new=new++replaceAll l old new:=by
  rw [repl_eq _ _ _ h,repl_eq _ _ _ h,count_hit0 _ _ ho,Nat.add_comm,replaceK_hit old new _ _ 0 (index_hit0 old l)]
  simp
theorem replK_miss (old new:List UInt8) (b:UInt8) (l:List UInt8) (ho:old ≠ []) (h:old.isPrefixOf (b::l)=false):∀ k,k=count l old→replaceK old new k (b::l)=b::replaceK old new k l:=by
  intro k hk
  have e:=index_miss1 b l old h
  by_cases hm:index l old = -1
  · rw [count_miss hm] at hk
    subst hk
    simp [replaceK]
  · have hge:=index_ge l old
    obtain ⟨i,hi⟩:∃ i:Nat,index l old=i:=⟨(index l old).toNat,by omega⟩
    rw [hi] at e
    have hne:((i:Int) == -1)=false:=by rw [beq_eq_false_iff_ne];omega
    rw [hne] at e
    have e':index (b::l) old=((i+1:Nat):Int):=by rw [e];simp
    rw [count_hit (i:=i) ho hi,Nat.add_comm] at hk
    subst hk
    rw [replaceK_hit old new _ _ (i+1) e',replaceK_hit old new _ _ i hi]
    have:(b::l).drop (i+1+old.length)=l.drop (i+old.length):=by rw [show i+1+old.length=(i+old.length)+1 by omega,List.drop_succ_cons]
    rw [this,List.take_succ_cons]
    rfl
theorem repl_miss (old new:List UInt8) (b:UInt8) (l:List UInt8) (hn:old ≠ new) (ho:old ≠ []) (h:old.isPrefixOf (b::l)=false):replaceAll (b::l) old new=b::replaceAll l old new:=by
  rw [repl_eq _ _ _ hn,repl_eq _ _ _ hn,count_miss1 b l old ho h,replK_miss old new b l ho h _ rfl]
theorem repl_one (c:UInt8) (new:List UInt8) (h:[c] ≠ new) (l:List UInt8):replaceAll l [c] new=l.flatMap fun b=>if b=c then new else [b]:=by
  induction l with
  | nil=>exact repl_nil _ _ h (by simp)
  | cons b l ih =>
    rw [List.flatMap_cons,← ih]
    by_cases hb:b=c
    · subst hb
      rw [if_pos rfl]
      exact repl_hit [b] new l h (by simp)
    · rw [if_neg hb]
      exact repl_miss [c] new b l h (by simp) (by simp [List.isPrefixOf];exact fun e=>hb e.symm)
def rep2 (a b:UInt8) (c:UInt8):List UInt8→List UInt8
  | x::y::l=>if x=a∧y=b then c::rep2 a b c l else x::rep2 a b c (y::l)
  | l=>l
theorem repl_two (a b c:UInt8) (l:List UInt8):∀ n,l.length≤n→replaceAll l [a,b] [c]=rep2 a b c l:=by
  intro n
  have hn:[a,b] ≠ [c]:=by simp
  induction n generalizing l with
  | zero=>intro h;cases l with
    | nil=>rw [repl_nil _ _ hn (by simp),rep2];simp
    | cons x l=>simp at h
  | succ n ih =>
    intro h
    match l with
    | []=>rw [repl_nil _ _ hn (by simp),rep2];simp
    | [x] =>
      rw [repl_miss _ _ x [] hn (by simp) (by simp [List.isPrefixOf]),repl_nil _ _ hn (by simp),rep2];simp
    | x::y::l =>
      rw [rep2]
      simp at h
      by_cases hh:x=a∧y=b
      · rw [if_pos hh]
        obtain ⟨rfl,rfl⟩:=hh
        rw [← ih l (by omega)]
        exact repl_hit [x,y] [c] l hn (by simp)
      · rw [if_neg hh,← ih (y::l) (by simp;omega)]
        refine repl_miss _ _ x (y::l) hn (by simp) ?_
        simp [List.isPrefixOf]
        intro e1 e2
        exact hh ⟨e1.symm,e2.symm⟩
def spl (c:UInt8):List UInt8→List (List UInt8)
  | []=>[[]]
  | b::l=>if b=c then []::spl c l else match spl c l with | []=>[[b]] | x::m=>(b::x)::m
theorem spl_ne (c:UInt8) (l:List UInt8):spl c l ≠ []:=by
  cases l with
  | nil=>simp [spl]
  | cons b l=>rw [spl];split;simp;split <;> simp
theorem splitK_one (c:UInt8) (l:List UInt8):splitK [c] 0 (count l [c]) l=spl c l:=by
  induction l with
  | nil=>rw [count_nil1 _ (by simp)];rfl
  | cons b l ih =>
    by_cases hb:b=c
    · subst hb
      rw [spl,if_pos rfl,← ih]
      have e:=count_hit0 [b] l (by simp)
      have e0:=index_hit0 [b] l
      rw [List.singleton_append] at e e0
      rw [e,Nat.add_comm,splitK,e0]
      simp
    · rw [spl,if_neg hb,← ih]
      have hm:([c]:List UInt8).isPrefixOf (b::l)=false:=by simp [List.isPrefixOf];exact fun e=>hb e.symm
      rw [count_miss1 b l [c] (by simp) hm]
      have e:=index_miss1 b l [c] hm
      by_cases hx:index l [c] = -1
      · rw [count_miss hx];rfl
      · have hge:=index_ge l [c]
        obtain ⟨i,hi⟩:∃ i:Nat,index l [c]=i:=⟨(index l [c]).toNat,by omega⟩
        have hne:((i:Int) == -1)=false:=by rw [beq_eq_false_iff_ne];omega
        rw [hi,hne] at e
        have hne2:(((i:Int)+1) == -1)=false:=by rw [beq_eq_false_iff_ne];omega
        rw [count_hit (i:=i) (by simp) hi,Nat.add_comm,splitK,splitK,e,hi,hne]
        simp [hne2]
theorem spl_length (c:UInt8) (l:List UInt8):(spl c l).length=l.count c+1:=by
  induction l with
  | nil=>rfl
  | cons b l ih =>
    rw [spl]
    by_cases hb:b=c
    · subst hb;rw [if_pos rfl,List.length_cons,ih,List.count_cons_self]
    · rw [if_neg hb,List.count_cons_of_ne (by simpa using hb),← ih]
      split
      · rename_i e;rw [e];exact absurd e (spl_ne c l)
      · rename_i x m e;rw [e];simp
theorem spl_join (c:UInt8) (l:List UInt8):(spl c l).flatMap (fun t=>c::t)=c::l:=by
  induction l with
  | nil=>rfl
  | cons b l ih =>
    rw [spl]
    by_cases hb:b=c
    · subst hb;rw [if_pos rfl,List.flatMap_cons,ih];rfl
    · rw [if_neg hb]
      split
      · rename_i e;exact absurd e (spl_ne c l)
      · rename_i x m e
        rw [e] at ih
        rw [List.flatMap_cons] at ih ⊢
        simp at ih ⊢
        exact ih
theorem splP_none (c:UInt8) (l:List UInt8) (h:c ∉ l):spl c l=[l]:=by
  induction l with
  | nil=>rfl
  | cons b l ih =>
    simp at h
    rw [spl,if_neg (fun e=>h.1 e.symm),ih h.2]
theorem spl_cat (c:UInt8) (t l:List UInt8) (h:c ∉ t):spl c (t++c::l)=t::spl c l:=by
  induction t with
  | nil=>simp [spl]
  | cons b t ih =>
    simp at h
    rw [List.cons_append,spl,if_neg (fun e=>h.1 e.symm),ih h.2]
def escPt (l:List UInt8):List UInt8:=l.flatMap fun b=>if b=126 then [126,48] else if b=47 then [126,49] else [b]
def plainL (l:List UInt8):List UInt8:=rep2 126 48 126 (rep2 126 49 47 l)
theorem esc_eq (l:List UInt8):replaceAll (replaceAll l [126] [126,48]) [47] [126,49]=escPt l:=by
  rw [repl_one _ _ (by decide),repl_one _ _ (by decide),List.flatMap_assoc]
  unfold escPt
  congr 1
  funext b
  by_cases h:b=126
  · subst h;decide
  · by_cases h2:b=47
    · subst h2;decide
    · rw [if_neg h,if_neg h];simp [h2]
theorem plain_eq (l:List UInt8):replaceAll (replaceAll l [126,49] [47]) [126,48] [126]=plainL l:=by
  rw [repl_two _ _ _ _ _ (Nat.le_refl _),repl_two _ _ _ _ _ (Nat.le_refl _)];rfl
def tilW:Bool→List UInt8→Bool
  | w,[]=>!w
  | w,b::l=>if b=48∨b=49 then tilW false l else if w then false else tilW (decide (b=126)) l
theorem tilW_two (b:UInt8) (l:List UInt8) (h:b=48∨b=49) (w:Bool):tilW w (b::l)=tilW false l:=by rw [tilW,if_pos h]
theorem tilW_tilde (l:List UInt8):tilW false (126::l)=tilW true l:=by rw [tilW,if_neg (by decide)];simp
theorem tilW_other (b:UInt8) (l:List UInt8) (h:b ≠ 126):tilW false (b::l)=tilW false l:=by
  rw [tilW];split;rfl;simp [h]
theorem tilW_true {l:List UInt8} (h:tilW true l=true):∃ b r,l=b::r∧(b=48∨b=49)∧tilW false r=true:=by
  cases l with
  | nil=>simp [tilW] at h
  | cons b r =>
    rw [tilW] at h
    by_cases hb:b=48∨b=49
    · rw [if_pos hb] at h;exact ⟨b,r,rfl,hb,h⟩
    · rw [if_neg hb] at h;simp at h
def unL:List UInt8→List UInt8
  | a::b::l=>if a=126 then (if b=49 then 47::unL l else if b=48 then 126::unL l else a::unL (b::l)) else a::unL (b::l)
  | l=>l
theorem rep2_cons (a b c x:UInt8) (l:List UInt8) (h:x ≠ a):rep2 a b c (x::l)=x::rep2 a b c l:=by
  cases l with
  | nil=>simp [rep2]
  | cons y l=>rw [rep2,if_neg (fun e=>h e.1)]
theorem rep2_skip (a b c y:UInt8) (l:List UInt8) (h:y ≠ b) (h2:y ≠ a):rep2 a b c (a::y::l)=a::y::rep2 a b c l:=by
  rw [rep2,if_neg (fun e=>h e.2),rep2_cons a b c y l h2]
theorem plain_un:∀ (n:Nat) (l:List UInt8),l.length≤n→tilW false l=true→plainL l=unL l:=by
  intro n
  induction n with
  | zero=>intro l h ht;cases l with
    | nil=>rfl
    | cons x l=>simp at h
  | succ n ih =>
    intro l h ht
    match l with
    | []=>rfl
    | [x]=>unfold plainL;rw [show rep2 126 49 47 [x]=[x] by rw [rep2];simp,show rep2 126 48 126 [x]=[x] by rw [rep2];simp,unL];simp
    | x::y::l =>
      simp at h
      by_cases hx:x=126
      · subst hx
        rw [tilW_tilde] at ht
        obtain ⟨b,r,e,hb,hr⟩:=tilW_true ht
        simp at e
        obtain ⟨rfl,rfl⟩:=e
        have ih':=ih l (by omega) hr
        rcases hb with rfl | rfl
        · rw [unL,if_pos rfl,if_neg (by decide),if_pos rfl,← ih']
          unfold plainL
          rw [rep2_skip _ _ _ _ _ (by decide) (by decide),rep2,if_pos ⟨rfl,rfl⟩]
        · rw [unL,if_pos rfl,if_pos rfl,← ih']
          unfold plainL
          rw [rep2,if_pos ⟨rfl,rfl⟩,rep2_cons _ _ _ _ _ (by decide)]
      · rw [tilW_other x _ hx] at ht
        rw [unL,if_neg hx,← ih (y::l) (by simp;omega) ht]
        unfold plainL
        rw [rep2_cons _ _ _ _ _ hx,rep2_cons _ _ _ _ _ hx]
theorem esc_cons (b:UInt8) (l:List UInt8):escPt (b::l)=(if b=126 then [126,48] else if b=47 then [126,49] else [b])++escPt l:=by unfold escPt;rw [List.flatMap_cons]
theorem unL_cons (x:UInt8) (l:List UInt8) (h:x ≠ 126):unL (x::l)=x::unL l:=by
  cases l with
  | nil=>rw [unL,unL] <;> simp
  | cons y l=>rw [unL,if_neg h]
def txtPt (p:List (List UInt8)):List UInt8:=p.flatMap fun t=>47::escPt t
theorem textP_nil:txtPt []=[]:=rfl
theorem textP_cons (t:List UInt8) (p:List (List UInt8)):txtPt (t::p)=47::(escPt t++txtPt p):=by unfold txtPt;rw [List.flatMap_cons];rfl
theorem textP_append (p q:List (List UInt8)):txtPt (p++q)=txtPt p++txtPt q:=by simp [txtPt]
def parsePt (s:List UInt8):List (List UInt8) ⊕ Int :=
  match s with
  | []=>.inl []
  | b::l=>if b ≠ 47∨validL s=false∨tilW false s=false then .inr 2 else if 63<s.count 47 then .inr 4 else .inl ((spl 47 l).map plainL)
theorem tilW_split:∀ (ts:List (List UInt8)) (t:List UInt8) (w:Bool),tilW w (t++ts.flatMap (fun x=>47::x))=true→tilW w t=true∧∀ x∈ts,tilW false x=true:=by
  intro ts
  induction ts with
  | nil=>intro t w h;simp at h;exact ⟨h,by simp⟩
  | cons u ts ih =>
    intro t
    induction t with
    | nil =>
      intro w h
      rw [List.flatMap_cons,List.nil_append,List.cons_append,tilW,if_neg (by decide)] at h
      cases w with
      | true=>simp at h
      | false =>
        simp at h
        have:=ih u false (by simpa using h)
        refine ⟨rfl,fun x hx=>?_⟩
        rcases List.mem_cons.1 hx with rfl | hx
        · exact this.1
        · exact this.2 x hx
    | cons b t iht =>
      intro w h
      rw [List.cons_append,tilW] at h
      rw [tilW]
      by_cases hb:b=48∨b=49
      · rw [if_pos hb] at h ⊢;exact iht _ h
      · rw [if_neg hb] at h ⊢
        cases w with
        | true=>simp at h
        | false=>rw [if_neg (by decide)] at h ⊢;exact iht _ h
end Go.Proofs.YticgggjfmhiilaaDoor
namespace Go.Proofs.YticgggjfmhiilaaDoor
open Go.RowKit
theorem tilW_at (w:Bool) (l:List UInt8) (k:Nat) (hk:k<l.length):tilW w (l.drop k)=if l.getD k 0=48∨l.getD k 0=49 then tilW false (l.drop (k+1)) else if w then false else tilW (decide (l.getD k 0=126)) (l.drop (k+1)):=by
  rw [List.drop_eq_getElem_cons hk,tilW]
  simp [List.getD,hk]
def TG (l:List UInt8) (n:Nat) (W:World) (g:Nat) (wv i:Value) (wr:World):Prop :=
  ∃ (k:Nat) (b:Bool),k≤n∧n - k≤g∧wv=.bool b∧i=.int .i64 (k:Int)∧tilW false l=tilW b (l.drop k)∧wr=W
theorem tildes_any (s:ByteArray) (w:World) (hs:s.size≤4000000000000) :
    Calls Tryd.prog 41 #[.string s] w fun e w'=>e=.returned (.bool (tilW false s.data.toList))∧Below w.heap.size w w':=by
  have hln:s.data.toList.length=s.size:=by rw [Array.length_toList];rfl
  have hb2:=Lib.bytesWorld_below w 5 s
  have HC:=Lib.hid (Lib.run_convert_string_bytes (P:=Tryd.prog) w 9 65 5 s (u:=.string) Tryd.underlying9 Tryd.underlying65 Tryd.underlying5)
  have HB:=Lib.hid hb2
  have hce:∀ i,(hi:i<s.size)→(Lib.bytesWorld w 5 s).cell? ⟨w.heap.size,i,none⟩=some (.int .u8 (((s.data.toList.getD i 0).toNat:Nat):Int)):=by
    intro i hi
    rw [Lib.bytesWorld_cell _ _ _ _ hi]
  have HCE:=Lib.hid hce
  have HLN:=Lib.hid hln
  clear hb2 hce hln
  generalize Lib.bytesWorld w 5 s=W3 at *
  generalize hcp:grownCap w s.size 0 5=cp at *
  have hcp':s.size≤cp:=by rw [← hcp];exact grownCap_ge _ _ _ _
  clear hcp
  generalize w.heap.size=bk at *
  generalize s.data.toList=l at *
  go_enter Tryd.func41,Tryd.ntmps41
  go_wp2_with fail
  go_step3
  go_wp2_with fail
  go_step3
  go_wp2_with fail
  rw [HC.out]
  simp only [Result.andThen]
  rw [Oper.upon_value]
  go_wp2
  go_loopg [3,9] s.size (fun g wv i wr=>TG l s.size W3 g wv i wr)
  case atStart=>exact ⟨0,false,by omega,by omega,rfl,rfl,by simp,rfl⟩
  case round =>
    obtain ⟨k,b,hk,hg,rfl,rfl,ht,rfl⟩:=hrel
    by_cases hlt:k<s.size
    · obtain ⟨g,rfl⟩:∃ g,gk=g+1:=⟨gk - 1,by omega⟩
      have hkz:(k:Int)<(s.size:Int):=by omega
      have hc:=HCE.out k hlt
      have hkl:k<l.length:=by rw [HLN.out];exact hlt
      rw [tilW_at b l k hkl] at ht
      have hlt2:=(l.getD k 0).toNat_lt
      by_cases h8:l.getD k 0=48
      · rw [h8] at hc ht
        rw [if_pos (.inl rfl)] at ht
        have HN:=Lib.hid (show TG l s.size wr g (.bool false) (.int .i64 ((k:Int)+1)) wr from ⟨k+1,false,by omega,by omega,rfl,by simp,ht,rfl⟩)
        have hc1:wr.cell? ⟨bk,k,none⟩=some (.int .u8 48):=hc
        clear hc ht
        go_wp2
        go_roundg g
        case rel=>exact HN.out
        case measure=>omega
      · by_cases h9:l.getD k 0=49
        · rw [h9] at hc ht
          rw [if_pos (.inr rfl)] at ht
          have HN:=Lib.hid (show TG l s.size wr g (.bool false) (.int .i64 ((k:Int)+1)) wr from ⟨k+1,false,by omega,by omega,rfl,by simp,ht,rfl⟩)
          have hc1:wr.cell? ⟨bk,k,none⟩=some (.int .u8 49):=hc
          clear hc ht
          go_wp2
          go_roundg g
          case rel=>exact HN.out
          case measure=>omega
        · have h8n:(((l.getD k 0).toNat:Nat):Int) ≠ 48:=fun e=>h8 (by apply UInt8.toNat_inj.1;rw [show (48:UInt8).toNat=48 from rfl];omega)
          have h9n:(((l.getD k 0).toNat:Nat):Int) ≠ 49:=fun e=>h9 (by apply UInt8.toNat_inj.1;rw [show (49:UInt8).toNat=49 from rfl];omega)
          rw [if_neg (by rintro (h | h);exact h8 h;exact h9 h)] at ht
          cases b with
          | true =>
            rw [if_pos rfl] at ht
            have HF:=Lib.hid ht
            generalize (l.getD k 0).toNat=x at *
            clear ht
            go_wp2
            rw [Exit.noGoto_ret]
            go_ret
            exact ⟨by rw [HF.out];rfl,HB.out⟩
          | false =>
            rw [if_neg (by decide)] at ht
            have h6:(((l.getD k 0).toNat:Nat):Int)=126 ↔ l.getD k 0=126:=by
              constructor
              · intro e;apply UInt8.toNat_inj.1;rw [show (126:UInt8).toNat=126 from rfl];omega
              · intro e;rw [e];rfl
            by_cases h7:l.getD k 0=126
            · rw [decide_eq_true h7] at ht
              have HN:=Lib.hid (show TG l s.size wr g (.bool true) (.int .i64 ((k:Int)+1)) wr from ⟨k+1,true,by omega,by omega,rfl,by simp,ht,rfl⟩)
              have h7z:=h6.2 h7
              generalize (l.getD k 0).toNat=x at *
              clear ht h6
              have hx:x=126:=by omega
              subst hx
              clear h7 h7z h8n h9n
              go_wp2
              go_roundg g
              case rel=>exact HN.out
              case measure=>omega
            · rw [decide_eq_false h7] at ht
              have HN:=Lib.hid (show TG l s.size wr g (.bool false) (.int .i64 ((k:Int)+1)) wr from ⟨k+1,false,by omega,by omega,rfl,by simp,ht,rfl⟩)
              have h7z:¬ (((l.getD k 0).toNat:Nat):Int)=126:=fun e=>h7 (h6.1 e)
              generalize (l.getD k 0).toNat=x at *
              clear ht h6
              have h7b:((x:Int) == 126)=false:=beq_eq_false_iff_ne.2 h7z
              go_wp2
              go_roundg g
              case rel=>exact HN.out
              case measure=>omega
    · obtain rfl:k=s.size:=by omega
      have hkz:¬ (s.size:Int)<(s.size:Int):=by omega
      have he:l.drop s.size=[]:=List.drop_eq_nil_of_le (by rw [HLN.out];exact Nat.le_refl _)
      rw [he,tilW] at ht
      have HF:=Lib.hid ht
      clear ht he
      go_wp2
      go_ret
      exact ⟨by rw [HF.out];rfl,HB.out⟩
def idxF (n:Nat):List UInt8→Option Nat
  | []=>some n
  | b::l=>if b.toNat<48∨57<b.toNat then none else idxF (10*n+(b.toNat - 48)) l
def idxL (l:List UInt8) (most:Int):Option Nat :=
  if l=[]∨4<l.length∨(l.getD 0 0=48∧l ≠ [48]) then none else match idxF 0 l with | none=>none | some n=>if most<(n:Int) then none else some n
theorem idxF_le:∀ (l:List UInt8) (n m:Nat),idxF n l=some m→m<(n+1)*10 ^ l.length:=by
  intro l
  induction l with
  | nil=>intro n m h;simp [idxF] at h;subst h;simp
  | cons b l ih =>
    intro n m h
    rw [idxF] at h
    split at h
    · cases h
    · rename_i hn
      have:=ih _ m h
      rw [List.length_cons,Nat.pow_succ]
      have h2:10*n+(b.toNat - 48)+1≤(n+1)*10:=by omega
      calc m<(10*n+(b.toNat - 48)+1)*10 ^ l.length:=this
        _≤((n+1)*10)*10 ^ l.length:=Nat.mul_le_mul_right _ h2
        _=(n+1)*(10 ^ l.length*10):=by rw [Nat.mul_assoc,Nat.mul_comm 10]
theorem idxL_lt {l:List UInt8} {most:Int} {n:Nat} (h:idxL l most=some n):(n:Int)≤most∧n<10000:=by
  unfold idxL at h
  split at h
  · cases h
  · rename_i hc
    split at h
    · cases h
    · rename_i m hm
      split at h
      · cases h
      · simp at h
        subst h
        refine ⟨by omega,?_⟩
        have h1:=idxF_le l 0 m hm
        have h2:l.length≤4:=by omega
        have h3:10 ^ l.length≤10 ^ 4:=Nat.pow_le_pow_right (by decide) h2
        omega
theorem idxF_at (n:Nat) (l:List UInt8) (k:Nat) (hk:k<l.length):idxF n (l.drop k)=if (l.getD k 0).toNat<48∨57<(l.getD k 0).toNat then none else idxF (10*n+((l.getD k 0).toNat - 48)) (l.drop (k+1)):=by
  rw [List.drop_eq_getElem_cons hk,idxF]
  simp [List.getD,hk]
def idxV (o:Option Nat):Int:=match o with | none=>0 | some n=>(n:Int)
def IdxP (l:List UInt8) (most:Int) (w:World) (e:Ending) (w':World):Prop :=
  e=.returned (.tuple #[.int .i64 (idxV (idxL l most)),.bool (idxL l most).isSome])∧Below w.heap.size w w'
def IG (l:List UInt8) (n:Nat) (W:World) (g:Nat) (nv i:Value) (wr:World):Prop :=
  ∃ (k m:Nat),k≤n∧n - k≤g∧nv=.int .i64 (m:Int)∧m<10 ^ k∧i=.int .i64 (k:Int)∧idxF 0 l=idxF m (l.drop k)∧wr=W
theorem str_nil (s:ByteArray) (h:s.size=0):s=⟨#[]⟩:=by
  obtain ⟨⟨l⟩⟩:=s
  cases l with
  | nil=>rfl
  | cons a l=>simp [ByteArray.size] at h
theorem str_ne (s:ByteArray) (h:s.size ≠ 0):s.toList.isEmpty=false:=by
  have:=Lib.size_eq s
  rw [Lib.toList_data]
  cases e:s.data.toList with
  | nil=>rw [e] at this;exact absurd this h
  | cons a l=>rfl
theorem str_eq (s t:ByteArray):(s.toList == t.toList)=decide (s.data.toList=t.data.toList):=by
  rw [Lib.toList_data,Lib.toList_data]
  by_cases h:s.data.toList=t.data.toList
  · rw [decide_eq_true h,h];simp
  · rw [decide_eq_false h];exact beq_eq_false_iff_ne.2 h
theorem ptIndex_any (s:ByteArray) (most:Int) (w:World) (hm:-9223372036854775808≤most∧most≤9223372036854775807) (hs:s.size≤4000000000000) :
    Calls Tryd.prog 15 #[.string s,.int .i64 most] w (IdxP s.data.toList most w):=by
  have hln:s.data.toList.length=s.size:=by rw [Array.length_toList];rfl
  by_cases h0:s.size=0
  · have e0:=str_nil s h0
    subst e0
    have HF:=Lib.hid (show IdxP [] most w (.returned (.tuple #[.int .i64 0,.bool false])) w from ⟨rfl,Below.refl _ _⟩)
    clear hln h0
    go_enter Tryd.func15,Tryd.ntmps15
    go_wp2
    go_ret2
    exact HF.out
  have e0:=str_ne s h0
  by_cases h4:4<s.size
  · have h4z:(4:Int)<(s.size:Int):=by omega
    have HF:=Lib.hid (show IdxP s.data.toList most w (.returned (.tuple #[.int .i64 0,.bool false])) w from by
      have:idxL s.data.toList most=none:=by unfold idxL;rw [if_pos (.inr (.inl (by omega)))]
      exact ⟨by rw [this];rfl,Below.refl _ _⟩)
    clear hln
    go_enter Tryd.func15,Tryd.ntmps15
    go_wp2
    go_ret2
    exact HF.out
  have h4z:¬ (4:Int)<(s.size:Int):=by omega
  have h0z:0<s.size:=by omega
  have hg0:s.data.toList.getD 0 0=s[0]'h0z:=by
    have hs:0<s.data.size:=h0z
    have h1:s.data[0]? = some (s.data[0]'hs):=Array.getElem?_eq_getElem hs
    simp [List.getD,h1,ByteArray.getElem_eq_getElem_data]
  have hq:=str_eq s ⟨#[48]⟩
  have hq2:(⟨#[48]⟩:ByteArray).toList=[48]:=by rw [Lib.toList_data]
  have hq3:(⟨#[48]⟩:ByteArray).data.toList=[48]:=rfl
  rw [hq2,hq3] at hq
  by_cases hbad:s.data.toList.getD 0 0=48∧s.data.toList ≠ [48]
  · have HF:=Lib.hid (show IdxP s.data.toList most w (.returned (.tuple #[.int .i64 0,.bool false])) w from by
      have:idxL s.data.toList most=none:=by unfold idxL;rw [if_pos (.inr (.inr hbad))]
      exact ⟨by rw [this];rfl,Below.refl _ _⟩)
    have h48:(((s[0]'h0z).toNat:Nat):Int)=48:=by rw [← hg0,hbad.1];rfl
    rw [decide_eq_false hbad.2] at hq
    clear hln hq2 hq3 hbad hg0
    go_enter Tryd.func15,Tryd.ntmps15
    go_wp2
    go_ret2
    exact HF.out
  have hD:((((s[0]'h0z).toNat:Nat):Int)=48∧(s.toList == [48])=true)∨¬ (((s[0]'h0z).toNat:Nat):Int)=48:=by
    by_cases h:(((s[0]'h0z).toNat:Nat):Int)=48
    · left
      refine ⟨h,?_⟩
      rw [hq]
      refine decide_eq_true ?_
      apply Classical.byContradiction
      intro hn
      refine hbad ⟨?_,hn⟩
      rw [hg0];apply UInt8.toNat_inj.1;rw [show (48:UInt8).toNat=48 from rfl];omega
    · exact .inr h
  have HX:Hid (idxL s.data.toList most=match idxF 0 s.data.toList with | none=>none | some n=>if most<(n:Int) then none else some n):=Lib.hid (by
    unfold idxL
    rw [if_neg]
    rintro (h | h | h)
    · rw [h] at hln;simp at hln;omega
    · omega
    · exact hbad h)
  have hb2:=Lib.bytesWorld_below w 5 s
  have HC:=Lib.hid (Lib.run_convert_string_bytes (P:=Tryd.prog) w 9 65 5 s (u:=.string) Tryd.underlying9 Tryd.underlying65 Tryd.underlying5)
  have HB:=Lib.hid hb2
  have HCE:=Lib.hid (show ∀ i,(hi:i<s.size)→(Lib.bytesWorld w 5 s).cell? ⟨w.heap.size,i,none⟩=some (.int .u8 (((s.data.toList.getD i 0).toNat:Nat):Int)) from by
    intro i hi
    rw [Lib.bytesWorld_cell _ _ _ _ hi])
  have HLN:=Lib.hid hln
  have h4n:s.size≤4:=by omega
  clear hb2 hln hq hq2 hq3 hbad hg0
  obtain ⟨W3,hW3⟩:∃ W,Lib.bytesWorld w 5 s=W:=⟨_,rfl⟩
  rw [hW3] at HC HB HCE
  obtain ⟨cp,hcp⟩:∃ c,grownCap w s.size 0 5=c:=⟨_,rfl⟩
  have hcp':s.size≤cp:=by rw [← hcp];exact grownCap_ge _ _ _ _
  rw [hcp] at HC
  have HFN:=Lib.hid (fun (e:Ending) (h:e=.returned (.tuple #[.int .i64 (idxV (idxL s.data.toList most)),.bool (idxL s.data.toList most).isSome]))=>(show IdxP s.data.toList most w e W3 from ⟨h,HB.out⟩))
  clear hW3 hcp HB
  obtain ⟨bk,hbk⟩:∃ b,w.heap.size=b:=⟨_,rfl⟩
  rw [hbk] at HC HCE
  clear hbk
  rcases hD with ⟨h48,hq⟩ | h48
  all_goals
    go_enter Tryd.func15,Tryd.ntmps15
    go_wp2_with fail
    rw [HC.out]
    simp only [Result.andThen]
    rw [Oper.upon_value]
    go_wp2
    go_loopg [6,28] s.size (fun g nv i wr=>IG s.data.toList s.size W3 g nv i wr)
    case atStart=>exact ⟨0,0,by omega,by omega,rfl,by decide,rfl,by simp,rfl⟩
    case round =>
      obtain ⟨k,m,hk,hg,rfl,hmk,rfl,ht,rfl⟩:=hrel
      have hk4:10 ^ k≤10 ^ 4:=Nat.pow_le_pow_right (by decide) (by omega)
      by_cases hlt:k<s.size
      · obtain ⟨g,rfl⟩:∃ g,gk=g+1:=⟨gk - 1,by omega⟩
        have hkz:(k:Int)<(s.size:Int):=by omega
        have hc:=HCE.out k hlt
        have hkl:k<s.data.toList.length:=by rw [HLN.out];exact hlt
        rw [idxF_at m _ k hkl] at ht
        have hlt2:=(s.data.toList.getD k 0).toNat_lt
        generalize (s.data.toList.getD k 0).toNat=x at *
        by_cases hx1:x<48
        · rw [if_pos (.inl hx1)] at ht
          have hx1z:(x:Int)<48:=by omega
          have HE:=Lib.hid (HFN.out (.returned (.tuple #[.int .i64 0,.bool false])) (by rw [HX.out,ht];rfl))
          clear ht
          go_wp2
          go_ret2
          exact HE.out
        by_cases hx2:57<x
        · rw [if_pos (.inr hx2)] at ht
          have hx1z:¬ (x:Int)<48:=by omega
          have hx2z:(57:Int)<(x:Int):=by omega
          have HE:=Lib.hid (HFN.out (.returned (.tuple #[.int .i64 0,.bool false])) (by rw [HX.out,ht];rfl))
          clear ht
          go_wp2
          go_ret2
          exact HE.out
        rw [if_neg (by omega)] at ht
        have hx1z:¬ (x:Int)<48:=by omega
        have hx2z:¬ (57:Int)<(x:Int):=by omega
        have hw1:-9223372036854775808≤10*(m:Int)∧10*(m:Int)≤9223372036854775807:=by omega
        have hw2:0≤(x:Int) - 48∧(x:Int) - 48≤255:=by omega
        have hw3:-9223372036854775808≤10*(m:Int)+((x:Int) - 48)∧10*(m:Int)+((x:Int) - 48)≤9223372036854775807:=by omega
        have HN:=Lib.hid (show IG s.data.toList s.size wr g (.int .i64 (10*(m:Int)+((x:Int) - 48))) (.int .i64 ((k:Int)+1)) wr from
          ⟨k+1,10*m+(x - 48),by omega,by omega,by congr 1;omega,by rw [Nat.pow_succ];omega,by simp,ht,rfl⟩)
        clear ht
        go_wp2
        go_roundg g
        case rel=>exact HN.out
        case measure=>omega
      · obtain rfl:k=s.size:=by omega
        have hkz:¬ (s.size:Int)<(s.size:Int):=by omega
        have he:s.data.toList.drop s.size=[]:=List.drop_eq_nil_of_le (by rw [HLN.out];exact Nat.le_refl _)
        rw [he,idxF] at ht
        by_cases hmm:most<(m:Int)
        · have HE:=Lib.hid (HFN.out (.returned (.tuple #[.int .i64 0,.bool false])) (by rw [HX.out,ht];simp [hmm,idxV]))
          clear ht he
          go_wp2
          go_ret2
          exact HE.out
        · have HE:=Lib.hid (HFN.out (.returned (.tuple #[.int .i64 (m:Int),.bool true])) (by rw [HX.out,ht];simp [hmm,idxV]))
          clear ht he
          go_wp2
          go_ret2
          exact HE.out
end Go.Proofs.YticgggjfmhiilaaDoor
namespace Go.Proofs.YticgggjfmhiilaaDoor
open Go.Shelf Go.RowKit
def lays166_ren:Go.Shelf.Ren:=⟨fun | 166=>48 | 240=>75 | 276=>105 | n=>n,fun | 0=>0 | 3=>3 | 4=>4 | 5=>5 | 9=>9 | 20=>20 | 37=>65 | 70=>75 | 72=>77 | 75=>79 | 80=>84 | 164=>126 | n=>n,fun | n=>n⟩
theorem lays166:Go.Proofs.Lays.n166 Tryd.prog lays166_ren:={
  mixed:=by kernel_rfl
  f166:=Tryd.func48.trans (congrArg some (by kernel_rfl))
  f240:=Tryd.func75.trans (congrArg some (by kernel_rfl))
  f276:=Tryd.func105.trans (congrArg some (by kernel_rfl))
  t0:=Tryd.underlying0
  a0:=Tryd.isAgg0
  z0:=Tryd.sizeOf0
  v0:=Tryd.zeroValue0
  t3:=Tryd.underlying3
  a3:=Tryd.isAgg3
  z3:=Tryd.sizeOf3
  v3:=Tryd.zeroValue3
  t4:=Tryd.underlying4
  a4:=Tryd.isAgg4
  z4:=Tryd.sizeOf4
  v4:=Tryd.zeroValue4
  t9:=Tryd.underlying9
  a9:=Tryd.isAgg9
  z9:=Tryd.sizeOf9
  v9:=Tryd.zeroValue9
  t20:=Tryd.underlying20
  a20:=Tryd.isAgg20
  z20:=Tryd.sizeOf20
  v20:=Tryd.zeroValue20
  t37:=Tryd.underlying65
  a37:=Tryd.isAgg65
  z37:=Tryd.sizeOf65
  v37:=Tryd.zeroValue65
  t70:=Tryd.underlying75
  a70:=Tryd.isAgg75
  z70:=Tryd.sizeOf75
  v70:=Tryd.zeroValue75
  t72:=Tryd.underlying77
  a72:=Tryd.isAgg77
  z72:=Tryd.sizeOf77
  v72:=Tryd.zeroValue77
  t75:=Tryd.underlying79
  a75:=Tryd.isAgg79
  z75:=Tryd.sizeOf79
  v75:=Tryd.zeroValue79
  t164:=Tryd.underlying126
  a164:=Tryd.isAgg126
  z164:=Tryd.sizeOf126
  v164:=Tryd.zeroValue126 }
theorem extra166:Builder.Extra Tryd.prog lays166_ren:={
  sizeBuilder:=by kernel_rfl
  liesBuilder:=by kernel_rfl
  t5:=Tryd.underlying5
  a5:=Tryd.isAgg5
  z5:=Tryd.sizeOf5
  v5:=Tryd.zeroValue5
  infoByte:=by kernel_rfl
  cellsByte:=by kernel_rfl
  sizeByte:=by kernel_rfl
  neB5:=by decide }
def lays167_ren:Go.Shelf.Ren:=⟨fun | 167=>47 | 240=>75 | 276=>105 | n=>n,fun | 0=>0 | 3=>3 | 4=>4 | 5=>5 | 9=>9 | 20=>20 | 37=>65 | 70=>75 | 72=>77 | 75=>79 | 80=>84 | 164=>126 | n=>n,fun | n=>n⟩
theorem lays167:Go.Proofs.Lays.n167 Tryd.prog lays167_ren:={
  mixed:=by kernel_rfl
  f167:=Tryd.func47.trans (congrArg some (by kernel_rfl))
  f240:=Tryd.func75.trans (congrArg some (by kernel_rfl))
  f276:=Tryd.func105.trans (congrArg some (by kernel_rfl))
  t0:=Tryd.underlying0
  a0:=Tryd.isAgg0
  z0:=Tryd.sizeOf0
  v0:=Tryd.zeroValue0
  t4:=Tryd.underlying4
  a4:=Tryd.isAgg4
  z4:=Tryd.sizeOf4
  v4:=Tryd.zeroValue4
  t5:=Tryd.underlying5
  a5:=Tryd.isAgg5
  z5:=Tryd.sizeOf5
  v5:=Tryd.zeroValue5
  t9:=Tryd.underlying9
  a9:=Tryd.isAgg9
  z9:=Tryd.sizeOf9
  v9:=Tryd.zeroValue9
  t20:=Tryd.underlying20
  a20:=Tryd.isAgg20
  z20:=Tryd.sizeOf20
  v20:=Tryd.zeroValue20
  t37:=Tryd.underlying65
  a37:=Tryd.isAgg65
  z37:=Tryd.sizeOf65
  v37:=Tryd.zeroValue65
  t70:=Tryd.underlying75
  a70:=Tryd.isAgg75
  z70:=Tryd.sizeOf75
  v70:=Tryd.zeroValue75
  t72:=Tryd.underlying77
  a72:=Tryd.isAgg77
  z72:=Tryd.sizeOf77
  v72:=Tryd.zeroValue77
  t75:=Tryd.underlying79
  a75:=Tryd.isAgg79
  z75:=Tryd.sizeOf79
  v75:=Tryd.zeroValue79
  t164:=Tryd.underlying126
  a164:=Tryd.isAgg126
  z164:=Tryd.sizeOf126
  v164:=Tryd.zeroValue126 }
theorem extra167:Builder.Extra Tryd.prog lays167_ren:={
  sizeBuilder:=by kernel_rfl
  liesBuilder:=by kernel_rfl
  t5:=Tryd.underlying5
  a5:=Tryd.isAgg5
  z5:=Tryd.sizeOf5
  v5:=Tryd.zeroValue5
  infoByte:=by kernel_rfl
  cellsByte:=by kernel_rfl
  sizeByte:=by kernel_rfl
  neB5:=by decide }
theorem writeByte_k (B b:Nat) (bs:List Value) (c:Int) (w:World) (h:Lib.IsBuilderF 77 5 B b bs w) (hlen:bs.length+1≤140737488355328) (hBw:B≤w.heap.size) :
    Calls Tryd.prog 47 #[.pointer (some ⟨b,0,none⟩),.int .u8 c] w fun e w'=>e=.returned .nilIface∧(Lib.BuilderAtF 77 5 B b (.pointer (some ⟨b,0,none⟩)) (bs++[.int .u8 c]) w'∧Below B w w'∧Lib.OthersKept 5 (some b) w w') :=
  Any.Builder_WriteByte_k lays167 extra167 B b bs c w h hlen hBw
theorem writeString_k (B b:Nat) (bs:List Value) (s:ByteArray) (w:World) (h:Lib.IsBuilderF 77 5 B b bs w) (hlen:bs.length+s.size≤140737488355328) (hBw:B≤w.heap.size) :
    Calls Tryd.prog 48 #[.pointer (some ⟨b,0,none⟩),.string s] w fun e w'=>e=.returned (.tuple #[.int .i64 s.size,.nilIface])∧(Lib.BuilderAtF 77 5 B b (.pointer (some ⟨b,0,none⟩)) (bs++Lib.strCells s) w'∧Below B w w'∧Lib.OthersKept 5 (some b) w w') :=
  Any.Builder_WriteString_k lays166 extra166 B b bs s w h hlen hBw
end Go.Proofs.YticgggjfmhiilaaDoor
namespace Go.Proofs.YticgggjfmhiilaaDoor
open Go.RowKit Go.Shelf
def ML (w:World):Prop:=∃ m,w.cell? ⟨0,0,none⟩=some (.int .i64 m)
theorem ML.below {w w':World} (h:ML w) (hb:Below w.heap.size w w'):ML w':=by
  obtain ⟨m,hm⟩:=h
  exact ⟨m,by rw [hb.cell (Lib.lt_of_cell hm)];exact hm⟩
def mkB (l:List UInt8):ByteArray:=⟨l.toArray⟩
theorem mkB_list (l:List UInt8):(mkB l).data.toList=l:=by simp [mkB]
theorem mkB_size (l:List UInt8):(mkB l).size=l.length:=by simp [mkB,ByteArray.size]
theorem rep2_len (a b c:UInt8):∀ (n:Nat) (l:List UInt8),l.length≤n→(rep2 a b c l).length≤l.length:=by
  intro n
  induction n with
  | zero=>intro l h;cases l with
    | nil=>simp [rep2]
    | cons x l=>simp at h
  | succ n ih =>
    intro l h
    match l with
    | []=>simp [rep2]
    | [x]=>simp [rep2]
    | x::y::l =>
      simp at h
      rw [rep2]
      split
      · have:=ih l (by omega);simp;omega
      · have:=ih (y::l) (by simp;omega);simp at this ⊢;omega
theorem repAll_any (s old new:ByteArray) (w:World) (hM:ML w) (hs:s.size≤4000000000) (h1:1≤old.size) (h2:new.size≤2) :
    Calls Tryd.prog 49 #[.string s,.string old,.string new] w fun e w'=>e=.returned (.string (mkB (Lib.replaceAll s.data.toList old.data.toList new.data.toList)))∧Below w.heap.size w w':=by
  obtain ⟨m,hm⟩:=hM
  have hle:=Lib.countB_le old h1 s.size s (Nat.le_refl _)
  have h3:=Nat.mul_le_mul hle h2
  exact Tryd.strings_ReplaceAll s old new m w (by omega) hm h1 (by omega)
theorem ptPlain_any (s:ByteArray) (w:World) (hM:ML w) (hs:s.size≤4000000000) :
    Calls Tryd.prog 44 #[.string s] w fun e w'=>e=.returned (.string (mkB (plainL s.data.toList)))∧Below w.heap.size w w':=by
  have K1:=Lib.hid (repAll_any s ⟨#[126,49]⟩ ⟨#[47]⟩ w hM hs (by decide) (by decide))
  have K2:=Lib.hid (fun (t:ByteArray) W (h:Below w.heap.size w W) (ht:t.size≤4000000000)=>repAll_any t ⟨#[126,48]⟩ ⟨#[126]⟩ W (hM.below h) ht (by decide) (by decide))
  have hp:=plain_eq s.data.toList
  have hl:(Lib.replaceAll s.data.toList [126,49] [47]).length≤s.size:=by
    rw [repl_two _ _ _ _ _ (Nat.le_refl _)]
    have:=rep2_len 126 49 47 _ s.data.toList (Nat.le_refl _)
    have:=Lib.size_eq s
    omega
  have HP:=Lib.hid hp
  have HL:=Lib.hid hl
  clear hp hl hM
  go_enter Tryd.func44,Tryd.ntmps44
  go_wp2_with fail
  refine K1.out.mono ?_
  rintro r w1 ⟨rfl,hb1⟩
  have K3:=Lib.hid (K2.out (mkB (Lib.replaceAll s.data.toList [126,49] [47])) w1 hb1 (by rw [mkB_size];have:=HL.out;omega))
  rw [mkB_list] at K3
  have HB:=Lib.hid hb1
  clear hb1 K1 K2 HL
  generalize mkB (Lib.replaceAll s.data.toList [126,49] [47])=t at *
  go_wp2_with fail
  refine K3.out.mono ?_
  rintro r w2 ⟨rfl,hb2⟩
  have HF:=Lib.hid (HB.out.trans (hb2.mono HB.out.size))
  rw [HP.out]
  clear hb2 HB K3 HP
  go_wp2
  go_ret
  exact ⟨rfl,HF.out⟩
theorem spl_size (c:UInt8) (l:List UInt8):∀ t∈spl c l,t.length≤l.length:=by
  induction l with
  | nil=>intro t h;simp [spl] at h;subst h;simp
  | cons b l ih =>
    intro t h
    rw [spl] at h
    by_cases hb:b=c
    · rw [if_pos hb] at h
      rcases List.mem_cons.1 h with rfl | h
      · simp
      · have:=ih t h;simp;omega
    · rw [if_neg hb] at h
      revert h
      split
      · rename_i e;exact absurd e (spl_ne c l)
      · rename_i x m e
        rw [e] at ih
        intro h
        rcases List.mem_cons.1 h with rfl | h
        · have:=ih x (by simp);simp;omega
        · have:=ih t (by simp [h]);simp;omega
def ParseA (s:List UInt8) (w:World) (e:Ending) (w':World):Prop :=
  (∃ x,parsePt s=.inr x∧e=.returned (.tuple #[.slice none 0 0,.int .i64 x])∧Below w.heap.size w w') ∨
  (∃ p ad cap,parsePt s=.inl p∧e=.returned (.tuple #[.slice ad p.length cap,.int .i64 0])∧p.length≤cap∧RdV w' ad (sv (p.map mkB))∧p.length≤64∧Below w.heap.size w w')
def PaI (D:List ByteArray) (g:Nat) (W0:World) (n:Nat) (k:Nat) (i:Value) (wr:World):Prop :=
  ∃ j:Nat,j≤n∧n - j≤k∧i=.int .i64 (j:Int)∧BlkV wr g 9 (sv ((D.take j).map (fun x=>mkB (plainL x.data.toList))++D.drop j))∧But g W0 wr
theorem pa_get (D:List ByteArray) (j:Nat) (hj:j<D.length):(sv ((D.take j).map (fun x=>mkB (plainL x.data.toList))++D.drop j))[j]? = some (.string (D.getD j ByteArray.empty)):=by
  have hl:((D.take j).map (fun x=>mkB (plainL x.data.toList))).length=j:=by simp;omega
  rw [sv_get _ _ (by rw [List.length_append,hl,List.length_drop];omega)]
  congr 2
  rw [List.getD_eq_getElem?_getD,List.getElem?_append_right (by omega),hl,Nat.sub_self,List.getElem?_drop,List.getD_eq_getElem?_getD]
  rfl
theorem pa_set (D:List ByteArray) (j:Nat) (hj:j<D.length):(sv ((D.take j).map (fun x=>mkB (plainL x.data.toList))++D.drop j)).set j (.string (mkB (plainL (D.getD j ByteArray.empty).data.toList)))=sv ((D.take (j+1)).map (fun x=>mkB (plainL x.data.toList))++D.drop (j+1)):=by
  have hl:((D.take j).map (fun x=>mkB (plainL x.data.toList))).length=j:=by simp;omega
  have hd:D.drop j=D.getD j ByteArray.empty::D.drop (j+1):=by rw [List.drop_eq_getElem_cons hj];simp [List.getD,hj]
  have ht:D.take (j+1)=D.take j++[D.getD j ByteArray.empty]:=by rw [List.take_add_one];simp [List.getD,hj]
  unfold sv
  rw [hd,ht,List.map_append,List.set_append_right _ _ (by rw [List.length_map,hl];exact Nat.le_refl _),List.length_map,hl,Nat.sub_self]
  simp
theorem parseP_any (s:ByteArray) (w:World) (hT:UT w) (hM:ML w) (hs:s.size≤1000000000) :
    Calls Tryd.prog 13 #[.string s] w (ParseA s.data.toList w):=by
  have hln:s.data.toList.length=s.size:=by rw [Array.length_toList];rfl
  by_cases h0:s.size=0
  · have e0:=str_nil s h0
    subst e0
    have HF:=Lib.hid (show ParseA [] w (.returned (.tuple #[.slice none 0 0,.int .i64 0])) w from .inr ⟨[],none,0,rfl,rfl,Nat.le_refl _,RdV.nil _ _,by decide,Below.refl _ _⟩)
    clear hln h0 hT hM
    go_enter Tryd.func13,Tryd.ntmps13
    go_wp2
    go_ret2
    exact HF.out
  have e0:=str_ne s h0
  have h0z:0<s.size:=by omega
  obtain ⟨b0,l0,hl0⟩:∃ b l,s.data.toList=b::l:=by
    cases e:s.data.toList with
    | nil=>rw [e] at hln;simp at hln;omega
    | cons b l=>exact ⟨b,l,rfl⟩
  have hg0:s[0]'h0z=b0:=by
    have hs:0<s.data.size:=h0z
    have h1:s.data[0]? = some (s.data[0]'hs):=Array.getElem?_eq_getElem hs
    have h2:s.data.toList[0]? = some b0:=by rw [hl0];rfl
    rw [Array.getElem?_toList,h1] at h2
    exact Option.some.inj h2
  have HPE:Hid (parsePt s.data.toList=if b0 ≠ 47∨validL s.data.toList=false∨tilW false s.data.toList=false then .inr 2 else if 63<s.data.toList.count 47 then .inr 4 else .inl ((spl 47 l0).map plainL)):=Lib.hid (by rw [hl0];rfl)
  have HER:=Lib.hid (fun (x:Int) W (h:parsePt s.data.toList=.inr x) (hb:Below w.heap.size w W)=>(show ParseA s.data.toList w (.returned (.tuple #[.slice none 0 0,.int .i64 x])) W from .inl ⟨x,h,rfl,hb⟩))
  by_cases h47:b0=47
  case neg =>
    have hz:¬ (((s[0]'h0z).toNat:Nat):Int)=47:=by
      rw [hg0];intro e;apply h47;apply UInt8.toNat_inj.1;rw [show (47:UInt8).toNat=47 from rfl];omega
    have HF:=Lib.hid (HER.out 2 w (by rw [HPE.out,if_pos (.inl h47)]) (Below.refl _ _))
    clear hln hl0 hg0 HPE HER h47 hT hM
    go_enter Tryd.func13,Tryd.ntmps13
    go_wp2
    go_ret2
    exact HF.out
  subst h47
  have hz:(((s[0]'h0z).toNat:Nat):Int)=47:=by rw [hg0];rfl
  have KV:=Lib.hid (valid_any s w (by unfold maxLen;omega) hT)
  have KT:=Lib.hid (fun W=>tildes_any s W (by omega))
  cases hv:validL s.data.toList with
  | false =>
    rw [hv] at KV
    have HF:=Lib.hid (fun W h=>HER.out 2 W (by rw [HPE.out,if_pos (.inr (.inl hv))]) h)
    clear hln hl0 hg0 HPE HER hT hM hv KT
    go_enter Tryd.func13,Tryd.ntmps13
    go_wp2_with fail
    refine KV.out.mono ?_
    rintro r w1 ⟨rfl,hb1⟩
    have HF1:=Lib.hid (HF.out _ hb1)
    clear hb1
    go_wp2
    go_ret2
    exact HF1.out
  | true =>
    rw [hv] at KV
    have HV:=Lib.hid hv
    clear hv
    cases ht:tilW false s.data.toList with
    | false =>
      rw [ht] at KT
      have HF:=Lib.hid (fun W h=>HER.out 2 W (by rw [HPE.out,if_pos (.inr (.inr ht))]) h)
      clear hln hl0 hg0 HPE HER hT hM ht
      go_enter Tryd.func13,Tryd.ntmps13
      go_wp2_with fail
      refine KV.out.mono ?_
      rintro r w1 ⟨rfl,hb1⟩
      have HB:=Lib.hid hb1
      clear hb1
      go_wp2_with fail
      refine (KT.out _).mono ?_
      rintro r w2 ⟨rfl,hb2⟩
      have HF1:=Lib.hid (HF.out _ (HB.out.trans (hb2.mono HB.out.size)))
      clear hb2
      go_wp2
      go_ret2
      exact HF1.out
    | true =>
      rw [ht] at KT
      have KC:=Lib.hid (fun W=>Tryd.strings_Count_one s 47 W)
      have hcb:Lib.countByte s.data.toList 47=s.data.toList.count 47:=rfl
      rw [hcb] at KC
      rw [HV.out,ht] at HPE
      have HPE2:=Lib.hid (show parsePt s.data.toList=if 63<s.data.toList.count 47 then .inr 4 else .inl ((spl 47 l0).map plainL) by rw [HPE.out,if_neg (by simp)])
      clear HPE
      by_cases hc:63<s.data.toList.count 47
      · have HF:=Lib.hid (fun W h=>HER.out 4 W (by rw [HPE2.out,if_pos hc]) h)
        have hcz:(63:Int)<((s.data.toList.count 47:Nat):Int):=by omega
        clear hln hl0 hg0 HPE2 HER hT hM ht hc
        generalize s.data.toList.count 47=cn at *
        go_enter Tryd.func13,Tryd.ntmps13
        go_wp2_with fail
        refine KV.out.mono ?_
        rintro r w1 ⟨rfl,hb1⟩
        have HB:=Lib.hid hb1
        clear hb1
        go_wp2_with fail
        refine (KT.out _).mono ?_
        rintro r w2 ⟨rfl,hb2⟩
        have HF1:=Lib.hid (HF.out _ (HB.out.trans (hb2.mono HB.out.size)))
        clear hb2
        go_wp2_with fail
        refine (KC.out _).mono ?_
        rintro r w3 ⟨rfl,rfl⟩
        go_wp2
        go_ret2
        exact HF1.out
      · have hcz:¬ (63:Int)<((s.data.toList.count 47:Nat):Int):=by omega
        obtain ⟨t,htl⟩:∃ t:ByteArray,s.extract 1 s.size=t:=⟨_,rfl⟩
        have htd:t.data.toList=l0:=by
          rw [← htl,Lib.extract_to_end,hl0];rfl
        have hct:l0.count 47+1=s.data.toList.count 47:=by rw [hl0,List.count_cons_self]
        have hcB:Lib.countB t ⟨#[47]⟩=l0.count 47:=by
          show Lib.count t.data.toList [47]=_
          rw [htd,Lib.count_one]
        obtain ⟨D,hD⟩:∃ D,Lib.splitB ⟨#[47]⟩ 0 (l0.count 47) t=D:=⟨_,rfl⟩
        have hDd:D.map (fun x=>x.data.toList)=spl 47 l0:=by
          rw [← hD,Lib.splitB_data,htd,← splitK_one,Lib.count_one]
        have hDl:D.length=l0.count 47+1:=by
          have:=congrArg List.length hDd
          rw [List.length_map,spl_length] at this;exact this
        have hts:t.size≤s.size:=by
          rw [Lib.size_eq t,htd,Lib.size_eq s,hl0];simp
        have KS:=Lib.hid (fun W (h:Below w.heap.size w W)=>(by
          obtain ⟨m,hm⟩:=hM.below h
          have:=Tryd.strings_Split t ⟨#[47]⟩ m W (by omega) hm (by decide)
          rw [hcB,hD] at this
          exact this:Calls Tryd.prog 43 #[.string t,.string ⟨#[47]⟩] W fun e w'=>e=.returned (.slice (some ⟨W.heap.size,0,none⟩) (l0.count 47+1) (l0.count 47+1))∧w'=W.alloc (.cells (D.map Value.string).toArray 9)))
        have hDs:∀ x∈D,x.size≤1000000000:=by
          intro x hx
          have h1:x.data.toList∈spl 47 l0:=by rw [← hDd];exact List.mem_map.2 ⟨x,hx,rfl⟩
          have h2:=spl_size 47 l0 _ h1
          rw [Lib.size_eq x]
          have h3:=Lib.size_eq s
          rw [hl0] at h3;simp at h3;omega
        have KP:=Lib.hid (fun (x:ByteArray) W (hx:x∈D) (h:Below w.heap.size w W)=>ptPlain_any x W (hM.below h) (by have:=hDs x hx;omega))
        have HPF:=Lib.hid (show parsePt s.data.toList=.inl (D.map (fun x=>plainL x.data.toList)) by
          rw [HPE2.out,if_neg hc,← hDd,List.map_map];rfl)
        have hDn:D.length≤63:=by omega
        have HDL:=Lib.hid hDl
        have hx1:(0:Int)≤1∧(1:Int)≤(s.size:Int):=by omega
        clear hln hl0 hg0 HPE2 HER hT hM ht hc htd hct hcB hD hDd hts hDs
        generalize s.data.toList.count 47=cn at *
        generalize l0.count 47+1=dn at *
        go_enter Tryd.func13,Tryd.ntmps13
        go_wp2_with fail
        refine KV.out.mono ?_
        rintro r w1 ⟨rfl,hb1⟩
        have HB:=Lib.hid hb1
        clear hb1
        go_wp2_with fail
        refine (KT.out _).mono ?_
        rintro r w2 ⟨rfl,hb2⟩
        have HB2:=Lib.hid (HB.out.trans (hb2.mono HB.out.size))
        clear hb2
        go_wp2_with fail
        refine (KC.out _).mono ?_
        rintro r w3 ⟨rfl,rfl⟩
        have KS2:=Lib.hid (KS.out w3 HB2.out)
        clear KS
        go_wp2_with fail
        refine KS2.out.mono ?_
        rintro r w4 ⟨rfl,hw4⟩
        have hblk:BlkV w4 w3.heap.size 9 (sv D):=by rw [hw4];exact heap_alloc_new w3 _
        have hbt:But w3.heap.size w3 w4:=by rw [hw4];exact But.of_below ((Below.refl _ _).alloc (Nat.le_refl _) _)
        have HST:=Lib.hid (show PaI D w3.heap.size w3 dn dn (.int .i64 0) w4 from ⟨0,by omega,by omega,rfl,by simpa using hblk,hbt⟩)
        have hsz:=HB2.out.size
        have HBW:=Lib.hid (fun W (h:But w3.heap.size w3 W)=>HB2.out.trans (h.below hsz hsz))
        clear hw4 hblk hbt KS2 KV KT KC HB HB2 hsz
        obtain ⟨g,hg⟩:∃ g,w3.heap.size=g:=⟨_,rfl⟩
        rw [hg] at HST HBW ⊢
        clear hg
        go_wp2
        go_loopg [33] dn (fun k i wr=>PaI D g w3 dn k i wr)
        case atStart=>exact HST.out
        case round =>
          obtain ⟨j,hj,hk,rfl,hblk,hbut⟩:=hrel
          by_cases hlt:j<dn
          · obtain ⟨k,rfl⟩:∃ k,gk=k+1:=⟨gk - 1,by omega⟩
            have hjz:(j:Int)<(dn:Int):=by omega
            have hjD:j<D.length:=by rw [HDL.out];exact hlt
            have hc:=hblk.cell j
            rw [pa_get D j hjD] at hc
            have hf:=hblk.free j
            have HBK:=Lib.hid hblk
            have HBT:=Lib.hid hbut
            have KP1:=Lib.hid (KP.out (D.getD j ByteArray.empty) wr (by simp [List.getD,hjD]) (HBW.out _ hbut))
            have HSE:=Lib.hid (pa_set D j hjD)
            have hgl:=hblk.lt
            clear hblk hbut
            generalize D.getD j ByteArray.empty=x at *
            go_wp2_with fail
            refine KP1.out.mono ?_
            rintro r w5 ⟨rfl,hb5⟩
            have hb6:=HBK.out.below hb5 hgl
            have hc5:w5.cell? ⟨g,j,none⟩=some (.string x):=(hb5.cell (p:=⟨g,j,none⟩) hgl).trans hc
            have hf5:=hb6.free j
            have HN:=Lib.hid (show PaI D g w3 dn k (.int .i64 ((j:Int)+1)) (w5.setCell ⟨g,j,none⟩ (.string (mkB (plainL x.data.toList)))) from
              ⟨j+1,by omega,by omega,rfl,by rw [← HSE.out];exact hb6.set j _,(HBT.out.trans (But.of_below hb5)).setCell j _⟩)
            clear hb6 hb5 HBK HBT KP1 HSE hc hf
            go_wp2
            go_roundg k
            case rel=>exact HN.out
            case measure=>omega
          · obtain rfl:j=dn:=by omega
            have hjz:¬ (j:Int)<(j:Int):=by omega
            rw [← HDL.out,List.take_length,List.drop_length,List.append_nil] at hblk
            have HFN:=Lib.hid (show ParseA s.data.toList w (.returned (.tuple #[.slice (some ⟨g,0,none⟩) j j,.int .i64 0])) wr from
              .inr ⟨D.map (fun x=>plainL x.data.toList),some ⟨g,0,none⟩,j,HPF.out,by rw [List.length_map,HDL.out],by rw [List.length_map,HDL.out];exact Nat.le_refl _,by rw [List.map_map];exact hblk.all,by rw [List.length_map];omega,HBW.out _ hbut⟩)
            clear hblk hbut
            go_wp2
            go_ret2
            exact HFN.out
end Go.Proofs.YticgggjfmhiilaaDoor
