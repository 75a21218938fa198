/- Texts of the claim. -/
import Derived.Test.YtijaphbccnadbaaGreatDoorUo
import Derived.Deep.QuietTactic
import Derived.BigQuiet
import Derived.Defers
import Derived.Recover
import Derived.RegionTactic
import Derived.Test.YtijaphbccnadbaaGreatDoorUl
set_option linter.unusedVariables false
set_option linter.unusedSimpArgs false
set_option maxHeartbeats 4000000
set_option maxRecDepth 100000
namespace Go.Proofs.YtijaphbccnadbaaGreatDoor
open Go.RowKit Go.Shelf Go.Lib
theorem cpL_ok {l:List UInt8} {p:Nat × Nat} (h:cpL l=some p):okR (p.1:Int)=true∧p.2≤10:=by
  unfold cpL at h
  cases hf:fourL l with
  | none=>rw [hf] at h;cases h
  | some r =>
    rw [hf] at h
    have hlt:=fourL_lt hf
    simp only at h
    split at h
    · cases h;rw [okR_iff];simp only;omega
    · split at h
      · cases h
      · cases hl:lowL (l.drop 4) with
        | none=>rw [hl] at h;cases h
        | some low =>
          rw [hl] at h
          have:=lowL_len hl
          simp only [Option.some.injEq] at h
          subst h
          rw [okR_iff];simp only;omega
theorem putS_ok {r:Int} (h:okR r=true):putS r=⟨(enc r).toArray⟩:=by unfold putS;rw [h];rfl
def EsPost (g:Nat) (r:Option (List UInt8 × Nat)) (n:Nat) (w:World) (e:Ending) (w':World):Prop :=
  match r with
  | some p=>e=.returned (.string ⟨p.1.toArray⟩)∧Stepd g ((n+p.2:Nat):Int) w w'
  | none=>ThrowsR g w e w'
theorem index_not (c:UInt8) (h:¬ (c.toNat=34∨c.toNat=92∨c.toNat=98∨c.toNat=102∨c.toNat=110∨c.toNat=114∨c.toNat=116)):Lib.indexByte (⟨#[34,92,98,102,110,114,116]⟩:ByteArray).data.toList c = -1:=by
  have key:∀ k:UInt8,c.toNat ≠ k.toNat→(k == c)=false:=by
    intro k hk;rw [beq_eq_false_iff_ne];intro e;exact hk (by rw [e])
  simp only [Lib.indexByte,key 34 (by intro e;simp at e;omega),key 92 (by intro e;simp at e;omega),key 98 (by intro e;simp at e;omega),key 102 (by intro e;simp at e;omega),key 110 (by intro e;simp at e;omega),key 114 (by intro e;simp at e;omega),key 116 (by intro e;simp at e;omega)]
  rfl
theorem escaped_any (g:Nat) (s:ByteArray) (n:Nat) (w:World) (hs:s.size≤1000000) (hr:Rdr g s n w) (hn:n≤1000000) :
    Calls Tryz.prog 164 #[.pointer (some ⟨g,0,none⟩)] w (EsPost g (escL (tailL s n)) n w):=by
  have HRD:=Lib.hid (fun (k:Nat) W (h:Stepd g (k:Int) w W)=>h.rdr hr)
  by_cases hl:n<s.size
  · have KT:=Lib.hid (take_yes g s n w hs hr hl _ rfl)
    have HT:=Lib.hid (tail_cons hl)
    generalize s[n]'hl=c at *
    rw [HT.out]
    by_cases hu:c.toNat=117
    · have KC:=Lib.hid (fun W (h:Stepd g ((n+1:Nat):Int) w W)=>codePoint_any g s (n+1) W hs (HRD.out _ W h) (by omega))
      have HE:=Lib.hid (escL_u hu (tailL s (n+1)))
      have hc:c=117:=UInt8.toNat_inj.1 hu
      subst hc
      clear hr hu
      cases hp:cpL (tailL s (n+1)) with
      | none =>
        rw [hp] at KC
        have HN:=Lib.hid (show escL (117::tailL s (n+1))=none by rw [HE.out,hp];rfl)
        clear hp
        unfold CpPost at KC
        go_enter Tryz.func164,Tryz.ntmps164
        go_wp2_with fail
        refine KT.out.mono ?_
        rintro x w1 ⟨rfl,h1⟩
        have H1:=Lib.hid h1;clear h1
        go_wp2_with fail
        refine (KC.out w1 H1.out).mono ?_
        rintro x w2 ⟨rfl,q,h2⟩
        have H2:=Lib.hid (H1.out.trans h2);clear h2
        go_wp2
        unfold EsPost
        rw [HN.out]
        exact ⟨rfl,rfl,_,H2.out⟩
      | some p =>
        obtain ⟨r,m⟩:=p
        rw [hp] at KC
        have HN:=Lib.hid (show escL (117::tailL s (n+1))=some (enc (r:Int),m+1) by rw [HE.out,hp];rfl)
        have hok:=(cpL_ok hp).1
        have HP:=Lib.hid (putS_ok hok)
        clear hp hok
        have KP:=Lib.hid (fun W=>put_any (r:Int) W)
        unfold CpPost at KC
        go_enter Tryz.func164,Tryz.ntmps164
        go_wp2_with fail
        refine KT.out.mono ?_
        rintro x w1 ⟨rfl,h1⟩
        have H1:=Lib.hid h1;clear h1
        go_wp2_with fail
        refine (KC.out w1 H1.out).mono ?_
        rintro x w2 ⟨rfl,h2⟩
        have H2:=Lib.hid (H1.out.trans h2);clear h2
        go_wp2_with fail
        refine (KP.out w2).mono ?_
        rintro x w3 ⟨rfl,rfl⟩
        go_wp2
        go_ret
        unfold EsPost
        rw [HN.out,HP.out]
        refine ⟨rfl,?_⟩
        have:=H2.out
        rw [show n+1+m=n+(m+1) by omega] at this
        exact this
    · by_cases h7:c.toNat=47
      · have hc:c=47:=UInt8.toNat_inj.1 h7
        subst hc
        clear hr hu h7
        go_enter Tryz.func164,Tryz.ntmps164
        go_wp2_with fail
        refine KT.out.mono ?_
        rintro x w1 ⟨rfl,h1⟩
        have H1:=Lib.hid h1;clear h1
        go_wp2
        go_ret
        exact ⟨rfl,H1.out⟩
      · have KI:=Lib.hid (fun W=>Tryz.strings_IndexByte ⟨#[34,92,98,102,110,114,116]⟩ ((c.toNat:Nat):Int) W)
        have e:(((c.toNat:Nat):Int)).toNat.toUInt8=c:=by simp
        rw [e] at KI
        have b1:((c.toNat:Int) == 117)=false:=by rw [beq_eq_false_iff_ne];omega
        have b2:((c.toNat:Int) == 47)=false:=by rw [beq_eq_false_iff_ne];omega
        clear e
        by_cases h1:c.toNat=34∨c.toNat=92∨c.toNat=98∨c.toNat=102∨c.toNat=110∨c.toNat=114∨c.toNat=116
        · have hofn:∀ k:Nat,c.toNat=k→c=UInt8.ofNat k:=by intro k hk;subst hk;simp
          rcases h1 with h1 | h1 | h1 | h1 | h1 | h1 | h1
          all_goals
            have h2:=hofn _ h1
            clear h1 hofn hr hu h7 b1 b2
            subst h2
            go_enter Tryz.func164,Tryz.ntmps164
            go_wp2_with fail
            refine KT.out.mono ?_
            rintro x w1 ⟨rfl,h1⟩
            have H1:=Lib.hid h1;clear h1
            go_wp2_with fail
            refine (KI.out w1).mono ?_
            rintro x w2 ⟨rfl,rfl⟩
            dsimp only [Lib.indexByte]
            go_wp2
            go_ret
            exact ⟨rfl,H1.out⟩
        · rw [index_not c h1] at KI
          have HN:=Lib.hid (show escL (c::tailL s (n+1))=none by
            simp only [escL,if_neg hu]
            have:simpleE c.toNat=none:=by
              unfold simpleE
              simp only [show ¬ c.toNat=34 by omega,show ¬ c.toNat=92 by omega,show ¬ c.toNat=47 by omega,show ¬ c.toNat=98 by omega,show ¬ c.toNat=102 by omega,show ¬ c.toNat=110 by omega,show ¬ c.toNat=114 by omega,show ¬ c.toNat=116 by omega,if_false]
            rw [this])
          clear hr hu h7 h1
          go_enter Tryz.func164,Tryz.ntmps164
          go_wp2_with fail
          refine KT.out.mono ?_
          rintro x w1 ⟨rfl,h1⟩
          have H1:=Lib.hid h1;clear h1
          go_wp2_with fail
          refine (KI.out w1).mono ?_
          rintro x w2 ⟨rfl,rfl⟩
          go_wp2
          unfold EsPost
          rw [HN.out]
          exact ⟨rfl,rfl,_,H1.out⟩
  · have KT:=Lib.hid (take_no g s n w hs hr (by omega) (by omega))
    have HN:=Lib.hid (show escL (tailL s n)=none by rw [tailL_end (by omega)];rfl)
    clear hr
    go_enter Tryz.func164,Tryz.ntmps164
    go_wp2_with fail
    refine KT.out.mono ?_
    rintro x w1 ⟨rfl,q,h1⟩
    have H1:=Lib.hid h1;clear h1
    go_wp2
    unfold EsPost
    rw [HN.out]
    exact ⟨rfl,rfl,_,H1.out⟩
def PlPost (g:Nat) (s:ByteArray) (n N:Nat) (ok:Bool) (w:World) (e:Ending) (w':World):Prop :=
  if ok=true then e=.returned (.string (s.extract n (n+N)))∧Stepd g ((n+N:Nat):Int) w w' else ThrowsR g w e w'
theorem below_drewNJ (w:World) (n:Nat):Below w.heap.size w (w.drewN n):=⟨rfl,rfl,rfl,Nat.le_refl _,fun _ _=>rfl⟩
theorem run_list (s:ByteArray) (n N:Nat):(s.extract n (n+N)).data.toList=(tailL s n).take N:=by
  rw [ByteArray.data_extract,Array.toList_extract]
  simp [tailL,List.extract_eq_take_drop]
theorem plain_any (g:Nat) (s:ByteArray) (n:Nat) (w:World) (hs:s.size≤1000000) (hr:Rdr g s n w) (hn:n≤s.size) (hT:UT w) :
    Calls Tryz.prog 162 #[.pointer (some ⟨g,0,none⟩)] w (PlPost g s n (plainN (tailL s n)) (validL ((tailL s n).take (plainN (tailL s n)))) w):=by
  have HRD:=Lib.hid (fun (k:Nat) W (h:Stepd g (k:Int) w W)=>h.rdr hr)
  have HSB:=Lib.hid (fun W (h:Below w.heap.size w W)=>Stepd.of_below hr h)
  have hlt:=hr.lt
  have hst:(s.extract n s.size).data.toList=tailL s n:=extract_list s n
  have hle:=plainN_le (tailL s n)
  rw [tailL_length] at hle
  have KP:=Lib.hid (fun W=>(plainBytes_any (s.extract n s.size) W (by unfold maxLen;rw [ByteArray.size_extract];omega)).mono (R':=fun e w'=>e=.returned (.int .i64 ((plainN (tailL s n):Nat):Int))∧w'=W) fun _ _ h=>by rw [hst] at h;exact ⟨h.1,h.2.symm⟩)
  have KV:=Lib.hid (fun W (h:UT W)=>valid_any (s.extract n (n+plainN (tailL s n))) W (by unfold maxLen;rw [ByteArray.size_extract];omega) h)
  rw [run_list] at KV
  have HUT:=Lib.hid (fun W (h:Below w.heap.size w W)=>hT.below h)
  obtain ⟨c0,c1,f1⟩:=hr
  clear hst hT
  generalize hN:plainN (tailL s n)=N at *
  have HN:=Lib.hid hN;clear hN
  have hsum:IntKind.i64.wrap ((n:Int)+(N:Int))=((n+N:Nat):Int):=by
    rw [IntWalk.i64_in _ (by omega)];rfl
  have hnz:(n:Int)≤(s.size:Int):=by omega
  have hnN:(n:Int)≤((n+N:Nat):Int):=by omega
  have hNz:((n+N:Nat):Int)≤(s.size:Int):=by omega
  have hNz2:n+N≤s.size:=by omega
  cases hv:validL ((tailL s n).take N)
  · rw [hv] at KV
    clear hv
    go_enter Tryz.func162,Tryz.ntmps162
    go_wp2
    go_quiet ((go_at_call 102;exact Calls.quiet_of_same (KP.out _)))
    go_wp2
    go_region
    go_wp2_with fail
    refine (KV.out _ (HUT.out _ (below_drewNJ w _))).mono ?_
    rintro r w1 ⟨rfl,h1⟩
    have HB:=Lib.hid ((below_drewNJ w _).trans h1);clear h1
    go_wp2
    exact ⟨rfl,rfl,_,HSB.out _ HB.out⟩
  · rw [hv] at KV
    clear hv
    go_enter Tryz.func162,Tryz.ntmps162
    go_wp2
    go_quiet ((go_at_call 102;exact Calls.quiet_of_same (KP.out _)))
    go_wp2
    go_region
    go_wp2_with fail
    refine (KV.out _ (HUT.out _ (below_drewNJ w _))).mono ?_
    rintro r w1 ⟨rfl,h1⟩
    have hb:=(below_drewNJ w _).trans h1
    have d1:w1.cell? ⟨g,1,none⟩=some (.int .i64 (n:Int)):=by rw [hb.cell (p:=⟨g,1,none⟩) hlt];exact c1
    have e1:w1.frozen? ⟨g,1,none⟩=false:=by rw [hb.frozen (p:=⟨g,1,none⟩) hlt];exact f1
    have HF:=Lib.hid ((HSB.out _ hb).trans (show Stepd g ((n+N:Nat):Int) w1 (w1.setCell ⟨g,1,none⟩ (.int .i64 ((n+N:Nat):Int))) from Below.refl _ _))
    clear h1 hb c0 c1 f1
    go_wp2
    go_ret
    exact ⟨rfl,HF.out⟩
theorem bld_stepd {T e:TypeId} {B b g:Nat} {k:Int} {bs:List Value} {w w':World} (h:Lib.IsBuilderF T e B b bs w) (hs:Stepd g k w w') (hg:g<B):Lib.IsBuilderF T e B b bs w':=by
  have key:∀ p,Lib.BuilderAtF T e B b p bs w→Lib.BuilderAtF T e B b p bs w':=by
    intro p h
    have hlt:=h.lt
    obtain ⟨hB,v,hv,hown,hne⟩:=h
    refine ⟨hB,v,by rw [hs.block hlt (by omega)];exact hv,⟨hown.1,?_⟩,hne⟩
    rcases hown.2 with h2 | ⟨g',cap,cur,fz,rfl,hB2,hg',rest⟩
    · exact .inl h2
    · refine .inr ⟨g',cap,cur,fz,rfl,hB2,?_,rest⟩
      rw [hs.block (Array.getElem?_eq_some_iff.1 hg').1 (by omega)];exact hg'
  exact h.elim (fun x=>.inl (key _ x)) (fun x=>.inr (key _ x))
theorem Stepd.keep {g:Nat} {k:Int} {w w1 w2:World} (h:Stepd g k w w1) (h2:Below w.heap.size w1 w2):Stepd g k w w2:=Below.trans h h2
theorem escL_xlen {l x:List UInt8} {n:Nat} (h:escL l=some (x,n)):x.length≤4:=by
  unfold escL at h
  split at h
  · cases h
  · split at h
    · split at h
      · cases h
      · split at h
        · cases h;exact enc_le _
        · split at h
          · cases h
          · split at h
            · cases h
            · simp only [Option.some.injEq,Prod.mk.injEq] at h
              rw [← h.1];exact enc_le _
    · split at h
      · cases h
      · cases h;simp
def unqAt (s:ByteArray) (k:Int):Option (List UInt8 × Nat) :=
  if 0≤k∧s.data.toList[k.toNat]? = some 34 then (unqL (tailL s (k.toNat+1))).map fun p=>(p.1,k.toNat+1+p.2) else none
def QdPost (g:Nat) (r:Option (List UInt8 × Nat)) (w:World) (e:Ending) (w':World):Prop :=
  match r with
  | some p=>e=.returned (.string ⟨p.1.toArray⟩)∧Stepd g ((p.2:Nat):Int) w w'
  | none=>ThrowsR g w e w'
def QD (g : Nat) (s : ByteArray) (n0 B b : Nat) (w : World) (k : Nat) (wr : World) : Prop :=
  ∃ n acc, n ≤ s.size ∧ s.size - n ≤ k ∧ n0 ≤ n ∧ acc.length ≤ 4 * n ∧ unqL (tailL s n0) = glue acc (n - n0) (unqL (tailL s n)) ∧ Stepd g ((n : Nat) : Int) w wr ∧
    Lib.IsBuilderF 62 5 B b (Lib.byteCells acc) wr ∧ b < wr.heap.size
theorem unq_plain (s:ByteArray) (n:Nat):unqL (tailL s n)=if validL ((tailL s n).take (plainN (tailL s n)))=true then glue ((tailL s n).take (plainN (tailL s n))) (plainN (tailL s n)) (unqL (tailL s (n+plainN (tailL s n)))) else none:=by
  have hle:=plainN_le (tailL s n)
  have e:tailL s n=(tailL s n).take (plainN (tailL s n))++tailL s (n+plainN (tailL s n)):=by
    rw [← tailL_drop,List.take_append_drop]
  have hlen:((tailL s n).take (plainN (tailL s n))).length=plainN (tailL s n):=by rw [List.length_take];omega
  have:=unqL_run _ ((tailL s n).take (plainN (tailL s n))) (tailL s (n+plainN (tailL s n))) (Nat.le_refl _) (plainN_all _) (by
    by_cases h:plainN (tailL s n)<(tailL s n).length
    · right
      have:=plainN_stop h
      rw [← tailL_drop]
      simp only [List.getD,List.getElem?_drop,Nat.add_zero] at this ⊢
      exact this
    · left
      apply tailL_end
      rw [tailL_length] at h hle
      omega)
  rw [← e,hlen] at this
  exact this
theorem plain_stop {s:ByteArray} {n:Nat} (h:n+plainN (tailL s n)<s.size):plainB (s[n+plainN (tailL s n)]'h)=false:=by
  have:=plainN_stop (l:=tailL s n) (by rw [tailL_length];omega)
  rw [← at_get s _ h]
  simpa [tailL,List.getD,List.getElem?_drop] using this
theorem quoted_any (g:Nat) (s:ByteArray) (k:Int) (w:World) (hs:s.size≤1000000) (hr:Rdr g s k w) (hk:-9223372036854775808≤k∧k≤9223372036854775807) (hT:∀ W j,Stepd g j w W→UT W) :
    Calls Tryz.prog 121 #[.pointer (some ⟨g,0,none⟩)] w (QdPost g (unqAt s k) w):=by
  have HR0:=Lib.hid hr
  have HRD:=Lib.hid (fun (n:Nat) W (h:Stepd g (n:Int) w W)=>h.rdr hr)
  have HUT:=Lib.hid hT
  have hst0:=Stepd.of_below hr ((Below.refl w.heap.size w).alloc (Nat.le_refl _) (.cells #[.pointer none,.slice none 0 0] 62))
  have HST0:=Lib.hid hst0
  have hgl:=hr.lt
  have hrr:=hst0.rdr hr
  clear hst0 hT hr
  by_cases h34:0≤k∧s.data.toList[k.toNat]? = some 34
  · obtain ⟨n,rfl⟩:∃ n:Nat,k=n:=⟨k.toNat,by omega⟩
    have hn34:=h34.2
    rw [Int.toNat_natCast] at hn34
    obtain ⟨hnl,hn2⟩:=get_some hn34
    have HU:=Lib.hid (show unqAt s (n:Int)=(unqL (tailL s (n+1))).map fun p=>(p.1,n+1+p.2) by
      unfold unqAt;rw [if_pos h34,Int.toNat_natCast])
    have KM:=Lib.hid (must_yes g s n _ 34 hs hrr hnl hn2)
    clear h34 hn34 hn2 hrr
    go_enter Tryz.func121,Tryz.ntmps121
    go_wp2_with fail
    refine KM.out.mono ?_
    rintro x w1 ⟨rfl,h1⟩
    have hs1:=HST0.out.trans h1
    have hsz1:=h1.size
    have hb1:Lib.IsBuilderF 62 5 w.heap.size w.heap.size (Lib.byteCells []) w1:=by
      refine bld_stepd (Lib.IsBuilderF.of (.inl ⟨Nat.le_refl _,.slice none 0 0,?_,World.ownsRow_nil _ _ _ _,by simp [Value.ownBlock]⟩)) h1 hgl
      exact heap_alloc_new w _
    have HST:=Lib.hid (show QD g s (n+1) w.heap.size w.heap.size w (s.size+1) w1 from ⟨n+1,[],by omega,by omega,Nat.le_refl _,by simp,by rw [Nat.sub_self,glue_nil],hs1,hb1,by simp at hsz1;omega⟩)
    clear h1 hs1 hb1 hsz1 KM HST0
    generalize hB:w.heap.size=B at *
    have HB:=Lib.hid hB;clear hB
    have HST2:=Lib.hid (fun (j:Int) (W:World) (h:Stepd g j w W)=>(by rw [← HB.out];exact h.size:B≤W.heap.size))
    have hn0:n+1≤s.size:=by omega
    generalize hn1:n+1=n0 at *
    have HN1:=Lib.hid hn1;clear hn1
    go_wp2
    go_loopg [] (s.size+1) (fun k wr=>QD g s n0 B B w k wr)
    case atStart=>exact HST.out
    case round =>
      obtain ⟨m,acc,hm,hk2,hm0,hal,he,hst,hI,hlt⟩:=hrel
      have HE:=Lib.hid he;have HS:=Lib.hid hst;have HI:=Lib.hid hI
      have KP:=Lib.hid (plain_any g s m wr hs (HRD.out m wr hst) hm (HUT.out _ _ hst))
      have hle:=plainN_le (tailL s m)
      rw [tailL_length] at hle
      have hup:=unq_plain s m
      have HST3:=Lib.hid (fun (h:m+plainN (tailL s m)<s.size)=>plain_stop h)
      generalize hN:plainN (tailL s m)=N at *
      have HN:=Lib.hid hN;clear hN
      clear he hst hI
      cases hv:validL ((tailL s m).take N)
      · rw [hv] at KP hup
        have HU2:=Lib.hid (show unqAt s (n:Int)=none by rw [HU.out,HE.out,hup];rfl)
        clear hup hv
        unfold PlPost at KP
        go_wp2_with fail
        refine KP.out.mono ?_
        rintro x w2 ⟨rfl,q,h2⟩
        have H2:=Lib.hid (HS.out.trans h2);clear h2
        go_wp2
        unfold QdPost
        rw [HU2.out]
        exact ⟨rfl,rfl,_,H2.out⟩
      · rw [hv] at KP hup
        simp only [if_true] at hup
        have HUP:=Lib.hid (show unqL (tailL s n0)=glue (acc++(tailL s m).take N) (m - n0+N) (unqL (tailL s (m+N))) by rw [HE.out,hup,glue_glue])
        clear hup hv
        unfold PlPost at KP
        have hrl:(s.extract m (m+N)).data.toList=(tailL s m).take N:=run_list s m N
        have hrs:(s.extract m (m+N)).size=N:=by rw [ByteArray.size_extract];omega
        have KW:=Lib.hid (fun W (h:Stepd g ((m+N:Nat):Int) wr W)=>writeString_k B B (Lib.byteCells acc) (s.extract m (m+N)) W (bld_stepd HI.out h hgl) (by rw [Lib.byteCells_length];omega) (HST2.out _ _ (HS.out.trans h)))
        rw [Lib.strCells_eq,hrl,← Lib.byteCells_append] at KW
        have hal2:(acc++(tailL s m).take N).length≤4*(m+N):=by rw [List.length_append,List.length_take];omega
        clear hrl
        generalize hac:acc++(tailL s m).take N=acc2 at *
        have HAC:=Lib.hid hac;clear hac
        go_wp2_with fail
        refine KP.out.mono ?_
        rintro x w2 ⟨rfl,h2⟩
        have H2:=Lib.hid (HS.out.trans h2)
        have KW2:=Lib.hid (KW.out w2 h2)
        clear h2 KP KW
        go_wp2_with fail
        refine KW2.out.mono ?_
        rintro x w3 ⟨rfl,h3,hb3,_⟩
        have H3:=Lib.hid (H2.out.keep (by rw [HB.out];exact hb3))
        have hI3:Lib.IsBuilderF 62 5 B B (Lib.byteCells acc2) w3:=.inr h3
        have HI3:=Lib.hid hI3
        clear h3 hb3 hI3 KW2
        by_cases hl:m+N<s.size
        · have KT:=Lib.hid (take_yes g s (m+N) w3 hs (HRD.out _ _ H3.out) hl _ rfl)
          have hTL:=Lib.hid (tail_cons hl)
          have hnp:=plainB_not (HST3.out hl)
          clear HST3
          generalize s[m+N]=c at *
          by_cases c34:c.toNat=34
          · have hc:c=34:=UInt8.toNat_inj.1 c34
            subst hc
            have HU2:=Lib.hid (show unqAt s (n:Int)=some (acc2,m+N+1) by
              rw [HU.out,HUP.out,hTL.out,unqL_end rfl]
              simp only [glue,Option.map_some,List.append_nil,Option.some.injEq,Prod.mk.injEq,true_and]
              omega)
            have KS:=Lib.hid (fun W (h:Stepd g ((m+N+1:Nat):Int) w3 W)=>Tryz.Builder_String_any_k B B acc2 W (bld_stepd HI3.out h hgl) (HST2.out _ _ (H3.out.trans h)))
            clear hnp c34
            go_wp2_with fail
            refine KT.out.mono ?_
            rintro x w4 ⟨rfl,h4⟩
            have H4:=Lib.hid (H3.out.trans h4)
            have KS4:=Lib.hid (KS.out w4 h4)
            clear h4 KT KS
            go_wp2_with fail
            refine KS4.out.mono ?_
            rintro x w5 ⟨rfl,_,h5,_⟩
            have H5:=Lib.hid (H4.out.keep (by rw [HB.out];exact h5))
            clear h5
            go_wp2
            go_ret
            unfold QdPost
            rw [HU2.out]
            exact ⟨rfl,H5.out⟩
          · by_cases c92:c.toNat=92
            · have hc:c=92:=UInt8.toNat_inj.1 c92
              subst hc
              have KE:=Lib.hid (fun W (h:Stepd g ((m+N+1:Nat):Int) w W)=>escaped_any g s (m+N+1) W hs (HRD.out _ _ h) (by omega))
              clear hnp c34 c92
              cases hes:escL (tailL s (m+N+1)) with
              | none =>
                have HU2:=Lib.hid (show unqAt s (n:Int)=none by
                  rw [HU.out,HUP.out,hTL.out,unqL_noesc rfl hes];rfl)
                rw [hes] at KE
                unfold EsPost at KE
                clear hes
                go_wp2_with fail
                refine KT.out.mono ?_
                rintro x w4 ⟨rfl,h4⟩
                have H4:=Lib.hid (H3.out.trans h4)
                clear h4 KT
                go_wp2_with fail
                refine (KE.out w4 H4.out).mono ?_
                rintro x w5 ⟨rfl,q,h5⟩
                have H5:=Lib.hid (H4.out.trans h5)
                clear h5
                go_wp2
                unfold QdPost
                rw [HU2.out]
                exact ⟨rfl,rfl,_,H5.out⟩
              | some p =>
                obtain ⟨xs,q⟩:=p
                have hxl:=escL_xlen hes
                have hql:=escL_len hes
                rw [tailL_length] at hql
                have HUP2:=Lib.hid (show unqL (tailL s n0)=glue (acc2++xs) (m+N+1+q - n0) (unqL (tailL s (m+N+1+q))) by
                  rw [HUP.out,hTL.out,unqL_esc rfl hes,glue_glue,tailL_drop]
                  congr 1;omega)
                rw [hes] at KE
                unfold EsPost at KE
                clear hes
                have hxs:(⟨xs.toArray⟩:ByteArray).size≤4:=by rw [arr_size];exact hxl
                have KW4:=Lib.hid (fun W (h:Lib.IsBuilderF 62 5 B B (Lib.byteCells acc2) W) (h2:B≤W.heap.size)=>writeString_k B B (Lib.byteCells acc2) ⟨xs.toArray⟩ W h (by rw [Lib.byteCells_length];omega) h2)
                have hxc:Lib.byteCells acc2++Lib.strCells ⟨xs.toArray⟩=Lib.byteCells (acc2++xs):=by rw [Lib.strCells_eq,← Lib.byteCells_append]
                rw [hxc] at KW4
                clear hxc
                have hal3:(acc2++xs).length≤4*(m+N+1+q):=by rw [List.length_append];omega
                generalize acc2++xs=acc3 at *
                obtain ⟨k3,rfl⟩:∃ k,gk=k+1:=⟨gk - 1,by omega⟩
                go_wp2_with fail
                refine KT.out.mono ?_
                rintro x w4 ⟨rfl,h4⟩
                have H4:=Lib.hid (H3.out.trans h4)
                have HI4:=Lib.hid (bld_stepd HI3.out h4 hgl)
                clear h4 KT
                go_wp2_with fail
                refine (KE.out w4 H4.out).mono ?_
                rintro x w5 ⟨rfl,h5⟩
                have H5:=Lib.hid (H4.out.trans h5)
                have KW5:=Lib.hid (KW4.out w5 (bld_stepd HI4.out h5 hgl) (HST2.out _ _ H5.out))
                clear h5 KE KW4
                go_wp2_with fail
                refine KW5.out.mono ?_
                rintro x w6 ⟨rfl,h6,hb6,_⟩
                have H6:=Lib.hid (H5.out.keep (by rw [HB.out];exact hb6))
                have hI6:Lib.IsBuilderF 62 5 B B (Lib.byteCells acc3) w6:=.inr h6
                have hlt6:=h6.lt
                have HF:=Lib.hid (show QD g s n0 B B w k3 w6 from ⟨m+N+1+q,acc3,by omega,by omega,by omega,hal3,HUP2.out,H6.out,hI6,hlt6⟩)
                clear h6 hb6 hI6 hlt6 KW5
                go_wp2
                go_roundg k3
                case rel=>exact HF.out
                case measure=>omega
            · have c32:c.toNat<32:=by omega
              have b1:((c.toNat:Int) == 34)=false:=by rw [beq_eq_false_iff_ne];omega
              have b2:((c.toNat:Int) == 92)=false:=by rw [beq_eq_false_iff_ne];omega
              have HU2:=Lib.hid (show unqAt s (n:Int)=none by
                rw [HU.out,HUP.out,hTL.out,unqL_low c32];rfl)
              clear hnp c34 c92 c32
              go_wp2_with fail
              refine KT.out.mono ?_
              rintro x w4 ⟨rfl,h4⟩
              have H4:=Lib.hid (H3.out.trans h4)
              clear h4 KT
              go_wp2
              unfold QdPost
              rw [HU2.out]
              exact ⟨rfl,rfl,_,H4.out⟩
        · have HU2:=Lib.hid (show unqAt s (n:Int)=none by
            rw [HU.out,HUP.out,tailL_end (by omega)];rfl)
          have KT:=Lib.hid (take_no g s ((m+N:Nat):Int) w3 hs (HRD.out _ _ H3.out) (by omega) (by omega))
          go_wp2_with fail
          refine KT.out.mono ?_
          rintro x w4 ⟨rfl,q,h4⟩
          have H4:=Lib.hid (H3.out.trans h4)
          clear h4 KT
          go_wp2
          unfold QdPost
          rw [HU2.out]
          exact ⟨rfl,rfl,_,H4.out⟩
  · have HU:=Lib.hid (show unqAt s k=none by unfold unqAt;rw [if_neg h34])
    have KM:=Lib.hid (must_no g s k _ 34 hs hrr hk (by
      intro m hm h;apply h34;subst hm
      exact ⟨by omega,by rw [Int.toNat_natCast];exact h⟩))
    clear h34 hrr
    go_enter Tryz.func121,Tryz.ntmps121
    go_wp2_with fail
    refine KM.out.mono ?_
    rintro x w1 ⟨rfl,q,h1⟩
    have H1:=Lib.hid (HST0.out.trans h1)
    clear h1
    go_wp2
    unfold QdPost
    rw [HU.out]
    exact ⟨rfl,rfl,_,H1.out⟩
theorem assert_errnoJ (x:Int) (W:World):(Instr.typeAssert (.iface 31 (.int .i64 x)) 20 31 false).run Tryz.prog W=.ok (.int .i64 x) W:=by kernel_rfl
theorem catch_thrownJ (g h i : Nat) (v0 v1 v2 : Value) (x : Int) (older : List PanicEntry) (w : World) (n1 : g ≠ h) (n2 : g ≠ i) (n3 : h ≠ i)
    (c0 : w.cell? ⟨g, 0, none⟩ = some v0) (c1 : w.cell? ⟨h, 0, none⟩ = some v1) (c2 : w.cell? ⟨i, 0, none⟩ = some v2)
    (f0 : w.frozen? ⟨g, 0, none⟩ = false) (f1 : w.frozen? ⟨h, 0, none⟩ = false) (f2 : w.frozen? ⟨i, 0, none⟩ = false) :
    CallsD Tryz.prog 120 #[.pointer (some ⟨g, 0, none⟩), .pointer (some ⟨h, 0, none⟩), .pointer (some ⟨i, 0, none⟩)] (.panicking ({ v := .iface 31 (.int .i64 x), recovered := false } :: older)) w fun e u' w' =>
      e = .returned (.tuple #[]) ∧ u' = .panicking ({ v := .iface 31 (.int .i64 x), recovered := true } :: older) ∧
        w' = (((w.setCell ⟨g, 0, none⟩ (.string ⟨#[]⟩)).setCell ⟨h, 0, none⟩ (.int .i64 0)).setCell ⟨i, 0, none⟩ (.int .i64 x)).drew := by
  refine callsD_of_wpS Tryz.func120 rfl fun c₀ cs hu => ?_
  apply wpS_seq
  apply wpS_region
  simp [wpOpsS, go_sem, recoverD, hu, Tryz.ntmps120, Exit.thenS]
  apply wpS_seq
  apply wpS_region
  simp [wpOpsS, go_sem, Exit.thenS]
  refine wpS_cond (t := true) (by simp [Act.eval, Array.replicate]) ?_
  simp only [if_true]
  refine wpS_of_wp ?_
  change Code.wp _ _ _ { tmps := #[.pointer (some ⟨g, 0, none⟩), .pointer (some ⟨h, 0, none⟩), .pointer (some ⟨i, 0, none⟩), .iface 31 (.int .i64 x), .iface 31 (.int .i64 x), .iface 31 (.int .i64 x), .bool true, undef, undef], defers := [] } w
  have hne1 : ¬ h = g := fun hh => n1 hh.symm
  have hne2 : ¬ i = g := fun hh => n2 hh.symm
  have hne3 : ¬ i = h := fun hh => n3 hh.symm
  have hta := assert_errnoJ x
  go_region
  exact ⟨rfl, _, rfl, .tuple #[], by simp [results, Tryz.results120, go_sem], rfl, rfl, rfl⟩
theorem catch_idleJ (p q r:Addr) (w:World) :
    CallsD Tryz.prog 120 #[.pointer (some p),.pointer (some q),.pointer (some r)] .returning w fun e u' w'=>e=.returned (.tuple #[])∧u'=.returning∧w'=w:=by
  refine callsD_of_wpS Tryz.func120 rfl fun c₀ cs hu=>?_
  apply wpS_seq
  apply wpS_region
  simp [wpOpsS,go_sem,recoverD,hu,Tryz.ntmps120,Exit.thenS]
  apply wpS_seq
  apply wpS_region
  simp [wpOpsS,go_sem,Exit.thenS]
  refine wpS_cond (t:=false) (by simp [Act.eval,Array.replicate]) ?_
  simp only [Bool.false_eq_true,if_false]
  refine wpS_of_wp (wp_skip ?_)
  cases c₀
  simp_all [bodyPostS,results,Tryz.results120]
theorem four_allocs (w:World) (o0 o1 o2 o3:Obj):let W:=(((w.alloc o0).alloc o1).alloc o2).alloc o3
    W.heap[w.heap.size]? = some o0∧W.heap[w.heap.size+1]? = some o1∧W.heap[w.heap.size+1+1]? = some o2∧W.heap[w.heap.size+1+1+1]? = some o3:=by
  intro W
  show ((((w.heap.push o0).push o1).push o2).push o3)[w.heap.size]? = _∧((((w.heap.push o0).push o1).push o2).push o3)[w.heap.size+1]? = _∧((((w.heap.push o0).push o1).push o2).push o3)[w.heap.size+1+1]? = _∧((((w.heap.push o0).push o1).push o2).push o3)[w.heap.size+1+1+1]? = _
  simp only [Array.getElem?_push,Array.size_push]
  refine ⟨?_,?_,?_,?_⟩
  · rw [if_neg (by omega),if_neg (by omega),if_neg (by omega),if_pos trivial]
  · rw [if_neg (by omega),if_neg (by omega),if_pos trivial]
  · rw [if_neg (by omega),if_pos trivial]
  · rw [if_pos trivial]
theorem cell_heap {w:World} {b i:Nat} {c:Array Value} {t:TypeId} {v:Value} (h:w.heap[b]? = some (.cells c t)) (hv:c[i]? = some v):w.cell? ⟨b,i,none⟩=some v:=by
  simp [World.cell?,h,hv]
theorem frozen_heap {w:World} {b i:Nat} {c:Array Value} {t:TypeId} (h:w.heap[b]? = some (.cells c t)):w.frozen? ⟨b,i,none⟩=false:=by
  simp [World.frozen?,h]
def UqPost (r:Option (List UInt8 × Nat)) (w:World) (e:Ending) (w':World):Prop :=
  match r with
  | some p=>e=.returned (.tuple #[.string ⟨p.1.toArray⟩,.int .i64 ((p.2:Nat):Int),.int .i64 0])∧Below w.heap.size w w'
  | none=>e=.returned (.tuple #[.string ⟨#[]⟩,.int .i64 0,.int .i64 2])∧Below w.heap.size w w'
theorem unquote_any (s:ByteArray) (k:Int) (w:World) (hs:s.size≤1000000) (hk:-9223372036854775808≤k∧k≤9223372036854775807) (hT:UT w) :
    Calls Tryz.prog 75 #[.string s,.int .i64 k] w (UqPost (unqAt s k) w):=by
  have hmf:∀ (fn:Fn) (first cap:Array Value) (w:World),(Instr.makeFunc fn first cap).run Tryz.prog w=.ok (.func fn first cap) w:=fun _ _ _ _=>rfl
  generalize hW:(((w.alloc (.cells #[.string ⟨#[]⟩] 9)).alloc (.cells #[.int .i64 0] 3)).alloc (.cells #[.int .i64 0] 31)).alloc (.cells #[.string s,.int .i64 k] 141)=W
  have hb0:Below w.heap.size w W:=by
    rw [← hW];exact ((((Below.refl _ _).alloc (Nat.le_refl _) _).alloc (by simp) _).alloc (by simp;omega) _).alloc (by simp;omega) _
  have hsz:W.heap.size=w.heap.size+4:=by rw [← hW];simp
  obtain ⟨q0,q1,q2,q3⟩:=four_allocs w (.cells #[.string ⟨#[]⟩] 9) (.cells #[.int .i64 0] 3) (.cells #[.int .i64 0] 31) (.cells #[.string s,.int .i64 k] 141)
  rw [hW] at q0 q1 q2 q3
  have hr:Rdr (w.heap.size+1+1+1) s k W:=⟨cell_heap q3 rfl,cell_heap q3 rfl,frozen_heap q3⟩
  have Q0:=Lib.hid q0;have Q1:=Lib.hid q1;have Q2:=Lib.hid q2
  clear q0 q1 q2 q3
  have KQ:=Lib.hid (quoted_any (w.heap.size+1+1+1) s k W hs hr hk (fun W' j h=>hT.below (hb0.trans (h.below (by omega) (by omega)))))
  have hW2:=Lib.hid hW
  clear hW hT
  go_enter_defers Tryz.func75,Tryz.ntmps75
  go_wp2_with fail
  rw [hW2.out]
  cases hu:unqAt s k with
  | none =>
    rw [hu] at KQ
    clear hu
    unfold QdPost at KQ
    refine KQ.out.mono ?_
    rintro x w1 ⟨rfl,j,h1⟩
    have p0:=h1.block (i:=w.heap.size) (by omega) (by omega)
    have p1:=h1.block (i:=w.heap.size+1) (by omega) (by omega)
    have p2:=h1.block (i:=w.heap.size+1+1) (by omega) (by omega)
    rw [Q0.out] at p0;rw [Q1.out] at p1;rw [Q2.out] at p2
    have hb1:=Lib.hid (hb0.trans (h1.below (B:=w.heap.size) (by omega) (by omega)))
    have c0:w1.cell? ⟨w.heap.size,0,none⟩=some (.string ⟨#[]⟩):=cell_heap p0 rfl
    have c1:w1.cell? ⟨w.heap.size+1,0,none⟩=some (.int .i64 0):=cell_heap p1 rfl
    have c2:w1.cell? ⟨w.heap.size+1+1,0,none⟩=some (.int .i64 0):=cell_heap p2 rfl
    have f0:=frozen_heap (i:=0) p0
    have f1:=frozen_heap (i:=0) p1
    have f2:=frozen_heap (i:=0) p2
    clear h1 p0 p1 p2 KQ
    go_wp2
    refine leaves_cons (f:=120) (args:=#[.pointer (some ⟨w.heap.size,0,none⟩),.pointer (some ⟨w.heap.size+1,0,none⟩),.pointer (some ⟨w.heap.size+1+1,0,none⟩)]) (by simp) (by simp [go_sem]) ?_
    refine (catch_thrownJ w.heap.size (w.heap.size+1) (w.heap.size+1+1) _ _ _ 2 [] _ (by omega) (by omega) (by omega) c0 c1 c2 f0 f1 f2).mono ?_
    rintro e u' w'' ⟨rfl,rfl,rfl⟩
    simp [Leaves,settle,results,Tryz.results75,go_sem,c0,c1,c2]
    exact ⟨rfl,(((hb1.out.setCell (by simp) _).setCell (by simp) _).setCell (by simp;omega) _).drew⟩
  | some p =>
    obtain ⟨l,m⟩:=p
    rw [hu] at KQ
    have HU:=Lib.hid hu
    clear hu
    unfold QdPost at KQ
    refine KQ.out.mono ?_
    rintro x w1 ⟨rfl,h1⟩
    have p0:=h1.block (i:=w.heap.size) (by omega) (by omega)
    have p1:=h1.block (i:=w.heap.size+1) (by omega) (by omega)
    have p2:=h1.block (i:=w.heap.size+1+1) (by omega) (by omega)
    rw [Q0.out] at p0;rw [Q1.out] at p1;rw [Q2.out] at p2
    have hb1:=Lib.hid (hb0.trans (h1.below (B:=w.heap.size) (by omega) (by omega)))
    have hr1:=h1.rdr hr
    have c0:w1.cell? ⟨w.heap.size,0,none⟩=some (.string ⟨#[]⟩):=cell_heap p0 rfl
    have c1:w1.cell? ⟨w.heap.size+1,0,none⟩=some (.int .i64 0):=cell_heap p1 rfl
    have c2:w1.cell? ⟨w.heap.size+1+1,0,none⟩=some (.int .i64 0):=cell_heap p2 rfl
    have c3:=hr1.c1
    have f0:=frozen_heap (i:=0) p0
    have f1:=frozen_heap (i:=0) p1
    have f2:=frozen_heap (i:=0) p2
    clear h1 p0 p1 p2 KQ hr1 hr
    go_wp2
    go_region
    go_wp2
    refine leaves_cons (f:=120) (args:=#[.pointer (some ⟨w.heap.size,0,none⟩),.pointer (some ⟨w.heap.size+1,0,none⟩),.pointer (some ⟨w.heap.size+1+1,0,none⟩)]) (by simp) (by simp [go_sem]) ?_
    refine (catch_idleJ _ _ _ _).mono ?_
    rintro e u' w'' ⟨rfl,rfl,rfl⟩
    simp [Leaves,settle,results,Tryz.results75,go_sem,c0,c1,c2]
    first | rw [HU.out] | skip
    exact ⟨rfl,((((hb1.out.setCell (by simp) _).setCell (by simp) _).setCell (by simp) _).setCell (by simp;omega) _).drew⟩
def textL (l:List UInt8):(List UInt8 × List UInt8) ⊕ Int :=
  match unqAt ⟨l.toArray⟩ 0 with
  | none=>.inr 2
  | some (t,k)=>if t.length > 2000 then .inr 4 else .inl (t,l.drop k)
theorem unqF_le:∀ (f:Nat) (l:List UInt8) (p:List UInt8 × Nat),unqF f l=some p→p.2≤l.length:=by
  intro f
  induction f with
  | zero=>intro l p h;cases h
  | succ f ih =>
    intro l p h
    cases l with
    | nil=>cases h
    | cons c l =>
      have key:∀ (x:List UInt8) (n:Nat) (r:List UInt8),glue x n (unqF f r)=some p→n+r.length≤(c::l).length→p.2≤(c::l).length:=by
        intro x n r hg hn
        unfold glue at hg
        obtain ⟨q,hq,rfl⟩:=Option.map_eq_some_iff.1 hg
        have:=ih _ _ hq
        simp only;omega
      have hrun:=runeL_width (c::l) (by simp)
      unfold unqF at h
      simp only at h
      split at h
      · simp only [Option.some.injEq] at h;subst h;simp
      · split at h
        · cases he:escL l with
          | none=>rw [he] at h;cases h
          | some y =>
            obtain ⟨x,n⟩:=y
            rw [he] at h
            simp only at h
            have:=escL_len he
            exact key _ _ _ h (by simp only [List.length_drop,List.length_cons];omega)
        · split at h
          · cases h
          · exact key _ _ _ h (by rw [List.length_drop];omega)
theorem unqAt_le {s:ByteArray} {k:Int} {p:List UInt8 × Nat} (h:unqAt s k=some p):p.2≤s.size:=by
  unfold unqAt at h
  split at h
  · rename_i h0
    obtain ⟨q,hq,rfl⟩:=Option.map_eq_some_iff.1 h
    have:=unqF_le _ _ q (by unfold unqL at hq;exact hq)
    rw [tailL_length] at this
    have h2:=(List.getElem?_eq_some_iff.1 h0.2).1
    simp at h2
    simp only;omega
  · cases h
def TextJ (g:Nat) (l:List UInt8) (d n:Nat) (w:World) (e:Ending) (w':World):Prop :=
  match textL l with
  | .inl (t,r)=>e=.returned (.string ⟨t.toArray⟩)∧StJ g r d n w w'
  | .inr x=>ThrowJ x g w e w'
theorem TextJ.yes {g:Nat} {l t r:List UInt8} {d n:Nat} {w w':World} {e:Ending} (h:textL l=.inl (t,r)) (he:e=.returned (.string ⟨t.toArray⟩)) (hs:StJ g r d n w w'):TextJ g l d n w e w':=by
  unfold TextJ;rw [h];exact ⟨he,hs⟩
theorem TextJ.no {g:Nat} {l:List UInt8} {d n:Nat} {w w':World} {e:Ending} {x:Int} (h:textL l=.inr x) (hs:ThrowJ x g w e w'):TextJ g l d n w e w':=by
  unfold TextJ;rw [h];exact hs
theorem str_drop (l:List UInt8) (k:Nat) (hk:k≤l.length):({ data:=l.toArray }:ByteArray).extract k ({ data:=l.toArray }:ByteArray).size = { data:=(l.drop k).toArray }:=by
  apply ByteArray.ext
  apply Array.ext'
  simp [ByteArray.data_extract,ByteArray.size,List.take_of_length_le]
theorem str_size (l:List UInt8):({ data:=l.toArray }:ByteArray).size=l.length:=by simp [ByteArray.size]
theorem text_anyj (g:Nat) (l:List UInt8) (d n:Nat) (w:World) (hl:l.length≤1000000) (hr:RdJ g l d n w) (hT:UT w) :
    Calls Tryz.prog 48 #[.pointer (some ⟨g,0,none⟩)] w (TextJ g l d n w):=by
  have K:=Lib.hid (unquote_any ⟨l.toArray⟩ 0 w (by rw [str_size];exact hl) (by decide) hT)
  have H0:=Lib.hid hr
  have c0:=hr.c0
  have f0:=hr.fz 0
  clear hr hT
  go_enter Tryz.func48,Tryz.ntmps48
  go_wp2_with fail
  refine K.out.mono ?_
  intro r w1 hp
  clear c0 f0 K
  cases hq:unqAt ⟨l.toArray⟩ 0 with
  | none =>
    rw [hq] at hp
    obtain ⟨rfl,hb⟩:=hp
    have HB:=Lib.hid (StJ.of_below H0.out hb)
    have HT:Hid (textL l=.inr 2):=Lib.hid (by unfold textL;rw [hq])
    clear hb hq
    go_wp2
    exact ⟨rfl,TextJ.no HT.out ⟨rfl,_,_,_,HB.out⟩⟩
  | some p =>
    obtain ⟨t,k⟩:=p
    rw [hq] at hp
    obtain ⟨rfl,hb⟩:=hp
    have hk:=unqAt_le hq
    rw [str_size] at hk
    have hk:k≤l.length:=hk
    have HB:=Lib.hid (StJ.of_below H0.out hb)
    have hts:=str_size t
    by_cases h2:t.length > 2000
    · have HT:Hid (textL l=.inr 4):=Lib.hid (by unfold textL;rw [hq];simp [h2])
      have b2:decide ((2000:Int)<(t.length:Int))=true:=decide_eq_true (by omega)
      clear hb hq h2
      generalize ({ data:=t.toArray }:ByteArray)=ts at *
      go_wp2
      exact ⟨rfl,TextJ.no HT.out ⟨rfl,_,_,_,HB.out⟩⟩
    · have HT:Hid (textL l=.inl (t,l.drop k)):=Lib.hid (by unfold textL;rw [hq];simp [h2])
      have b2:decide ((2000:Int)<(t.length:Int))=false:=decide_eq_false (by omega)
      have c0:=HB.out.rd.c0
      have f0:=HB.out.rd.fz 0
      have hsz:=str_size l
      have hext:=str_drop l k hk
      rw [hsz] at hext
      have HL:=Lib.hid (HB.out.left (l':=l.drop k))
      clear hb hq h2
      generalize hts':({ data:=t.toArray }:ByteArray)=ts at *
      generalize ({ data:=l.toArray }:ByteArray)=s at *
      clear HB H0
      have HTS:=Lib.hid hts';clear hts'
      go_wp2
      go_ret
      refine TextJ.yes HT.out (by rw [HTS.out];rfl) ?_
      exact HL.out
def loopL {σ:Type} (P:σ→List UInt8→Nat→(σ × List UInt8 × Nat) ⊕ Int) (c:UInt8) (d:Nat):Nat→Nat→σ→List UInt8→Nat→(σ × List UInt8 × Nat) ⊕ Int
  | 0,_,_,_,_=>.inr 2
  | f+1,many,s,l,n =>
    if nextL l=c then .inl (s,(skipL l).tail,n)
    else if 0<many∧nextL l ≠ 44 then .inr 2
    else if many<300∧d≤64∧n<2000 then
      match P s (if 0<many then (skipL l).tail else skipL l) (n+1) with
      | .inr x=>.inr x
      | .inl r=>loopL P c d f (many+1) r.1 r.2.1 r.2.2
    else .inr 4
theorem loopL_end {σ:Type} {P:σ→List UInt8→Nat→(σ × List UInt8 × Nat) ⊕ Int} {c:UInt8} {d f many n:Nat} {s:σ} {l:List UInt8} (h:nextL l=c):loopL P c d (f+1) many s l n=.inl (s,(skipL l).tail,n):=by
  rw [loopL,if_pos h]
theorem loopL_comma {σ:Type} {P:σ→List UInt8→Nat→(σ × List UInt8 × Nat) ⊕ Int} {c:UInt8} {d f many n:Nat} {s:σ} {l:List UInt8} (h:nextL l ≠ c) (h2:0<many∧nextL l ≠ 44):loopL P c d (f+1) many s l n=.inr 2:=by
  rw [loopL,if_neg h,if_pos h2]
theorem loopL_limit {σ:Type} {P:σ→List UInt8→Nat→(σ × List UInt8 × Nat) ⊕ Int} {c:UInt8} {d f many n:Nat} {s:σ} {l:List UInt8} (h:nextL l ≠ c) (h2:¬ (0<many∧nextL l ≠ 44)) (h3:¬ (many<300∧d≤64∧n<2000)):loopL P c d (f+1) many s l n=.inr 4:=by
  rw [loopL,if_neg h,if_neg h2,if_neg h3]
theorem loopL_bad {σ:Type} {P:σ→List UInt8→Nat→(σ × List UInt8 × Nat) ⊕ Int} {c:UInt8} {d f many n:Nat} {s:σ} {l:List UInt8} {x:Int} (h:nextL l ≠ c) (h2:¬ (0<many∧nextL l ≠ 44)) (h3:many<300∧d≤64∧n<2000) (h4:P s (if 0<many then (skipL l).tail else skipL l) (n+1)=.inr x):loopL P c d (f+1) many s l n=.inr x:=by
  rw [loopL,if_neg h,if_neg h2,if_pos h3,h4]
theorem loopL_on {σ:Type} {P:σ→List UInt8→Nat→(σ × List UInt8 × Nat) ⊕ Int} {c:UInt8} {d f many n:Nat} {s:σ} {l:List UInt8} {r:σ × List UInt8 × Nat} (h:nextL l ≠ c) (h2:¬ (0<many∧nextL l ≠ 44)) (h3:many<300∧d≤64∧n<2000) (h4:P s (if 0<many then (skipL l).tail else skipL l) (n+1)=.inl r):loopL P c d (f+1) many s l n=loopL P c d f (many+1) r.1 r.2.1 r.2.2:=by
  rw [loopL,if_neg h,if_neg h2,if_pos h3,h4]
theorem left_le (b:Prop) [Decidable b] (l:List UInt8):(if b then (skipL l).tail else skipL l).length≤l.length:=by
  have:=skipL_len l
  split
  · rw [List.length_tail];omega
  · exact this
def PartJ {σ:Type} (g d:Nat) (I:σ→World→Prop) (J:World→Prop) (r:(σ × List UInt8 × Nat) ⊕ Int) (e:Ending) (w':World):Prop :=
  match r with
  | .inl (s,l,n)=>e=.returned (.tuple #[])∧I s w'∧RdJ g l d n w'
  | .inr x=>e=.panicked [{ v:=.iface 31 (.int .i64 x),recovered:=false }]∧J w'
end Go.Proofs.YtijaphbccnadbaaGreatDoor
