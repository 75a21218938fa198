/- Texts of the claim. -/
import Derived.Test.YtijaphbccnadbaaGreatDoorUp
set_option linter.unusedVariables false
set_option linter.unusedSimpArgs false
set_option maxHeartbeats 4000000
set_option maxRecDepth 100000
namespace Go.Proofs.YtijaphbccnadbaaGreatDoor
open Go.RowKit Go.Shelf Go.Lib
theorem nextL_skip (l:List UInt8):nextL (skipL l)=nextL l:=by unfold nextL;rw [skipL_skipL]
def PRelJ {σ:Type} (ln:σ→Nat) (g d:Nat) (c:UInt8) (I:σ→World→Prop) (P:σ→List UInt8→Nat→(σ × List UInt8 × Nat) ⊕ Int) (R:(σ × List UInt8 × Nat) ⊕ Int) (k:Nat) (v:Value) (wr:World):Prop :=
  ∃ (many:Nat) (s:σ) (l:List UInt8) (n:Nat),v=.int .i64 (many:Int)∧many≤300∧ln s=many∧l.length<k∧l.length≤1000000∧n≤2000∧I s wr∧RdJ g l d n wr∧loopL P c d k many s l n=R
theorem PartJ.yes {σ:Type} {g d:Nat} {I:σ→World→Prop} {J:World→Prop} {r:(σ × List UInt8 × Nat) ⊕ Int} {s:σ} {l:List UInt8} {n:Nat} {w':World} {e:Ending} (h:r=.inl (s,l,n)) (he:e=.returned (.tuple #[])) (hi:I s w') (hr:RdJ g l d n w'):PartJ g d I J r e w':=by
  subst h;exact ⟨he,hi,hr⟩
theorem PartJ.no {σ:Type} {g d:Nat} {I:σ→World→Prop} {J:World→Prop} {r:(σ × List UInt8 × Nat) ⊕ Int} {x:Int} {w':World} {e:Ending} (h:r=.inr x) (he:e=.panicked [{ v:=.iface 31 (.int .i64 x),recovered:=false }]) (hj:J w'):PartJ g d I J r e w':=by
  subst h;exact ⟨he,hj⟩
theorem parts_anyj {σ:Type} (ln:σ→Nat) (g d fid:Nat) (caps:Array Value) (c0 c:UInt8) (h0:c0 ≠ 0) (hc:c ≠ 0) (I:σ→World→Prop) (J:World→Prop) (P:σ→List UInt8→Nat→(σ × List UInt8 × Nat) ⊕ Int)
    (hI:∀ s W W' l d n,I s W→StJ g l d n W W'→I s W') (hJ:∀ s W,I s W→J W)
    (hP:∀ s W l n,I s W→ln s<300→l.length≤1000000→n≤2000→d≤64→RdJ g l d n W→Calls Tryz.prog fid caps W (PartJ g d I J (P s l n)))
    (hlen:∀ s l n r,n≤2000→P s l n=.inl r→r.2.1.length<l.length∧r.2.2≤2000∧ln r.1=ln s+1)
    (s:σ) (hs0:ln s=0) (l:List UInt8) (n:Nat) (w:World) (eg:∀ args w,(callFunc fid args).run Tryz.prog w=.ok (.enter fid args) w) (hd:d≤1000) (hd0:0<d) (hn:n≤2000) (hl:l.length≤1000000) (hx:nextL l=c0) (hi:I s w) (hr:RdJ g l (d - 1) n w) :
    Calls Tryz.prog 76 #[.pointer (some ⟨g,0,none⟩),.int .u8 ((c0.toNat:Nat):Int),.int .u8 ((c.toNat:Nat):Int),.func (.func fid) #[] caps] w
      (PartJ g (d - 1) I J (loopL P c d (l.length+1) 0 s (skipL l).tail n)):=by
  have KM:=Lib.hid (must_any g c0 h0 l (d - 1) n w hl hr)
  have HI:=Lib.hid hI
  have H0:=Lib.hid hi
  clear hr hi
  go_enter Tryz.func76,Tryz.ntmps76
  go_wp2_with fail
  refine KM.out.mono ?_
  rintro r w1 (⟨_,rfl,h1⟩ | ⟨hno,_⟩)
  · have H1:=Lib.hid h1
    have c1:=h1.rd.c1
    have f1:=h1.rd.fz 1
    have H2:Hid (StJ g (skipL l).tail d n w (w1.setCell ⟨g,1,none⟩ (.int .i64 (((d - 1:Nat):Int)+1)))):=Lib.hid (by
      have:=h1.depth (d':=d)
      rwa [show ((d:Nat):Int)=((d - 1:Nat):Int)+1 by omega] at this)
    clear h1 KM
    go_wp2
    have HS:Hid (I s (w1.setCell ⟨g,1,none⟩ (.int .i64 (((d - 1:Nat):Int)+1)))∧RdJ g (skipL l).tail d n (w1.setCell ⟨g,1,none⟩ (.int .i64 (((d - 1:Nat):Int)+1)))):=Lib.hid ⟨HI.out _ _ _ _ _ _ H0.out H2.out,H2.out.rd⟩
    clear c1 f1 H2 H1 H0
    have hll:(skipL l).tail.length<l.length+1∧(skipL l).tail.length≤1000000:=by
      have:=skipL_len l
      rw [List.length_tail];omega
    generalize (w1.setCell ⟨g,1,none⟩ (.int .i64 (((d - 1:Nat):Int)+1)))=W1 at *
    generalize hR:loopL P c d (l.length+1) 0 s (skipL l).tail n=R
    have HR:=Lib.hid hR
    clear hR
    go_loopg [8] (l.length+1) (fun k v wr=>PRelJ ln g d c I P R k v wr)
    case atStart=>exact ⟨0,s,(skipL l).tail,n,rfl,Nat.zero_le _,hs0,hll.1,hll.2,hn,HS.out.1,HS.out.2,HR.out⟩
    case round =>
      obtain ⟨many,s',l',n',rfl,hmany,hlnm,hk,hl',hn',hi',hr',hR'⟩:=hrel
      have HLN:=Lib.hid hlnm
      clear hlnm
      rcases gk with _ | m
      · omega
      · have KT:=Lib.hid (take_anyj g c hc l' d n' _ hl' hr')
        have HR2:=Lib.hid hR'
        have H0:=Lib.hid hi'
        have hsk:=skipL_len l'
        clear hi' hr' hR' HS hll hx
        go_wp2_with fail
        refine KT.out.mono ?_
        rintro r w2 (⟨hx,rfl,h2⟩ | ⟨hx,rfl,h2⟩)
        · have HE:Hid (R=.inl (s',(skipL l').tail,n')):=Lib.hid (by rw [← HR2.out];exact loopL_end hx)
          have HI2:=Lib.hid (HI.out _ _ _ _ _ _ H0.out h2)
          have c1:=h2.rd.c1
          have f1:=h2.rd.fz 1
          have H2:Hid (StJ g (skipL l').tail (d - 1) n' w2 (w2.setCell ⟨g,1,none⟩ (.int .i64 ((d:Int) - 1)))):=Lib.hid (by
            have:=(show StJ g (skipL l').tail d n' w2 w2 from ⟨.refl _ _,h2.rd⟩).depth (d':=d - 1)
            rwa [show ((d - 1:Nat):Int)=(d:Int) - 1 by omega] at this)
          clear h2 KT HR2 hx
          go_wp2
          exact bodyPost_ret (v:=.tuple #[]) (by simp [results,Tryz.results76,go_sem]) rfl (PartJ.yes (HR.out.trans HE.out) rfl (HI.out _ _ _ _ _ _ HI2.out H2.out) H2.out.rd)
        · have HI2:=Lib.hid (HI.out _ _ _ _ _ _ H0.out h2)
          have hl2:(skipL l').length≤1000000:=by omega
          by_cases hm0:many=0
          · subst hm0
            have HCM:Hid (¬ (0<0∧nextL l' ≠ 44)):=Lib.hid (fun h=>absurd h.1 (by decide))
            have HLS:Hid ((if 0<0 then (skipL l').tail else skipL l')=skipL l'):=Lib.hid (if_neg (by decide))
            have KE:=Lib.hid (enter_any g 0 (skipL l') d n' w2 (by omega) (by omega) (by omega) h2.rd)
            clear KT
            go_wp2_with fail
            refine KE.out.mono ?_
            rintro r w5 (⟨e1,e2,e3,rfl,h5⟩ | ⟨hno,rfl,la,da,na,h5⟩)
            · have HI5:=Lib.hid (HI.out _ _ _ _ _ _ HI2.out h5)
              have KP:=Lib.hid (hP s' w5 (skipL l') (n'+1) HI5.out (by rw [HLN.out];exact e1) (by omega) (by omega) e2 h5.rd)
              clear h5 KE
              go_wp2_with fail
              refine KP.out.mono ?_
              intro r w6 hp
              cases hq:P s' (skipL l') (n'+1) with
              | inr x =>
                rw [hq] at hp
                obtain ⟨rfl,hj⟩:=hp
                have HE:Hid (R=.inr x):=Lib.hid (by rw [← HR2.out];exact loopL_bad hx HCM.out ⟨e1,e2,e3⟩ (by rw [HLS.out];exact hq))
                have HJ:=Lib.hid hj
                clear hj hq KP HR2 hx e1 e2 e3 HI5
                go_wp2
                exact ⟨rfl,PartJ.no HE.out rfl HJ.out⟩
              | inl q =>
                rw [hq] at hp
                obtain ⟨s6,l6,n6⟩:=q
                obtain ⟨rfl,hi6,hr6⟩:=hp
                have hln:=hlen _ _ _ _ (by omega) hq
                simp only at hln
                have HE:Hid (loopL P c d m (0+1) s6 l6 n6=R):=Lib.hid (by rw [← HR2.out];exact (loopL_on hx HCM.out ⟨e1,e2,e3⟩ (by rw [HLS.out];exact hq)).symm)
                have HQ:=Lib.hid (And.intro hi6 hr6)
                have HN:Hid (l6.length<m∧l6.length≤1000000∧n6≤2000∧0+1≤300):=Lib.hid ⟨by omega,by omega,by omega,by omega⟩
                have HL6:Hid (ln s6=0+1):=Lib.hid (hln.2.2.trans (by rw [HLN.out]))
                clear hi6 hr6 hln hq KP HR2 hx e1 e2 e3 HI5
                go_wp2
                go_roundg m
                case measure=>omega
                case rel=>exact ⟨0+1,s6,l6,n6,by go_num,HN.out.2.2.2,HL6.out,HN.out.1,HN.out.2.1,HN.out.2.2.1,HQ.out.1,HQ.out.2,HE.out⟩
            · have HE:Hid (R=.inr 4):=Lib.hid (by rw [← HR2.out];exact loopL_limit hx HCM.out hno)
              have HJ:=Lib.hid (hJ _ _ (HI.out _ _ _ _ _ _ HI2.out h5))
              clear h5 KE HR2 hx hno
              go_wp2
              exact ⟨rfl,PartJ.no HE.out rfl HJ.out⟩
          · have KM:=Lib.hid (must_any g 44 (by decide) (skipL l') d n' w2 hl2 h2.rd)
            have bm:decide ((0:Int)<(many:Int))=true:=decide_eq_true (by omega)
            have hm1:0<many:=by omega
            clear KT hm0
            go_wp2_with fail
            refine KM.out.mono ?_
            rintro r w3 (⟨hy,rfl,h3⟩ | ⟨hy,rfl,la,da,na,h3⟩)
            · rw [nextL_skip] at hy
              rw [skipL_skipL] at h3
              have HCM:Hid (¬ (0<many∧nextL l' ≠ 44)):=Lib.hid (fun h=>h.2 hy)
              have HLS:Hid ((if 0<many then (skipL l').tail else skipL l')=(skipL l').tail):=Lib.hid (if_pos hm1)
              have HI3:=Lib.hid (HI.out _ _ _ _ _ _ HI2.out h3)
              have hl3:(skipL l').tail.length≤(skipL l').length:=by rw [List.length_tail];omega
              have KT:=KM
              clear hy KM h2
              have KE:=Lib.hid (enter_any g many (skipL l').tail d n' w3 (by omega) (by omega) (by omega) h3.rd)
              clear KT
              go_wp2_with fail
              refine KE.out.mono ?_
              rintro r w5 (⟨e1,e2,e3,rfl,h5⟩ | ⟨hno,rfl,la,da,na,h5⟩)
              · have HI5:=Lib.hid (HI.out _ _ _ _ _ _ HI3.out h5)
                have KP:=Lib.hid (hP s' w5 (skipL l').tail (n'+1) HI5.out (by rw [HLN.out];exact e1) (by omega) (by omega) e2 h5.rd)
                clear h5 KE
                go_wp2_with fail
                refine KP.out.mono ?_
                intro r w6 hp
                cases hq:P s' (skipL l').tail (n'+1) with
                | inr x =>
                  rw [hq] at hp
                  obtain ⟨rfl,hj⟩:=hp
                  have HE:Hid (R=.inr x):=Lib.hid (by rw [← HR2.out];exact loopL_bad hx HCM.out ⟨e1,e2,e3⟩ (by rw [HLS.out];exact hq))
                  have HJ:=Lib.hid hj
                  clear hj hq KP HR2 hx e1 e2 e3 HI5
                  go_wp2
                  exact ⟨rfl,PartJ.no HE.out rfl HJ.out⟩
                | inl q =>
                  rw [hq] at hp
                  obtain ⟨s6,l6,n6⟩:=q
                  obtain ⟨rfl,hi6,hr6⟩:=hp
                  have hln:=hlen _ _ _ _ (by omega) hq
                  simp only at hln
                  have HE:Hid (loopL P c d m (many+1) s6 l6 n6=R):=Lib.hid (by rw [← HR2.out];exact (loopL_on hx HCM.out ⟨e1,e2,e3⟩ (by rw [HLS.out];exact hq)).symm)
                  have HQ:=Lib.hid (And.intro hi6 hr6)
                  have HN:Hid (l6.length<m∧l6.length≤1000000∧n6≤2000∧many+1≤300):=Lib.hid ⟨by omega,by omega,by omega,by omega⟩
                  have HL6:Hid (ln s6=many+1):=Lib.hid (hln.2.2.trans (by rw [HLN.out]))
                  clear hi6 hr6 hln hq KP HR2 hx e1 e2 e3 HI5
                  go_wp2
                  go_roundg m
                  case measure=>omega
                  case rel=>exact ⟨many+1,s6,l6,n6,by go_num,HN.out.2.2.2,HL6.out,HN.out.1,HN.out.2.1,HN.out.2.2.1,HQ.out.1,HQ.out.2,HE.out⟩
              · have HE:Hid (R=.inr 4):=Lib.hid (by rw [← HR2.out];exact loopL_limit hx HCM.out hno)
                have HJ:=Lib.hid (hJ _ _ (HI.out _ _ _ _ _ _ HI3.out h5))
                clear h5 KE HR2 hx hno
                go_wp2
                exact ⟨rfl,PartJ.no HE.out rfl HJ.out⟩
            · rw [nextL_skip] at hy
              have HE:Hid (R=.inr 2):=Lib.hid (by rw [← HR2.out];exact loopL_comma hx ⟨hm1,hy⟩)
              have HJ:=Lib.hid (hJ _ _ (HI.out _ _ _ _ _ _ HI2.out h3))
              clear h2 h3 KM HR2 hx hy
              go_wp2
              exact ⟨rfl,PartJ.no HE.out rfl HJ.out⟩
  · exact absurd hx hno
end Go.Proofs.YtijaphbccnadbaaGreatDoor
