/- Texts of the claim. -/
import Derived.Test.YtijaphbccnadbaaGreatDoorUu
import Derived.Defers
import Derived.Recover
set_option linter.unusedVariables false
set_option linter.unusedSimpArgs false
set_option maxHeartbeats 8000000
set_option maxRecDepth 100000
namespace Go.Proofs.YtijaphbccnadbaaGreatDoor
open Go.RowKit Go.Shelf Go.Lib
def signsL:List UInt8:=[48,49,50,51,52,53,54,55,56,57,43,45,46,101,69]
def numL (s:List UInt8):((Bool × Nat × Int) × List UInt8) ⊕ Int :=
  match parseN ((s.take (s.length - (Lib.trimLeftS s signsL).length)).map UInt8.toNat) with
  | .inr x=>.inr x
  | .inl r=>.inl (r,Lib.trimLeftS s signsL)
def bnum (r:Bool × Nat × Int):MT:=numT r.1 none (limbs r.2.1).length 0 r.2.2 (limbs r.2.1)
def btext (t:List UInt8):MT:=leafT 4 false ⟨t.toArray⟩
def numP (s:List UInt8) (n:Nat):PRJ:=match numL s with
  | .inr x=>.inr x
  | .inl r=>.inl (bnum r.1,r.2,n)
def textP (s:List UInt8) (n:Nat):PRJ:=match textL s with
  | .inr x=>.inr x
  | .inl r=>.inl (btext r.1,r.2,n)
def valueW (A O:List UInt8→PRJ) (l:List UInt8) (n:Nat):PRJ :=
  if (nextL l).toNat=110 then wordL [110,117,108,108] (leafT 1 false ⟨#[]⟩) (skipL l) n
  else if (nextL l).toNat=116 then wordL [116,114,117,101] (leafT 2 true ⟨#[]⟩) (skipL l) n
  else if (nextL l).toNat=102 then wordL [102,97,108,115,101] (leafT 2 false ⟨#[]⟩) (skipL l) n
  else if (nextL l).toNat=45∨48≤(nextL l).toNat∧(nextL l).toNat≤57 then numP (skipL l) n
  else if (nextL l).toNat=34 then textP (skipL l) n
  else if (nextL l).toNat=91 then A (skipL l)
  else if (nextL l).toNat=123 then O (skipL l)
  else .inr 2
def NumJ (g d n:Nat) (r:((Bool × Nat × Int) × List UInt8) ⊕ Int) (w:World) (e:Ending) (w':World):Prop :=
  match r with
  | .inl (p,l)=>∃ ad cap,e=.returned (.agg #[.bool p.1,.slice ad (limbs p.2.1).length cap,.int .i64 p.2.2])∧Ind (fun k=>k<w.heap.size) w' (fun W=>Rep W (numT p.1 ad (limbs p.2.1).length cap p.2.2 (limbs p.2.1)))∧StJ g l d n w w'
  | .inr x=>ThrowJ x g w e w'
theorem box_cellsJ {W:World} {b:Nat} {c:Array Value} {t:TypeId} (h:W.heap[b]? = some (.cells c t)) (i:Nat) (v:Value) (hv:c[i]? = some v):W.cell? ⟨b,i,none⟩=some v∧W.frozen? ⟨b,i,none⟩=false:=by
  simp [World.cell?,World.frozen?,h,hv]
theorem next_pos {l:List UInt8} (h:(nextL l).toNat ≠ 0):0<(skipL l).length:=by
  cases hs:skipL l with
  | nil=>exact absurd (by rw [nextL_nil hs];rfl) h
  | cons x r=>simp
theorem textL_len {l t r:List UInt8} (h:textL l=.inl (t,r)):t.length≤2000:=by
  unfold textL at h
  split at h
  · cases h
  · split at h
    · cases h
    · simp only [Sum.inl.injEq,Prod.mk.injEq] at h
      obtain ⟨rfl,_⟩:=h
      omega
theorem leafT_bare (k:Int) (b:Bool) (s:ByteArray):(leafT k b s).bare=leafT k b s:=by rw [MT.bare_eq];rfl
theorem ind_leaf {X:Nat→Prop} {w:World} {k:Int} {b:Bool} {s:ByteArray} (hk:-9223372036854775808≤k∧k≤9223372036854775807) (hs:s.size≤maxLen):Ind X w (fun W=>Rep W (leafT k b s)):=fun W _ _=>leafT_rep W k b s hk hs
theorem set_other {w:World} {b i:Nat} {v:Value} {k:Nat} (h:k ≠ b):(w.setCell ⟨b,i,none⟩ v).heap[k]? = w.heap[k]?:=Below.heap_setCell _ _ _ _ (by simpa using h)
theorem val_fin {g d n n0:Nat} {l l0:List UInt8} {w w1 w2:World} {t':MT} (v0 v1 v2 v3 v4 v5 v6 v7:Value) (h1:StJ g l0 d n0 w w1) (hz:w.heap.size<w1.heap.size) (hg:w.heap.size ≠ g) (hi:Ind (fun k=>k<w1.heap.size) w2 (fun W=>Rep W t')) (h2:StJ g l d n w1 w2) :
    Ind (fun k=>k<w.heap.size) ((((((((w2.setCell ⟨w.heap.size,0,none⟩ v0).setCell ⟨w.heap.size,1,none⟩ v1).setCell ⟨w.heap.size,2,none⟩ v2).setCell ⟨w.heap.size,3,none⟩ v3).setCell ⟨w.heap.size,4,none⟩ v4).setCell ⟨w.heap.size,5,none⟩ v5).setCell ⟨w.heap.size,6,none⟩ v6).setCell ⟨w.heap.size,7,none⟩ v7) (fun W=>Rep W t')∧StJ g l d n w ((((((((w2.setCell ⟨w.heap.size,0,none⟩ v0).setCell ⟨w.heap.size,1,none⟩ v1).setCell ⟨w.heap.size,2,none⟩ v2).setCell ⟨w.heap.size,3,none⟩ v3).setCell ⟨w.heap.size,4,none⟩ v4).setCell ⟨w.heap.size,5,none⟩ v5).setCell ⟨w.heap.size,6,none⟩ v6).setCell ⟨w.heap.size,7,none⟩ v7):=by
  constructor
  · refine hi.to (by simp [World.setCell]) (fun k hk hx=>?_) (fun k hk hy=>by have hy':k<w.heap.size:=hy;show k<w1.heap.size;omega) (fun _ h=>h)
    have hne:k ≠ w.heap.size:=by have hx':¬ k<w1.heap.size:=hx;omega
    rw [set_other hne,set_other hne,set_other hne,set_other hne,set_other hne,set_other hne,set_other hne,set_other hne]
  · exact ((((((((h1.trans h2).fresh (Nat.le_refl _) hg _ _).fresh (Nat.le_refl _) hg _ _).fresh (Nat.le_refl _) hg _ _).fresh (Nat.le_refl _) hg _ _).fresh (Nat.le_refl _) hg _ _).fresh (Nat.le_refl _) hg _ _).fresh (Nat.le_refl _) hg _ _).fresh (Nat.le_refl _) hg _ _
theorem value_anyj (g d n:Nat) (A O:List UInt8→PRJ) (l:List UInt8) (w:World) (hl:l.length≤1000000) (hr:RdJ g l d n w) (hT:∀ W s,StJ g s d n w W→UT W)
    (hN:∀ W s,RdJ g s d n W→StJ g s d n w W→0<s.length→s.length≤l.length→Calls Tryz.prog 47 #[.pointer (some ⟨g,0,none⟩)] W (NumJ g d n (numL s) W))
    (hA:∀ W s,RdJ g s d n W→StJ g s d n w W→nextL s=91→s.length≤l.length→Calls Tryz.prog 49 #[.pointer (some ⟨g,0,none⟩)] W (ValJ g d (A s) W))
    (hO:∀ W s,RdJ g s d n W→StJ g s d n w W→nextL s=123→s.length≤l.length→Calls Tryz.prog 50 #[.pointer (some ⟨g,0,none⟩)] W (ValJ g d (O s) W)) :
    Calls Tryz.prog 25 #[.pointer (some ⟨g,0,none⟩)] w (ValJ g d (valueW A O l n) w):=by
  have hb1:Below w.heap.size w (w.alloc (.cells #[.int .i64 0,.bool false,.bool false,.slice none 0 0,.int .i64 0,.string ⟨#[]⟩,.slice none 0 0,.slice none 0 0] 28)):=(Below.refl _ _).alloc (Nat.le_refl _) _
  have KX:=Lib.hid (next_any g l d n _ (hr.on hb1))
  have HB:=Lib.hid (StJ.of_below hr hb1)
  have hsk:=skipL_len l
  have hlt:=hr.lt
  have hzg:w.heap.size ≠ g:=by omega
  have HUT:=Lib.hid hT
  clear hr hb1 hT
  go_enter Tryz.func25,Tryz.ntmps25
  go_wp2_with fail
  refine KX.out.mono ?_
  rintro r w1 ⟨rfl,h1⟩
  have H01:=Lib.hid (HB.out.trans h1)
  have q1:=(h1.oth.block w.heap.size (by simp) hzg).trans (heap_alloc_new w _)
  have hz:w.heap.size<w1.heap.size:=(Array.getElem?_eq_some_iff.1 q1).1
  have HR1:=Lib.hid h1.rd
  have HV0:=Lib.hid (show valueW A O l n=valueW A O l n from rfl)
  clear h1 KX HB
  by_cases c110:(nextL l).toNat=110
  · have HE:Hid (valueW A O l n=wordL [110,117,108,108] (leafT 1 false ⟨#[]⟩) (skipL l) n):=Lib.hid (by unfold valueW;rw [if_pos c110])
    have hv:(((nextL l).toNat:Nat):Int)=110:=by omega
    rw [hv]
    have KW:Hid (Calls Tryz.prog 46 #[.pointer (some ⟨g,0,none⟩),.string ⟨#[110,117,108,108]⟩,.agg #[.int .i64 1,.bool false,.bool false,.slice none 0 0,.int .i64 0,.string ⟨#[]⟩,.slice none 0 0,.slice none 0 0]] w1 (WordJ g d [110,117,108,108] (leafC 1 false ⟨#[]⟩) (skipL l) n w1)):=Lib.hid (word_any g d n [110,117,108,108] (leafC 1 false ⟨#[]⟩) (skipL l) w1 HR1.out)
    clear hv c110
    go_wp2_with fail
    refine KW.out.mono ?_
    rintro r w2 (⟨hp,rfl,h2⟩ | ⟨hp,rfl,la,da,na,h2⟩)
    · have H2:=Lib.hid h2
      have HP:=Lib.hid hp
      have q2:=(h2.oth.block _ hz hzg).trans q1
      clear hp h2 q1 KW
      dsimp only [leafC,Cel.val]
      have y0:=(box_cellsJ q2 0 _ rfl).1
      have z0:=(box_cellsJ q2 0 _ rfl).2
      have y1:=(box_cellsJ q2 1 _ rfl).1
      have z1:=(box_cellsJ q2 1 _ rfl).2
      have y2:=(box_cellsJ q2 2 _ rfl).1
      have z2:=(box_cellsJ q2 2 _ rfl).2
      have y3:=(box_cellsJ q2 3 _ rfl).1
      have z3:=(box_cellsJ q2 3 _ rfl).2
      have y4:=(box_cellsJ q2 4 _ rfl).1
      have z4:=(box_cellsJ q2 4 _ rfl).2
      have y5:=(box_cellsJ q2 5 _ rfl).1
      have z5:=(box_cellsJ q2 5 _ rfl).2
      have y6:=(box_cellsJ q2 6 _ rfl).1
      have z6:=(box_cellsJ q2 6 _ rfl).2
      have y7:=(box_cellsJ q2 7 _ rfl).1
      have z7:=(box_cellsJ q2 7 _ rfl).2
      have HV:=Lib.hid (val_fin (.int .i64 1) (.bool false) (.bool false) (.slice none 0 0) (.int .i64 0) (.string ⟨#[]⟩) (.slice none 0 0) (.slice none 0 0) H01.out hz hzg (ind_leaf (k:=1) (b:=false) (s:=⟨#[]⟩) (by decide) (by decide)) H2.out)
      clear q2
      go_wp2
      refine bodyPost_ret (v:=.agg #[.int .i64 1,.bool false,.bool false,.slice none 0 0,.int .i64 0,.string ⟨#[]⟩,.slice none 0 0,.slice none 0 0]) (by simp [results,Tryz.results25,go_sem,y0,y1,y2,y3,y4,y5,y6,y7]) rfl (ValJ.yes (leafT 1 false ⟨#[]⟩) (HE.out.trans (by unfold wordL;rw [if_pos HP.out])) rfl (leafT_bare _ _ _) HV.out.1 HV.out.2)
    · have HX:=Lib.hid (H01.out.trans h2)
      have HP:=Lib.hid hp
      clear hp h2 q1 KW
      go_wp2
      exact ⟨rfl,ValJ.no (HE.out.trans (by unfold wordL;rw [HP.out];rfl)) ⟨rfl,_,_,_,HX.out⟩⟩
  by_cases c116:(nextL l).toNat=116
  · have HE:Hid (valueW A O l n=wordL [116,114,117,101] (leafT 2 true ⟨#[]⟩) (skipL l) n):=Lib.hid (by unfold valueW;rw [if_neg c110];rw [if_pos c116])
    have hv:(((nextL l).toNat:Nat):Int)=116:=by omega
    rw [hv]
    have KW:Hid (Calls Tryz.prog 46 #[.pointer (some ⟨g,0,none⟩),.string ⟨#[116,114,117,101]⟩,.agg #[.int .i64 2,.bool true,.bool false,.slice none 0 0,.int .i64 0,.string ⟨#[]⟩,.slice none 0 0,.slice none 0 0]] w1 (WordJ g d [116,114,117,101] (leafC 2 true ⟨#[]⟩) (skipL l) n w1)):=Lib.hid (word_any g d n [116,114,117,101] (leafC 2 true ⟨#[]⟩) (skipL l) w1 HR1.out)
    clear hv c116
    go_wp2_with fail
    refine KW.out.mono ?_
    rintro r w2 (⟨hp,rfl,h2⟩ | ⟨hp,rfl,la,da,na,h2⟩)
    · have H2:=Lib.hid h2
      have HP:=Lib.hid hp
      have q2:=(h2.oth.block _ hz hzg).trans q1
      clear hp h2 q1 KW
      dsimp only [leafC,Cel.val]
      have y0:=(box_cellsJ q2 0 _ rfl).1
      have z0:=(box_cellsJ q2 0 _ rfl).2
      have y1:=(box_cellsJ q2 1 _ rfl).1
      have z1:=(box_cellsJ q2 1 _ rfl).2
      have y2:=(box_cellsJ q2 2 _ rfl).1
      have z2:=(box_cellsJ q2 2 _ rfl).2
      have y3:=(box_cellsJ q2 3 _ rfl).1
      have z3:=(box_cellsJ q2 3 _ rfl).2
      have y4:=(box_cellsJ q2 4 _ rfl).1
      have z4:=(box_cellsJ q2 4 _ rfl).2
      have y5:=(box_cellsJ q2 5 _ rfl).1
      have z5:=(box_cellsJ q2 5 _ rfl).2
      have y6:=(box_cellsJ q2 6 _ rfl).1
      have z6:=(box_cellsJ q2 6 _ rfl).2
      have y7:=(box_cellsJ q2 7 _ rfl).1
      have z7:=(box_cellsJ q2 7 _ rfl).2
      have HV:=Lib.hid (val_fin (.int .i64 2) (.bool true) (.bool false) (.slice none 0 0) (.int .i64 0) (.string ⟨#[]⟩) (.slice none 0 0) (.slice none 0 0) H01.out hz hzg (ind_leaf (k:=2) (b:=true) (s:=⟨#[]⟩) (by decide) (by decide)) H2.out)
      clear q2
      go_wp2
      refine bodyPost_ret (v:=.agg #[.int .i64 2,.bool true,.bool false,.slice none 0 0,.int .i64 0,.string ⟨#[]⟩,.slice none 0 0,.slice none 0 0]) (by simp [results,Tryz.results25,go_sem,y0,y1,y2,y3,y4,y5,y6,y7]) rfl (ValJ.yes (leafT 2 true ⟨#[]⟩) (HE.out.trans (by unfold wordL;rw [if_pos HP.out])) rfl (leafT_bare _ _ _) HV.out.1 HV.out.2)
    · have HX:=Lib.hid (H01.out.trans h2)
      have HP:=Lib.hid hp
      clear hp h2 q1 KW
      go_wp2
      exact ⟨rfl,ValJ.no (HE.out.trans (by unfold wordL;rw [HP.out];rfl)) ⟨rfl,_,_,_,HX.out⟩⟩
  by_cases c102:(nextL l).toNat=102
  · have HE:Hid (valueW A O l n=wordL [102,97,108,115,101] (leafT 2 false ⟨#[]⟩) (skipL l) n):=Lib.hid (by unfold valueW;rw [if_neg c110];rw [if_neg c116];rw [if_pos c102])
    have hv:(((nextL l).toNat:Nat):Int)=102:=by omega
    rw [hv]
    have KW:Hid (Calls Tryz.prog 46 #[.pointer (some ⟨g,0,none⟩),.string ⟨#[102,97,108,115,101]⟩,.agg #[.int .i64 2,.bool false,.bool false,.slice none 0 0,.int .i64 0,.string ⟨#[]⟩,.slice none 0 0,.slice none 0 0]] w1 (WordJ g d [102,97,108,115,101] (leafC 2 false ⟨#[]⟩) (skipL l) n w1)):=Lib.hid (word_any g d n [102,97,108,115,101] (leafC 2 false ⟨#[]⟩) (skipL l) w1 HR1.out)
    clear hv c102
    go_wp2_with fail
    refine KW.out.mono ?_
    rintro r w2 (⟨hp,rfl,h2⟩ | ⟨hp,rfl,la,da,na,h2⟩)
    · have H2:=Lib.hid h2
      have HP:=Lib.hid hp
      have q2:=(h2.oth.block _ hz hzg).trans q1
      clear hp h2 q1 KW
      dsimp only [leafC,Cel.val]
      have y0:=(box_cellsJ q2 0 _ rfl).1
      have z0:=(box_cellsJ q2 0 _ rfl).2
      have y1:=(box_cellsJ q2 1 _ rfl).1
      have z1:=(box_cellsJ q2 1 _ rfl).2
      have y2:=(box_cellsJ q2 2 _ rfl).1
      have z2:=(box_cellsJ q2 2 _ rfl).2
      have y3:=(box_cellsJ q2 3 _ rfl).1
      have z3:=(box_cellsJ q2 3 _ rfl).2
      have y4:=(box_cellsJ q2 4 _ rfl).1
      have z4:=(box_cellsJ q2 4 _ rfl).2
      have y5:=(box_cellsJ q2 5 _ rfl).1
      have z5:=(box_cellsJ q2 5 _ rfl).2
      have y6:=(box_cellsJ q2 6 _ rfl).1
      have z6:=(box_cellsJ q2 6 _ rfl).2
      have y7:=(box_cellsJ q2 7 _ rfl).1
      have z7:=(box_cellsJ q2 7 _ rfl).2
      have HV:=Lib.hid (val_fin (.int .i64 2) (.bool false) (.bool false) (.slice none 0 0) (.int .i64 0) (.string ⟨#[]⟩) (.slice none 0 0) (.slice none 0 0) H01.out hz hzg (ind_leaf (k:=2) (b:=false) (s:=⟨#[]⟩) (by decide) (by decide)) H2.out)
      clear q2
      go_wp2
      refine bodyPost_ret (v:=.agg #[.int .i64 2,.bool false,.bool false,.slice none 0 0,.int .i64 0,.string ⟨#[]⟩,.slice none 0 0,.slice none 0 0]) (by simp [results,Tryz.results25,go_sem,y0,y1,y2,y3,y4,y5,y6,y7]) rfl (ValJ.yes (leafT 2 false ⟨#[]⟩) (HE.out.trans (by unfold wordL;rw [if_pos HP.out])) rfl (leafT_bare _ _ _) HV.out.1 HV.out.2)
    · have HX:=Lib.hid (H01.out.trans h2)
      have HP:=Lib.hid hp
      clear hp h2 q1 KW
      go_wp2
      exact ⟨rfl,ValJ.no (HE.out.trans (by unfold wordL;rw [HP.out];rfl)) ⟨rfl,_,_,_,HX.out⟩⟩
  by_cases c45:(nextL l).toNat=45∨48≤(nextL l).toNat∧(nextL l).toNat≤57
  · have HE:Hid (valueW A O l n=numP (skipL l) n):=Lib.hid (by unfold valueW;rw [if_neg c110];rw [if_neg c116];rw [if_neg c102];rw [if_pos c45])
    have KN:=Lib.hid (hN w1 (skipL l) HR1.out H01.out (next_pos (by omega)) hsk)
    have hvs:(((nextL l).toNat:Nat):Int)=45∨(((nextL l).toNat:Nat):Int)=48∨(((nextL l).toNat:Nat):Int)=49∨(((nextL l).toNat:Nat):Int)=50∨(((nextL l).toNat:Nat):Int)=51∨(((nextL l).toNat:Nat):Int)=52∨(((nextL l).toNat:Nat):Int)=53∨(((nextL l).toNat:Nat):Int)=54∨(((nextL l).toNat:Nat):Int)=55∨(((nextL l).toNat:Nat):Int)=56∨(((nextL l).toNat:Nat):Int)=57:=by omega
    clear c45 c110 c116 c102 hN hA hO
    rcases hvs with hv | hv | hv | hv | hv | hv | hv | hv | hv | hv | hv
    all_goals
      rw [hv]
      clear hv
      go_wp2_with fail
      refine KN.out.mono ?_
      intro r w2 hp
      cases hq:numL (skipL l) with
      | inr y =>
        rw [hq] at hp
        obtain ⟨rfl,la,da,na,h2⟩:=hp
        have HQ:=Lib.hid hq
        clear KN q1 hq
        have HX:=Lib.hid (H01.out.trans h2)
        clear h2
        go_wp2
        exact ⟨rfl,ValJ.no (HE.out.trans (by unfold numP;rw [HQ.out])) ⟨rfl,_,_,_,HX.out⟩⟩
      | inl p =>
        rw [hq] at hp
        obtain ⟨⟨ng,m,x⟩,l2⟩:=p
        obtain ⟨ad,cap,rfl,hi,h2⟩:=hp
        have HQ:=Lib.hid hq
        have H2:=Lib.hid h2
        have HI:=Lib.hid hi
        have q2:=(h2.oth.block _ hz hzg).trans q1
        have HM:Hid ((numT ng ad (limbs m).length cap x (limbs m)).bare=bnum (ng,m,x)):=Lib.hid (by rw [MT.bare_eq];rfl)
        clear KN q1 hq hi h2
        dsimp only at *
        generalize (limbs m).length=ML at *
        have y0:=(box_cellsJ q2 0 _ rfl).1
        have z0:=(box_cellsJ q2 0 _ rfl).2
        have y1:=(box_cellsJ q2 1 _ rfl).1
        have z1:=(box_cellsJ q2 1 _ rfl).2
        have y2:=(box_cellsJ q2 2 _ rfl).1
        have z2:=(box_cellsJ q2 2 _ rfl).2
        have y3:=(box_cellsJ q2 3 _ rfl).1
        have z3:=(box_cellsJ q2 3 _ rfl).2
        have y4:=(box_cellsJ q2 4 _ rfl).1
        have z4:=(box_cellsJ q2 4 _ rfl).2
        have y5:=(box_cellsJ q2 5 _ rfl).1
        have z5:=(box_cellsJ q2 5 _ rfl).2
        have y6:=(box_cellsJ q2 6 _ rfl).1
        have z6:=(box_cellsJ q2 6 _ rfl).2
        have y7:=(box_cellsJ q2 7 _ rfl).1
        have z7:=(box_cellsJ q2 7 _ rfl).2
        have HV:=Lib.hid (val_fin (.int .i64 3) (.bool false) (.bool ng) (.slice ad ML cap) (.int .i64 x) (.string ⟨#[]⟩) (.slice none 0 0) (.slice none 0 0) H01.out hz hzg (HI.out) H2.out)
        clear q2
        go_wp2
        refine bodyPost_ret (v:=.agg #[.int .i64 3,.bool false,.bool ng,.slice ad ML cap,.int .i64 x,.string ⟨#[]⟩,.slice none 0 0,.slice none 0 0]) (by simp [results,Tryz.results25,go_sem,y0,y1,y2,y3,y4,y5,y6,y7]) rfl (ValJ.yes (numT ng ad ML cap x (limbs m)) (HE.out.trans (by unfold numP;rw [HQ.out])) rfl (HM.out) HV.out.1 HV.out.2)
  by_cases c34:(nextL l).toNat=34
  · have HE:Hid (valueW A O l n=textP (skipL l) n):=Lib.hid (by unfold valueW;rw [if_neg c110];rw [if_neg c116];rw [if_neg c102];rw [if_neg c45];rw [if_pos c34])
    have hv:(((nextL l).toNat:Nat):Int)=34:=by omega
    rw [hv]
    have KT:=Lib.hid (text_anyj g (skipL l) d n w1 (by omega) HR1.out (HUT.out _ _ H01.out))
    clear hv c34 c110 c116 c102 c45 hN hA hO
    go_wp2_with fail
    refine KT.out.mono ?_
    intro r w2 hp
    unfold TextJ at hp
    cases hq:textL (skipL l) with
    | inr y =>
      rw [hq] at hp
      obtain ⟨rfl,la,da,na,h2⟩:=hp
      have HQ:=Lib.hid hq
      clear KT q1 hq
      have HX:=Lib.hid (H01.out.trans h2)
      clear h2
      go_wp2
      exact ⟨rfl,ValJ.no (HE.out.trans (by unfold textP;rw [HQ.out])) ⟨rfl,_,_,_,HX.out⟩⟩
    | inl p =>
      rw [hq] at hp
      obtain ⟨t,l2⟩:=p
      obtain ⟨rfl,h2⟩:=hp
      have HQ:=Lib.hid hq
      have H2:=Lib.hid h2
      have hts:(⟨t.toArray⟩:ByteArray).size≤maxLen:=by have:=textL_len hq;rw [str_size];unfold maxLen;omega
      have HTS:=Lib.hid hts
      have q2:=(h2.oth.block _ hz hzg).trans q1
      have HM:Hid ((leafT 4 false ⟨t.toArray⟩).bare=btext t):=Lib.hid (leafT_bare _ _ _)
      clear KT q1 hq h2 hts
      generalize (⟨t.toArray⟩:ByteArray)=ts at *
      have y0:=(box_cellsJ q2 0 _ rfl).1
      have z0:=(box_cellsJ q2 0 _ rfl).2
      have y1:=(box_cellsJ q2 1 _ rfl).1
      have z1:=(box_cellsJ q2 1 _ rfl).2
      have y2:=(box_cellsJ q2 2 _ rfl).1
      have z2:=(box_cellsJ q2 2 _ rfl).2
      have y3:=(box_cellsJ q2 3 _ rfl).1
      have z3:=(box_cellsJ q2 3 _ rfl).2
      have y4:=(box_cellsJ q2 4 _ rfl).1
      have z4:=(box_cellsJ q2 4 _ rfl).2
      have y5:=(box_cellsJ q2 5 _ rfl).1
      have z5:=(box_cellsJ q2 5 _ rfl).2
      have y6:=(box_cellsJ q2 6 _ rfl).1
      have z6:=(box_cellsJ q2 6 _ rfl).2
      have y7:=(box_cellsJ q2 7 _ rfl).1
      have z7:=(box_cellsJ q2 7 _ rfl).2
      have HV:=Lib.hid (val_fin (.int .i64 4) (.bool false) (.bool false) (.slice none 0 0) (.int .i64 0) (.string ts) (.slice none 0 0) (.slice none 0 0) H01.out hz hzg (ind_leaf (k:=4) (b:=false) (s:=ts) (by decide) HTS.out) H2.out)
      clear q2
      go_wp2
      refine bodyPost_ret (v:=.agg #[.int .i64 4,.bool false,.bool false,.slice none 0 0,.int .i64 0,.string ts,.slice none 0 0,.slice none 0 0]) (by simp [results,Tryz.results25,go_sem,y0,y1,y2,y3,y4,y5,y6,y7]) rfl (ValJ.yes (leafT 4 false ts) (HE.out.trans (by unfold textP;rw [HQ.out])) rfl (HM.out) HV.out.1 HV.out.2)
  by_cases c91:(nextL l).toNat=91
  · have HE:Hid (valueW A O l n=A (skipL l)):=Lib.hid (by unfold valueW;rw [if_neg c110];rw [if_neg c116];rw [if_neg c102];rw [if_neg c45];rw [if_neg c34];rw [if_pos c91])
    have hv:(((nextL l).toNat:Nat):Int)=91:=by omega
    rw [hv]
    have KA:=Lib.hid (hA w1 (skipL l) HR1.out H01.out (by rw [nextL_skip];exact UInt8.toNat_inj.1 c91) hsk)
    clear hv c91 c34 c110 c116 c102 c45 hN hA hO
    go_wp2_with fail
    refine KA.out.mono ?_
    intro r w2 hp
    unfold ValJ at hp
    cases hq:A (skipL l) with
    | inr y =>
      rw [hq] at hp
      obtain ⟨rfl,la,da,na,h2⟩:=hp
      have HQ:=Lib.hid hq
      clear KA q1 hq
      have HX:=Lib.hid (H01.out.trans h2)
      clear h2
      go_wp2
      exact ⟨rfl,ValJ.no (HE.out.trans HQ.out) ⟨rfl,_,_,_,HX.out⟩⟩
    | inl p =>
      rw [hq] at hp
      obtain ⟨t,l2,n2⟩:=p
      obtain ⟨t',rfl,hbare,hi,h2⟩:=hp
      have HQ:=Lib.hid hq
      have H2:=Lib.hid h2
      have HI:=Lib.hid hi
      have HM:=Lib.hid hbare
      have q2:=(h2.oth.block _ hz hzg).trans q1
      clear KA q1 hq h2 hi hbare
      obtain ⟨⟨k,b,neg,ma,mn,mc,x,s,ka,kn,kc,va,vn,vc⟩,M,K,V⟩:=t'
      dsimp only [MT.c,Cel.val]
      have y0:=(box_cellsJ q2 0 _ rfl).1
      have z0:=(box_cellsJ q2 0 _ rfl).2
      have y1:=(box_cellsJ q2 1 _ rfl).1
      have z1:=(box_cellsJ q2 1 _ rfl).2
      have y2:=(box_cellsJ q2 2 _ rfl).1
      have z2:=(box_cellsJ q2 2 _ rfl).2
      have y3:=(box_cellsJ q2 3 _ rfl).1
      have z3:=(box_cellsJ q2 3 _ rfl).2
      have y4:=(box_cellsJ q2 4 _ rfl).1
      have z4:=(box_cellsJ q2 4 _ rfl).2
      have y5:=(box_cellsJ q2 5 _ rfl).1
      have z5:=(box_cellsJ q2 5 _ rfl).2
      have y6:=(box_cellsJ q2 6 _ rfl).1
      have z6:=(box_cellsJ q2 6 _ rfl).2
      have y7:=(box_cellsJ q2 7 _ rfl).1
      have z7:=(box_cellsJ q2 7 _ rfl).2
      have HV:=Lib.hid (val_fin (.int .i64 k) (.bool b) (.bool neg) (.slice ma mn mc) (.int .i64 x) (.string s) (.slice ka kn kc) (.slice va vn vc) H01.out hz hzg (HI.out) H2.out)
      clear q2
      go_wp2
      refine bodyPost_ret (v:=.agg #[.int .i64 k,.bool b,.bool neg,.slice ma mn mc,.int .i64 x,.string s,.slice ka kn kc,.slice va vn vc]) (by simp [results,Tryz.results25,go_sem,y0,y1,y2,y3,y4,y5,y6,y7]) rfl (ValJ.yes (.mk ⟨k,b,neg,ma,mn,mc,x,s,ka,kn,kc,va,vn,vc⟩ M K V) (HE.out.trans HQ.out) rfl (HM.out) HV.out.1 HV.out.2)
  by_cases c123:(nextL l).toNat=123
  · have HE:Hid (valueW A O l n=O (skipL l)):=Lib.hid (by unfold valueW;rw [if_neg c110];rw [if_neg c116];rw [if_neg c102];rw [if_neg c45];rw [if_neg c34];rw [if_neg c91];rw [if_pos c123])
    have hv:(((nextL l).toNat:Nat):Int)=123:=by omega
    rw [hv]
    have KA:=Lib.hid (hO w1 (skipL l) HR1.out H01.out (by rw [nextL_skip];exact UInt8.toNat_inj.1 c123) hsk)
    clear hv c123 c34 c110 c116 c102 c45 hN hA hO c91
    go_wp2_with fail
    refine KA.out.mono ?_
    intro r w2 hp
    unfold ValJ at hp
    cases hq:O (skipL l) with
    | inr y =>
      rw [hq] at hp
      obtain ⟨rfl,la,da,na,h2⟩:=hp
      have HQ:=Lib.hid hq
      clear KA q1 hq
      have HX:=Lib.hid (H01.out.trans h2)
      clear h2
      go_wp2
      exact ⟨rfl,ValJ.no (HE.out.trans HQ.out) ⟨rfl,_,_,_,HX.out⟩⟩
    | inl p =>
      rw [hq] at hp
      obtain ⟨t,l2,n2⟩:=p
      obtain ⟨t',rfl,hbare,hi,h2⟩:=hp
      have HQ:=Lib.hid hq
      have H2:=Lib.hid h2
      have HI:=Lib.hid hi
      have HM:=Lib.hid hbare
      have q2:=(h2.oth.block _ hz hzg).trans q1
      clear KA q1 hq h2 hi hbare
      obtain ⟨⟨k,b,neg,ma,mn,mc,x,s,ka,kn,kc,va,vn,vc⟩,M,K,V⟩:=t'
      dsimp only [MT.c,Cel.val]
      have y0:=(box_cellsJ q2 0 _ rfl).1
      have z0:=(box_cellsJ q2 0 _ rfl).2
      have y1:=(box_cellsJ q2 1 _ rfl).1
      have z1:=(box_cellsJ q2 1 _ rfl).2
      have y2:=(box_cellsJ q2 2 _ rfl).1
      have z2:=(box_cellsJ q2 2 _ rfl).2
      have y3:=(box_cellsJ q2 3 _ rfl).1
      have z3:=(box_cellsJ q2 3 _ rfl).2
      have y4:=(box_cellsJ q2 4 _ rfl).1
      have z4:=(box_cellsJ q2 4 _ rfl).2
      have y5:=(box_cellsJ q2 5 _ rfl).1
      have z5:=(box_cellsJ q2 5 _ rfl).2
      have y6:=(box_cellsJ q2 6 _ rfl).1
      have z6:=(box_cellsJ q2 6 _ rfl).2
      have y7:=(box_cellsJ q2 7 _ rfl).1
      have z7:=(box_cellsJ q2 7 _ rfl).2
      have HV:=Lib.hid (val_fin (.int .i64 k) (.bool b) (.bool neg) (.slice ma mn mc) (.int .i64 x) (.string s) (.slice ka kn kc) (.slice va vn vc) H01.out hz hzg (HI.out) H2.out)
      clear q2
      go_wp2
      refine bodyPost_ret (v:=.agg #[.int .i64 k,.bool b,.bool neg,.slice ma mn mc,.int .i64 x,.string s,.slice ka kn kc,.slice va vn vc]) (by simp [results,Tryz.results25,go_sem,y0,y1,y2,y3,y4,y5,y6,y7]) rfl (ValJ.yes (.mk ⟨k,b,neg,ma,mn,mc,x,s,ka,kn,kc,va,vn,vc⟩ M K V) (HE.out.trans HQ.out) rfl (HM.out) HV.out.1 HV.out.2)
  have HE:Hid (valueW A O l n=.inr 2):=Lib.hid (by unfold valueW;rw [if_neg c110];rw [if_neg c116];rw [if_neg c102];rw [if_neg c45];rw [if_neg c34];rw [if_neg c91];rw [if_neg c123])
  generalize hX:(nextL l).toNat=X at *
  have b110:((X:Int) == 110)=false:=by rw [beq_eq_false_iff_ne];omega
  have b116:((X:Int) == 116)=false:=by rw [beq_eq_false_iff_ne];omega
  have b102:((X:Int) == 102)=false:=by rw [beq_eq_false_iff_ne];omega
  have b45:((X:Int) == 45)=false:=by rw [beq_eq_false_iff_ne];omega
  have b48:((X:Int) == 48)=false:=by rw [beq_eq_false_iff_ne];omega
  have b49:((X:Int) == 49)=false:=by rw [beq_eq_false_iff_ne];omega
  have b50:((X:Int) == 50)=false:=by rw [beq_eq_false_iff_ne];omega
  have b51:((X:Int) == 51)=false:=by rw [beq_eq_false_iff_ne];omega
  have b52:((X:Int) == 52)=false:=by rw [beq_eq_false_iff_ne];omega
  have b53:((X:Int) == 53)=false:=by rw [beq_eq_false_iff_ne];omega
  have b54:((X:Int) == 54)=false:=by rw [beq_eq_false_iff_ne];omega
  have b55:((X:Int) == 55)=false:=by rw [beq_eq_false_iff_ne];omega
  have b56:((X:Int) == 56)=false:=by rw [beq_eq_false_iff_ne];omega
  have b57:((X:Int) == 57)=false:=by rw [beq_eq_false_iff_ne];omega
  have b34:((X:Int) == 34)=false:=by rw [beq_eq_false_iff_ne];omega
  have b91:((X:Int) == 91)=false:=by rw [beq_eq_false_iff_ne];omega
  have b123:((X:Int) == 123)=false:=by rw [beq_eq_false_iff_ne];omega
  clear c110 c116 c102 c45 c34 c91 c123 q1 hN hA hO
  go_wp2
  exact ⟨rfl,ValJ.no HE.out ⟨rfl,_,_,_,H01.out⟩⟩
def itemL (V:List UInt8→Nat→PRJ) (us:List MT) (l:List UInt8) (n:Nat):(List MT × List UInt8 × Nat) ⊕ Int :=
  match V l n with
  | .inr x=>.inr x
  | .inl r=>.inl (us++[r.1],r.2.1,r.2.2)
def memberL (V:List UInt8→Nat→PRJ) (us:List (List UInt8) × List MT) (l:List UInt8) (n:Nat):((List (List UInt8) × List MT) × List UInt8 × Nat) ⊕ Int :=
  match textL (skipL l) with
  | .inr x=>.inr x
  | .inl r =>
    if nextL r.2=58 then
      match V (skipL r.2).tail n with
      | .inr x=>.inr x
      | .inl q=>.inl ((us.1++[r.1],us.2++[q.1]),q.2.1,q.2.2)
    else .inr 2
def barr (us:List MT):MT:=arrT none us.length 0 us
def bobj (ks:List ByteArray) (us:List MT):MT:=objT none ks.length 0 none us.length 0 ks us
def strs (l:List (List UInt8)):List ByteArray:=l.map fun x=>⟨x.toArray⟩
def sortedK (ks:List ByteArray):List Nat:=srt Op.bytesLess (fun i=>(ks.getD i ByteArray.empty).toList) 0 ks.length
def arrL (V:List UInt8→Nat→PRJ) (d n:Nat) (s:List UInt8):PRJ :=
  match loopL (itemL V) 93 (d+1) (s.length+1) 0 [] (skipL s).tail n with
  | .inr x=>.inr x
  | .inl r=>.inl (barr r.1,r.2.1,r.2.2)
def objL (V:List UInt8→Nat→PRJ) (d n:Nat) (s:List UInt8):PRJ :=
  match loopL (memberL V) 125 (d+1) (s.length+1) 0 ([],[]) (skipL s).tail n with
  | .inr x=>.inr x
  | .inl r =>
    if r.1.1.Nodup then .inl (bobj ((sortedK (strs r.1.1)).map fun i=>(strs r.1.1).getD i ByteArray.empty) ((sortedK (strs r.1.1)).map fun i=>r.1.2.getD i (leafT 0 false ⟨#[]⟩)),r.2.1,r.2.2)
    else .inr 2
def valueL:Nat→Nat→List UInt8→Nat→PRJ
  | 0,_,_,_=>.inr 2
  | f+1,d,l,n=>valueW (arrL (valueL f (d+1)) d n) (objL (valueL f (d+1)) d n) l n
def decodeL (l:List UInt8):MT ⊕ Int :=
  if 32768<l.length then .inr 4
  else match valueL 66 1 l 1 with
    | .inr x=>.inr x
    | .inl r=>if skipL r.2.1=[] then .inl r.1 else .inr 2
def Eats (s:List UInt8) (n:Nat) (r:PRJ):Prop:=∀ p,r=.inl p→p.2.1.length<s.length∧(n≤2000→p.2.2≤2000)
theorem loopL_eats {σ:Type} {P:σ→List UInt8→Nat→(σ × List UInt8 × Nat) ⊕ Int} {c:UInt8} {d:Nat} (h0:c ≠ 0)
    (hP:∀ s l n r,P s l n=.inl r→r.2.1.length<l.length∧(n≤2000→r.2.2≤2000)) :
    ∀ (f many:Nat) (s:σ) (l:List UInt8) (n:Nat) (r:σ × List UInt8 × Nat),loopL P c d f many s l n=.inl r→r.2.1.length<l.length∧(n≤2000→r.2.2≤2000):=by
  intro f
  induction f with
  | zero=>intro many s l n r h;cases h
  | succ f ih =>
    intro many s l n r h
    have hsk:=skipL_len l
    unfold loopL at h
    split at h
    · rename_i hx
      obtain ⟨r',hs⟩:=head_cons h0 hx
      simp only [Sum.inl.injEq] at h
      subst h
      simp only
      rw [hs] at hsk ⊢
      simp only [List.length_cons,List.tail_cons] at hsk ⊢
      exact ⟨by omega,fun h=>h⟩
    · split at h
      · cases h
      · split at h
        · rename_i hlim
          split at h
          · cases h
          · rename_i q hq
            have h1:=hP _ _ _ _ hq
            have h2:=ih _ _ _ _ _ h
            have h3:=left_le (0<many) l
            exact ⟨by omega,fun hn=>h2.2 (h1.2 (by omega))⟩
        · cases h
theorem wordL_eats {W:List UInt8} {t:MT} {s:List UInt8} {n:Nat} (hW:0<W.length):Eats s n (wordL W t s n):=by
  intro p h
  unfold wordL at h
  split at h
  · rename_i hp
    simp only [Sum.inl.injEq] at h
    subst h
    have:=(List.isPrefixOf_iff_prefix.1 (by unfold Lib.hasPrefix at hp;exact hp)).length_le
    simp only [Lib.trimPrefix,hp,if_true,List.length_drop]
    exact ⟨by omega,fun h=>h⟩
  · cases h
theorem unqAt_pos {s:ByteArray} {k:Int} {p:List UInt8 × Nat} (h:unqAt s k=some p):0<p.2:=by
  unfold unqAt at h
  split at h
  · obtain ⟨q,_,rfl⟩:=Option.map_eq_some_iff.1 h
    simp only;omega
  · cases h
theorem textL_eats {s t r:List UInt8} (h:textL s=.inl (t,r)):r.length<s.length:=by
  unfold textL at h
  split at h
  · cases h
  · rename_i q hq
    split at h
    · cases h
    · simp only [Sum.inl.injEq,Prod.mk.injEq] at h
      obtain ⟨_,rfl⟩:=h
      have h1:=unqAt_pos hq
      have h2:=unqAt_le hq
      rw [str_size] at h2
      simp only at h1 h2
      rw [List.length_drop]
      omega
theorem trim_lt {s:List UInt8} {cs:List UInt8} {x:UInt8} {r:List UInt8} (hs:s=x::r) (hx:cs.contains x=true):(Lib.trimLeftS s cs).length<s.length:=by
  subst hs
  unfold Lib.trimLeftS
  rw [List.dropWhile_cons,if_pos hx]
  have:=(List.dropWhile_sublist (l:=r) (cs.contains ·)).length_le
  simp only [List.length_cons];omega
theorem numL_eats {s:List UInt8} {p:(Bool × Nat × Int) × List UInt8} {x:UInt8} {r:List UInt8} (hs:s=x::r) (hx:signsL.contains x=true) (h:numL s=.inl p):p.2.length<s.length:=by
  unfold numL at h
  split at h
  · cases h
  · simp only [Sum.inl.injEq] at h
    subst h
    exact trim_lt hs hx
theorem next_cons {l:List UInt8} (h:(nextL l).toNat ≠ 0):∃ r,skipL l=nextL l::r:=head_cons (fun e=>h (by rw [e];rfl)) rfl
theorem sign_has {x:UInt8} (h:x.toNat=45∨48≤x.toNat∧x.toNat≤57):signsL.contains x=true:=by
  have:x=45∨x=48∨x=49∨x=50∨x=51∨x=52∨x=53∨x=54∨x=55∨x=56∨x=57:=by
    simp only [← UInt8.toNat_inj]
    have e:(45:UInt8).toNat=45∧(48:UInt8).toNat=48∧(49:UInt8).toNat=49∧(50:UInt8).toNat=50∧(51:UInt8).toNat=51∧(52:UInt8).toNat=52∧(53:UInt8).toNat=53∧(54:UInt8).toNat=54∧(55:UInt8).toNat=55∧(56:UInt8).toNat=56∧(57:UInt8).toNat=57:=by decide
    omega
  rcases this with rfl | rfl | rfl | rfl | rfl | rfl | rfl | rfl | rfl | rfl | rfl <;> decide
theorem valueW_eats {A O:List UInt8→PRJ} {l:List UInt8} {n:Nat} (hA:∀ s,Eats s n (A s)) (hO:∀ s,Eats s n (O s)):Eats l n (valueW A O l n):=by
  have hsk:=skipL_len l
  have up:∀ r,Eats (skipL l) n r→Eats l n r:=fun r h p hp=>⟨Nat.lt_of_lt_of_le (h p hp).1 hsk,(h p hp).2⟩
  unfold valueW
  split
  · exact up _ (wordL_eats (by decide))
  · split
    · exact up _ (wordL_eats (by decide))
    · split
      · exact up _ (wordL_eats (by decide))
      · split
        · rename_i hx
          refine up _ (fun p hp=>?_)
          unfold numP at hp
          split at hp
          · cases hp
          · rename_i q hq
            simp only [Sum.inl.injEq] at hp
            subst hp
            obtain ⟨r,hr⟩:=next_cons (l:=l) (by omega)
            exact ⟨numL_eats hr (sign_has hx) hq,fun h=>h⟩
        · split
          · refine up _ (fun p hp=>?_)
            unfold textP at hp
            split at hp
            · cases hp
            · rename_i q hq
              simp only [Sum.inl.injEq] at hp
              subst hp
              exact ⟨textL_eats (t:=q.1) hq,fun h=>h⟩
          · split
            · exact up _ (hA _)
            · split
              · exact up _ (hO _)
              · intro p hp;cases hp
theorem arrL_eats {V:List UInt8→Nat→PRJ} {d n:Nat} (hV:∀ s n,Eats s n (V s n)) (s:List UInt8):Eats s n (arrL V d n s):=by
  intro p hp
  unfold arrL at hp
  split at hp
  · cases hp
  · rename_i q hq
    simp only [Sum.inl.injEq] at hp
    subst hp
    have h:=loopL_eats (by decide) (fun us l n r h=>by
      unfold itemL at h
      split at h
      · cases h
      · rename_i p hp
        simp only [Sum.inl.injEq] at h
        subst h
        exact hV _ _ _ hp) _ _ _ _ _ _ hq
    have h2:=skipL_len s
    rw [List.length_tail] at h
    exact ⟨by simp only;omega,h.2⟩
theorem memberL_eats {V:List UInt8→Nat→PRJ} (hV:∀ s n,Eats s n (V s n)) (us:List (List UInt8) × List MT) (l:List UInt8) (n:Nat) (r:(List (List UInt8) × List MT) × List UInt8 × Nat) (h:memberL V us l n=.inl r):r.2.1.length<l.length∧(n≤2000→r.2.2≤2000):=by
  unfold memberL at h
  split at h
  · cases h
  · rename_i q hq
    split at h
    · split at h
      · cases h
      · rename_i p hp
        simp only [Sum.inl.injEq] at h
        subst h
        have h1:=textL_eats (t:=q.1) (r:=q.2) hq
        have h2:=hV _ _ _ hp
        have h3:=skipL_len l
        have h4:=skipL_len q.2
        rw [List.length_tail] at h2
        exact ⟨by simp only;omega,h2.2⟩
    · cases h
theorem objL_eats {V:List UInt8→Nat→PRJ} {d n:Nat} (hV:∀ s n,Eats s n (V s n)) (s:List UInt8):Eats s n (objL V d n s):=by
  intro p hp
  unfold objL at hp
  split at hp
  · cases hp
  · rename_i q hq
    split at hp
    · simp only [Sum.inl.injEq] at hp
      subst hp
      have h:=loopL_eats (by decide) (fun us l n r h=>memberL_eats hV us l n r h) _ _ _ _ _ _ hq
      have h2:=skipL_len s
      rw [List.length_tail] at h
      exact ⟨by simp only;omega,h.2⟩
    · cases hp
theorem valueL_eats:∀ (f d:Nat) (l:List UInt8) (n:Nat),Eats l n (valueL f d l n):=by
  intro f
  induction f with
  | zero=>intro d l n p h;cases h
  | succ f ih =>
    intro d l n
    unfold valueL
    exact valueW_eats (arrL_eats (ih (d+1))) (objL_eats (ih (d+1)))
theorem assert_errnoD (x:Int) (W:World):(Instr.typeAssert (.iface 31 (.int .i64 x)) 20 31 false).run Tryz.prog W=.ok (.int .i64 x) W:=by kernel_rfl
/-- The closure that catches: what was thrown becomes the answer. -/
theorem catch_thrownD (g h : Nat) (v0 v1 v2 v3 v4 v5 v6 v7 u : Value) (x : Int) (older : List PanicEntry) (w : World) (n1 : g ≠ h)
    (c0 : w.cell? ⟨g, 0, none⟩ = some v0) (f0 : w.frozen? ⟨g, 0, none⟩ = false)
    (c1 : w.cell? ⟨g, 1, none⟩ = some v1) (f1 : w.frozen? ⟨g, 1, none⟩ = false)
    (c2 : w.cell? ⟨g, 2, none⟩ = some v2) (f2 : w.frozen? ⟨g, 2, none⟩ = false)
    (c3 : w.cell? ⟨g, 3, none⟩ = some v3) (f3 : w.frozen? ⟨g, 3, none⟩ = false)
    (c4 : w.cell? ⟨g, 4, none⟩ = some v4) (f4 : w.frozen? ⟨g, 4, none⟩ = false)
    (c5 : w.cell? ⟨g, 5, none⟩ = some v5) (f5 : w.frozen? ⟨g, 5, none⟩ = false)
    (c6 : w.cell? ⟨g, 6, none⟩ = some v6) (f6 : w.frozen? ⟨g, 6, none⟩ = false)
    (c7 : w.cell? ⟨g, 7, none⟩ = some v7) (f7 : w.frozen? ⟨g, 7, none⟩ = false)
    (ch : w.cell? ⟨h, 0, none⟩ = some u) (fh : w.frozen? ⟨h, 0, none⟩ = false) :
    CallsD Tryz.prog 24 #[.pointer (some ⟨g, 0, none⟩), .pointer (some ⟨h, 0, none⟩)] (.panicking ({ v := .iface 31 (.int .i64 x), recovered := false } :: older)) w fun e u' w' =>
      e = .returned (.tuple #[]) ∧ u' = .panicking ({ v := .iface 31 (.int .i64 x), recovered := true } :: older) ∧
        w' = (((((((((w.setCell ⟨g, 0, none⟩ (.int .i64 0)).setCell ⟨g, 1, none⟩ (.bool false)).setCell ⟨g, 2, none⟩ (.bool false)).setCell ⟨g, 3, none⟩ (.slice none 0 0)).setCell ⟨g, 4, none⟩ (.int .i64 0)).setCell ⟨g, 5, none⟩ (.string ⟨#[]⟩)).setCell ⟨g, 6, none⟩ (.slice none 0 0)).setCell ⟨g, 7, none⟩ (.slice none 0 0)).setCell ⟨h, 0, none⟩ (.int .i64 x)).drew := by
  refine callsD_of_wpS Tryz.func24 rfl fun c₀ cs hu => ?_
  apply wpS_seq
  apply wpS_region
  simp [wpOpsS, go_sem, recoverD, hu, Tryz.ntmps24, Exit.thenS]
  apply wpS_seq
  apply wpS_region
  simp [wpOpsS, go_sem, Exit.thenS]
  refine wpS_cond (t := true) (by simp [Act.eval, Array.replicate]) ?_
  simp only [if_true]
  refine wpS_of_wp ?_
  change Code.wp _ _ _ { tmps := #[.pointer (some ⟨g, 0, none⟩), .pointer (some ⟨h, 0, none⟩), .iface 31 (.int .i64 x), .iface 31 (.int .i64 x), .iface 31 (.int .i64 x), .bool true, undef, undef, undef], defers := [] } w
  have hne1 : ¬ h = g := fun hh => n1 hh.symm
  have hta := assert_errnoD x
  go_region
  exact ⟨rfl, _, rfl, .tuple #[], by simp [results, Tryz.results24, go_sem], rfl, rfl, rfl⟩
def DecPost (r:MT ⊕ Int) (w:World) (e:Ending) (w':World):Prop :=
  match r with
  | .inl t=>∃ t':MT,e=.returned (.tuple #[t'.c.val,.int .i64 0])∧t'.bare=t∧Rep w' t'∧Below w.heap.size w w'
  | .inr x=>e=.returned (.tuple #[.agg #[.int .i64 0,.bool false,.bool false,.slice none 0 0,.int .i64 0,.string ⟨#[]⟩,.slice none 0 0,.slice none 0 0],.int .i64 x])∧Below w.heap.size w w'
theorem DecPost.no {r:MT ⊕ Int} {w w':World} {e:Ending} {x:Int} (h:r=.inr x) (he:e=.returned (.tuple #[.agg #[.int .i64 0,.bool false,.bool false,.slice none 0 0,.int .i64 0,.string ⟨#[]⟩,.slice none 0 0,.slice none 0 0],.int .i64 x])) (hb:Below w.heap.size w w'):DecPost r w e w':=by
  subst h;exact ⟨he,hb⟩
theorem decode_long (l:List UInt8) (w:World) (hl:l.length≤1000000) (hbig:32768<l.length) :
    Calls Tryz.prog 11 #[.string ⟨l.toArray⟩] w (DecPost (.inr 4) w):=by
  have hmf:∀ (fn:Fn) (first cap:Array Value) (w:World),(Instr.makeFunc fn first cap).run Tryz.prog w=.ok (.func fn first cap) w:=fun _ _ _ _=>rfl
  generalize hW:(w.alloc (.cells #[.int .i64 0,.bool false,.bool false,.slice none 0 0,.int .i64 0,.string ⟨#[]⟩,.slice none 0 0,.slice none 0 0] 28)).alloc (.cells #[.int .i64 0] 31)=W
  have hb0:Below w.heap.size w W:=by
    rw [← hW];exact ((Below.refl _ _).alloc (Nat.le_refl _) _).alloc (by simp) _
  have q0:W.heap[w.heap.size]? = some (.cells #[.int .i64 0,.bool false,.bool false,.slice none 0 0,.int .i64 0,.string ⟨#[]⟩,.slice none 0 0,.slice none 0 0] 28):=by rw [← hW];exact (Below.heap_alloc _ _ _ (by simp)).trans (heap_alloc_new w _)
  have q1:W.heap[w.heap.size+1]? = some (.cells #[.int .i64 0] 31):=by
    rw [← hW];have:=heap_alloc_new (w.alloc (.cells #[.int .i64 0,.bool false,.bool false,.slice none 0 0,.int .i64 0,.string ⟨#[]⟩,.slice none 0 0,.slice none 0 0] 28)) (.cells #[.int .i64 0] 31);simpa using this
  have a0:World.cell? W ⟨w.heap.size,0,none⟩=some (.int .i64 0):=(box_cellsJ q0 0 _ rfl).1
  have af0:=(box_cellsJ q0 0 _ rfl).2
  have a1:World.cell? W ⟨w.heap.size,1,none⟩=some (.bool false):=(box_cellsJ q0 1 _ rfl).1
  have af1:=(box_cellsJ q0 1 _ rfl).2
  have a2:World.cell? W ⟨w.heap.size,2,none⟩=some (.bool false):=(box_cellsJ q0 2 _ rfl).1
  have af2:=(box_cellsJ q0 2 _ rfl).2
  have a3:World.cell? W ⟨w.heap.size,3,none⟩=some (.slice none 0 0):=(box_cellsJ q0 3 _ rfl).1
  have af3:=(box_cellsJ q0 3 _ rfl).2
  have a4:World.cell? W ⟨w.heap.size,4,none⟩=some (.int .i64 0):=(box_cellsJ q0 4 _ rfl).1
  have af4:=(box_cellsJ q0 4 _ rfl).2
  have a5:World.cell? W ⟨w.heap.size,5,none⟩=some (.string ⟨#[]⟩):=(box_cellsJ q0 5 _ rfl).1
  have af5:=(box_cellsJ q0 5 _ rfl).2
  have a6:World.cell? W ⟨w.heap.size,6,none⟩=some (.slice none 0 0):=(box_cellsJ q0 6 _ rfl).1
  have af6:=(box_cellsJ q0 6 _ rfl).2
  have a7:World.cell? W ⟨w.heap.size,7,none⟩=some (.slice none 0 0):=(box_cellsJ q0 7 _ rfl).1
  have af7:=(box_cellsJ q0 7 _ rfl).2
  have b0:W.cell? ⟨w.heap.size+1,0,none⟩=some (.int .i64 0):=(box_cellsJ q1 0 _ rfl).1
  have bf0:=(box_cellsJ q1 0 _ rfl).2
  have hsz:=str_size l
  have hgt:decide ((32768:Int)<(l.length:Int))=true:=decide_eq_true (by omega)
  have HB:=Lib.hid hb0
  have hW2:=Lib.hid hW
  clear hW hb0 q0 q1
  generalize (⟨l.toArray⟩:ByteArray)=s at *
  go_enter_defers Tryz.func11,Tryz.ntmps11
  go_wp2_with fail
  rw [hW2.out]
  go_wp2
  refine leaves_cons (f:=24) (args:=#[.pointer (some ⟨w.heap.size,0,none⟩),.pointer (some ⟨w.heap.size+1,0,none⟩)]) (by simp) (by simp [go_sem]) ?_
  refine (catch_thrownD w.heap.size (w.heap.size+1) _ _ _ _ _ _ _ _ _ 4 [] _ (by omega) a0 af0 a1 af1 a2 af2 a3 af3 a4 af4 a5 af5 a6 af6 a7 af7 b0 bf0).mono ?_
  rintro e u' w'' ⟨rfl,rfl,rfl⟩
  simp [Leaves,settle,results,Tryz.results11,go_sem,a0,a1,a2,a3,a4,a5,a6,a7,b0]
  exact DecPost.no rfl rfl ((((((((((HB.out.setCell (by simp) _).setCell (by simp) _).setCell (by simp) _).setCell (by simp) _).setCell (by simp) _).setCell (by simp) _).setCell (by simp) _).setCell (by simp) _).setCell (by simp) _).drew)
end Go.Proofs.YtijaphbccnadbaaGreatDoor
