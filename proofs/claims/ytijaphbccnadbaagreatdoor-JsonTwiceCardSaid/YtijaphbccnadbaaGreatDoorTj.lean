/- Texts of the claim. -/
import Derived.Test.YtijaphbccnadbaaGreatDoorTi
import Derived.Lib.DecodeN
import Derived.Lib.RuneBytes
import Derived.Lib.RuneCount
import Derived.Lib.Hide
import Derived.Test.YtijaphbccnadbaaGreatDoorShelf
import Derived.Test.YtijaphbccnadbaaGreatDoorRows
import Derived.Below
import Derived.WalkKit
import Derived.WalkMore
import Derived.WalkSpells
import Derived.WalkLawsBesides
import Derived.Deep.QuietTactic
import Derived.BigQuiet
import Derived.Lib.Strings
set_option linter.unusedVariables false
set_option linter.unusedSimpArgs false
set_option maxHeartbeats 4000000
set_option maxRecDepth 100000
namespace Go.Proofs.YtijaphbccnadbaaGreatDoor
open Go.RowKit Go.Sort
theorem is_yes (neg:Bool) (ad:Option Addr) (n cap:Nat) (xs:List Nat) (e:Int) (w:World) (hn:xs.length=n) (hcap:n≤cap) (hm:n≤100000000) (ho:Okl xs) (hr:Rd w ad xs) (h:chkB neg xs e=true) :
    Calls Tryz.prog 69 #[.agg #[.bool neg,.slice ad n cap,.int .i64 e]] w (NumBelow neg (.slice ad n cap) e w):=by
  have hbl:Below w.heap.size w ((w.alloc (.cells #[.bool neg,.slice ad n cap,.int .i64 e] 24)).alloc (.cells #[.bool false,.slice none 0 0,.int .i64 0] 24)):=((Below.refl _ _).alloc (Nat.le_refl _) _).alloc (by simp) _
  have HB:=Lib.hid hbl
  have K:=Lib.hid (refCheck_any neg ad n cap xs e _ hn hcap hm ho (hr.below hbl))
  clear hbl
  have H:=Lib.hid h;clear h
  have HN:=Lib.hid hn;clear hn
  go_enter Tryz.func69,Tryz.ntmps69
  go_wp2_with fail
  refine K.out.mono ?_
  rintro r w' ⟨rfl,hb⟩
  rw [H.out]
  obtain ⟨hc,hf⟩:=bcell hb
  have hz:w.heap.size+1<w'.heap.size:=by have:=hb.size;simp at this;omega
  have HB2:=Lib.hid hb;clear hb
  go_wp2
  have HB3:=HB.out.trans (HB2.out.mono (by simp;omega))
  exact bodyPost_ret (v:=.agg #[.bool neg,.slice ad n cap,.int .i64 e]) (by simp [results,Tryz.results69,go_sem,hc,hf,hz]) rfl ⟨rfl,((HB3.setCell (by simp) _).setCell (by simp) _).setCell (by simp) _⟩
theorem box3_cells {w:World} {g:Nat} {x0 x1 x2:Value} (hz:g<w.heap.size) (c0:w.cell? ⟨g,0,none⟩=some x0) (c1:w.cell? ⟨g,1,none⟩=some x1) (c2:w.cell? ⟨g,2,none⟩=some x2) (v0 v1 v2:Value) (b:Array Value) (t:TypeId) :
    ((((w.setCell ⟨g,0,none⟩ v0).setCell ⟨g,1,none⟩ v1).setCell ⟨g,2,none⟩ v2).alloc (.cells b t)).cell? ⟨g,0,none⟩=some v0∧((((w.setCell ⟨g,0,none⟩ v0).setCell ⟨g,1,none⟩ v1).setCell ⟨g,2,none⟩ v2).alloc (.cells b t)).cell? ⟨g,1,none⟩=some v1∧((((w.setCell ⟨g,0,none⟩ v0).setCell ⟨g,1,none⟩ v1).setCell ⟨g,2,none⟩ v2).alloc (.cells b t)).cell? ⟨g,2,none⟩=some v2:=by
  have hb:=below_box (((w.setCell ⟨g,0,none⟩ v0).setCell ⟨g,1,none⟩ v1).setCell ⟨g,2,none⟩ v2) b t
  have hs:g<(((w.setCell ⟨g,0,none⟩ v0).setCell ⟨g,1,none⟩ v1).setCell ⟨g,2,none⟩ v2).heap.size:=by simpa [World.setCell] using hz
  refine ⟨?_,?_,?_⟩
  · rw [hb.cell (p:=⟨g,0,none⟩) hs];simp [go_sem,c0,c1,c2]
  · rw [hb.cell (p:=⟨g,1,none⟩) hs];simp [go_sem,c0,c1,c2]
  · rw [hb.cell (p:=⟨g,2,none⟩) hs];simp [go_sem,c0,c1,c2]

end Go.Proofs.YtijaphbccnadbaaGreatDoor
namespace Go.Proofs.YtijaphbccnadbaaGreatDoor
def bt (l:List UInt8) (k:Nat):Nat:=(l.getD k 0).toNat
theorem bt_lt (l:List UInt8) (k:Nat):bt l k<256:=(l.getD k 0).toNat_lt
theorem bt_drop (l:List UInt8) (i k:Nat):bt (l.drop i) k=bt l (i+k):=by
  simp [bt,List.getD,List.getElem?_drop]
theorem bt_append_left {a b:List UInt8} {k:Nat} (h:k<a.length):bt (a++b) k=bt a k:=by
  simp [bt,List.getD,List.getElem?_append_left h]
theorem bt_append_right {a b:List UInt8} (k:Nat):bt (a++b) (a.length+k)=bt b k:=by
  simp [bt,List.getD,List.getElem?_append_right]
def decL (l:List UInt8):Nat × Nat:=Lib.decodeN l.length (bt l 0) (bt l 1) (bt l 2) (bt l 3)
def runeL (l:List UInt8):Int × Nat:=if decL l=(65533,1) then (-1,1) else (((decL l).1:Int),(decL l).2)
theorem get!_list (s:ByteArray) (k:Nat):s.get! k=s.data.toList.getD k 0:=by
  cases s with
  | mk d =>
    by_cases h:k<d.size
    · simp [ByteArray.get!,List.getD,h,getElem!_pos]
    · simp [ByteArray.get!,List.getD,h,getElem!_neg];rfl
theorem decode_list (s:ByteArray) (i:Nat):Utf8.decode s i=decL (s.data.toList.drop i):=by
  have e:∀ k,(s.get! (i+k)).toNat=bt (s.data.toList.drop i) k:=fun k=>by rw [bt_drop];simp [bt,get!_list]
  have e0:=e 0
  rw [Nat.add_zero] at e0
  rw [Lib.decode_at,decL,e0,e 1,e 2,e 3]
  congr 1
  simp
def okR (r:Int):Bool:=Utf8.valid r
theorem okR_iff {r:Int}:okR r=true ↔ (0≤r∧r<55296)∨(57344≤r∧r≤1114111):=by
  simp [okR,Utf8.valid]
def encN (r:Nat):List Nat :=
  if r<128 then [r]
  else if r<2048 then [192+r / 64,128+r % 64]
  else if r<65536 then [224+r / 4096,128+r / 64 % 64,128+r % 64]
  else [240+r / 262144,128+r / 4096 % 64,128+r / 64 % 64,128+r % 64]
def enc (r:Int):List UInt8:=(encN r.toNat).map fun x=>UInt8.ofNat x
theorem okR_nat {r:Int} (h:okR r=true):∃ n:Nat,r=n∧(n<55296∨(57344≤n∧n≤1114111)):=by
  rw [okR_iff] at h
  exact ⟨r.toNat,by omega,by omega⟩
theorem encN_lt {n:Nat} (h:n≤1114111):∀ x∈encN n,x<256:=by
  intro x hx
  unfold encN at hx
  repeat' split at hx
  all_goals simp at hx;omega
theorem encN_length (n:Nat):1≤(encN n).length∧(encN n).length≤4:=by
  unfold encN
  repeat' split
  all_goals simp
theorem enc_length (r:Int):(enc r).length=(encN r.toNat).length:=by simp [enc]
theorem enc_pos (r:Int):1≤(enc r).length:=by rw [enc_length];exact (encN_length _).1
theorem enc_le (r:Int):(enc r).length≤4:=by rw [enc_length];exact (encN_length _).2
theorem enc_ne (r:Int):enc r ≠ []:=by
  intro h;have:=enc_pos r;rw [h] at this;simp at this
theorem bt_map {xs:List Nat} {l:List UInt8} {k:Nat} (hk:k<xs.length) (hx:xs.getD k 0<256):bt (xs.map (fun x=>UInt8.ofNat x)++l) k=xs.getD k 0:=by
  rw [bt_append_left (by simpa using hk)]
  simp only [bt,List.getD,List.getElem?_map,List.getElem?_eq_getElem hk,Option.map_some,Option.getD_some] at hx ⊢
  rw [UInt8.toNat_ofNat'];omega
theorem encodeRune_enc {r:Int} (h:okR r=true):Lib.encodeRune r=enc r:=by
  obtain ⟨n,rfl,hn⟩:=okR_nat h
  unfold Lib.encodeRune enc Lib.encodeRuneZ encN
  rw [Int.toNat_natCast]
  have e:∀ x:Int,∀ y:Nat,x=y→x.toNat.toUInt8=UInt8.ofNat y:=by intro x y h;subst h;simp
  repeat' split
  all_goals first
    | (exfalso;omega)
    | (simp only [List.map_cons,List.map_nil];(repeat' apply List.cons_eq_cons.2 ⟨?_,?_⟩) <;> (first | rfl | (apply e;omega) | skip))
  all_goals first
    | (exfalso;omega)
    | (congr 1 <;> first | (apply e;omega) | (congr 1 <;> first | (apply e;omega) | (congr 1 <;> first | (apply e;omega) | (congr 1;apply e;omega))))
theorem decN_enc {n:Nat} (hn:n<55296∨(57344≤n∧n≤1114111)) {m b0 b1 b2 b3:Nat} (hm:(encN n).length≤m) (h0:b0=(encN n).getD 0 0)
    (h1:1<(encN n).length→b1=(encN n).getD 1 0) (h2:2<(encN n).length→b2=(encN n).getD 2 0) (h3:3<(encN n).length→b3=(encN n).getD 3 0) :
    Lib.decodeN m b0 b1 b2 b3=(n,(encN n).length):=by
  unfold encN at hm h0 h1 h2 h3 ⊢
  split at hm <;> rename_i c1
  · simp only [if_pos c1] at h0 ⊢
    simp at h0
    unfold Lib.decodeN
    rw [if_pos (by omega),h0];rfl
  · simp only [if_neg c1] at h0 h1 h2 h3 ⊢
    split at hm <;> rename_i c2
    · simp only [if_pos c2] at h0 h1 h2 h3 ⊢
      simp at h0 h1 hm
      unfold Lib.decodeN
      repeat' split
      all_goals first | (exfalso;omega) | (apply Prod.ext <;> simp <;> omega)
    · simp only [if_neg c2] at h0 h1 h2 h3 ⊢
      split at hm <;> rename_i c3
      · simp only [if_pos c3] at h0 h1 h2 h3 ⊢
        simp at h0 h1 h2 hm
        unfold Lib.decodeN
        repeat' split
        all_goals first | (exfalso;omega) | (apply Prod.ext <;> simp <;> omega)
      · simp only [if_neg c3] at h0 h1 h2 h3 ⊢
        simp at h0 h1 h2 h3 hm
        unfold Lib.decodeN
        repeat' split
        all_goals first | (exfalso;omega) | (apply Prod.ext <;> simp <;> omega)
theorem encN_three (n:Nat) (h:(encN n).length=1):n<128:=by
  unfold encN at h
  repeat' split at h
  all_goals simp at h
  assumption
theorem runeL_enc {r:Int} (h:okR r=true) (l:List UInt8):runeL (enc r++l)=(r,(enc r).length):=by
  obtain ⟨n,rfl,hn⟩:=okR_nat h
  have hb:∀ k,k<(encN n).length→bt (enc (n:Int)++l) k=(encN n).getD k 0:=by
    intro k hk
    unfold enc;rw [Int.toNat_natCast]
    refine bt_map hk ?_
    simp only [List.getD,List.getElem?_eq_getElem hk,Option.getD_some]
    exact encN_lt (by omega) _ (List.getElem_mem hk)
  have hp:=encN_length n
  have hl:(enc (n:Int)).length=(encN n).length:=by rw [enc_length,Int.toNat_natCast]
  have hd:decL (enc (n:Int)++l)=(n,(encN n).length):=by
    unfold decL
    exact decN_enc hn (by rw [List.length_append,hl];omega) (hb 0 (by omega)) (fun h=>hb 1 h) (fun h=>hb 2 h) (fun h=>hb 3 h)
  unfold runeL
  rw [hd,hl,if_neg]
  intro e
  have e1:=congrArg Prod.fst e
  have e2:=congrArg Prod.snd e
  simp at e1 e2
  have:=encN_three n e2
  omega
theorem decN_inv {m b0 b1 b2 b3 c k:Nat} (hm:1≤m) (l0:b0<256) (l1:b1<256) (l2:b2<256) (l3:b3<256) (h:Lib.decodeN m b0 b1 b2 b3=(c,k)) (hne:¬ ((c,k)=(65533,1))) :
    k≤m∧1≤k∧k≤4∧(c<55296∨(57344≤c∧c≤1114111))∧encN c=[b0,b1,b2,b3].take k:=by
  unfold Lib.decodeN at h
  by_cases c1:b0<128
  · rw [if_pos c1] at h
    obtain ⟨rfl,rfl⟩:=Prod.mk.injEq .. ▸ h
    refine ⟨hm,by omega,by omega,by omega,?_⟩
    unfold encN;rw [if_pos c1];rfl
  · rw [if_neg c1] at h
    by_cases c2:b0 / 32=6∧(1<m∧b1 / 64=2)
    · rw [if_pos c2] at h
      by_cases d2:b0 % 32*64+b1 % 64 ≥ 128
      · rw [if_pos d2] at h
        obtain ⟨rfl,rfl⟩:=Prod.mk.injEq .. ▸ h
        refine ⟨by omega,by omega,by omega,by omega,?_⟩
        unfold encN;rw [if_neg (by omega),if_pos (by omega)]
        simp;omega
      · rw [if_neg d2] at h;exact absurd h.symm hne
    · rw [if_neg c2] at h
      by_cases c3:b0 / 16=14∧(1<m∧b1 / 64=2)∧(2<m∧b2 / 64=2)
      · rw [if_pos c3] at h
        split at h
        · rename_i d3
          obtain ⟨rfl,rfl⟩:=Prod.mk.injEq .. ▸ h
          refine ⟨by omega,by omega,by omega,by omega,?_⟩
          unfold encN;rw [if_neg (by omega),if_neg (by omega),if_pos (by omega)]
          simp;omega
        · exact absurd h.symm hne
      · rw [if_neg c3] at h
        by_cases c4:b0 / 8=30∧(1<m∧b1 / 64=2)∧(2<m∧b2 / 64=2)∧(3<m∧b3 / 64=2)
        · rw [if_pos c4] at h
          split at h
          · rename_i d4
            obtain ⟨rfl,rfl⟩:=Prod.mk.injEq .. ▸ h
            refine ⟨by omega,by omega,by omega,by omega,?_⟩
            unfold encN;rw [if_neg (by omega),if_neg (by omega),if_neg (by omega)]
            simp;omega
          · exact absurd h.symm hne
        · rw [if_neg c4] at h;exact absurd h.symm hne
theorem take_bt (l:List UInt8) (k:Nat) (h:k≤l.length):l.take k=((List.range k).map (bt l)).map fun x=>UInt8.ofNat x:=by
  apply List.ext_getElem
  · simp;omega
  · intro i h1 h2
    simp at h1
    simp [bt,List.getD,List.getElem?_eq_getElem (show i<l.length by omega)]
theorem decL_width (l:List UInt8) (h:l ≠ []):1≤(decL l).2∧(decL l).2≤l.length:=by
  have hm:1≤l.length:=by cases l;exact absurd rfl h;simp
  by_cases e:decL l=(65533,1)
  · rw [e];exact ⟨by simp,hm⟩
  · have:=decN_inv (c:=(decL l).1) (k:=(decL l).2) hm (bt_lt l 0) (bt_lt l 1) (bt_lt l 2) (bt_lt l 3) rfl e
    omega
theorem runeL_width (l:List UInt8) (h:l ≠ []):1≤(runeL l).2∧(runeL l).2≤l.length:=by
  have:=decL_width l h
  unfold runeL;split
  · exact ⟨by simp,by cases l;exact absurd rfl h;simp⟩
  · exact this
theorem runeL_inv (l:List UInt8) (h:l ≠ []) (hr:0≤(runeL l).1):okR (runeL l).1=true∧enc (runeL l).1=l.take (runeL l).2∧(runeL l).2=(decL l).2∧(runeL l).1=(decL l).1:=by
  have hm:1≤l.length:=by cases l;exact absurd rfl h;simp
  unfold runeL at hr ⊢
  split
  · rename_i e;rw [if_pos e] at hr;simp at hr
  · rename_i e
    obtain ⟨a1,a2,a3,a4,a5⟩:=decN_inv (c:=(decL l).1) (k:=(decL l).2) hm (bt_lt l 0) (bt_lt l 1) (bt_lt l 2) (bt_lt l 3) rfl e
    refine ⟨okR_iff.2 (by omega),?_,rfl,rfl⟩
    unfold enc
    rw [Int.toNat_natCast,a5,take_bt l _ a1]
    congr 1
    generalize (decL l).2=k at *
    have hk:k=1∨k=2∨k=3∨k=4:=by omega
    rcases hk with rfl | rfl | rfl | rfl <;> rfl
theorem encN_cont {n:Nat} (hn:n≤1114111) {k:Nat} (hk:k<(encN n).length):(encN n).getD k 0 / 64=2 ↔ 0<k:=by
  unfold encN at hk ⊢
  split at hk <;> rename_i c1
  · rw [if_pos c1];simp at hk;subst hk;simp;omega
  · rw [if_neg c1]
    split at hk <;> rename_i c2
    · rw [if_pos c2];simp at hk
      have:k=0∨k=1:=by omega
      rcases this with rfl | rfl <;> simp <;> omega
    · rw [if_neg c2]
      split at hk <;> rename_i c3
      · rw [if_pos c3];simp at hk
        have:k=0∨k=1∨k=2:=by omega
        rcases this with rfl | rfl | rfl <;> simp <;> omega
      · rw [if_neg c3];simp at hk
        have:k=0∨k=1∨k=2∨k=3:=by omega
        rcases this with rfl | rfl | rfl | rfl <;> simp <;> omega
theorem bt_enc {r:Int} (h:okR r=true) (l:List UInt8) {k:Nat} (hk:k<(enc r).length):bt (enc r++l) k=(encN r.toNat).getD k 0:=by
  obtain ⟨n,rfl,hn⟩:=okR_nat h
  rw [enc_length] at hk
  unfold enc
  refine bt_map hk ?_
  simp only [List.getD,List.getElem?_eq_getElem hk,Option.getD_some]
  exact encN_lt (by omega) _ (List.getElem_mem hk)
theorem bt_enc_cont {r:Int} (h:okR r=true) (l:List UInt8) {k:Nat} (hk:k<(enc r).length):bt (enc r++l) k / 64=2 ↔ 0<k:=by
  rw [bt_enc h l hk]
  obtain ⟨n,rfl,hn⟩:=okR_nat h
  exact encN_cont (by omega) (by rwa [enc_length] at hk)
def runesF:Nat→List UInt8→List Int
  | 0,_=>[]
  | f+1,l=>if l=[] then [] else (runeL l).1::runesF f (l.drop (runeL l).2)
def runesL (l:List UInt8):List Int:=runesF l.length l
theorem runesF_nil (f:Nat):runesF f []=[]:=by cases f <;> simp [runesF]
theorem runesF_eq : ∀ (f g : Nat) (l : List UInt8), l.length ≤ f → l.length ≤ g → runesF f l = runesF g l := by
  intro f
  induction f with
  | zero => intro g l h _; have : l = [] := List.eq_nil_of_length_eq_zero (by omega)
            rw [this, runesF_nil, runesF_nil]
  | succ f ih =>
    intro g l h k
    cases g with
    | zero => have : l = [] := List.eq_nil_of_length_eq_zero (by omega)
              rw [this, runesF_nil, runesF_nil]
    | succ g =>
      by_cases hl : l = []
      · rw [hl, runesF_nil, runesF_nil]
      · have hw := runeL_width l hl
        simp only [runesF, if_neg hl]
        rw [ih g _ (by rw [List.length_drop]; omega) (by rw [List.length_drop]; omega)]
theorem runesL_cons {l:List UInt8} (h:l ≠ []):runesL l=(runeL l).1::runesL (l.drop (runeL l).2):=by
  have hw:=runeL_width l h
  unfold runesL
  have hm:l.length=(l.length - 1)+1:=by omega
  rw [hm,runesF,if_neg h,runesF_eq _ (l.drop (runeL l).2).length _ (by rw [List.length_drop];omega) (Nat.le_refl _)]
def validL (l:List UInt8):Bool:=(runesL l).all fun r=>decide (0≤r)
def joinL (rs:List Int):List UInt8:=rs.flatMap enc
def okAll (rs:List Int):Bool:=rs.all okR
theorem joinL_cons (r:Int) (rs:List Int):joinL (r::rs)=enc r++joinL rs:=rfl
theorem joinL_append (a b:List Int):joinL (a++b)=joinL a++joinL b:=by simp [joinL]
theorem valid_cons {l:List UInt8} (h:l ≠ []):validL l=(decide (0≤(runeL l).1) && validL (l.drop (runeL l).2)):=by
  unfold validL;rw [runesL_cons h];rfl
theorem join_runesF : ∀ (m : Nat) (l : List UInt8), l.length ≤ m → validL l = true → okAll (runesL l) = true ∧ joinL (runesL l) = l := by
  intro m
  induction m with
  | zero => intro l h _; have : l = [] := List.eq_nil_of_length_eq_zero (by omega)
            rw [this]; exact ⟨rfl, rfl⟩
  | succ m ih =>
    intro l h hv
    by_cases hl : l = []
    · rw [hl]; exact ⟨rfl, rfl⟩
    · have hw := runeL_width l hl
      rw [valid_cons hl, Bool.and_eq_true, decide_eq_true_eq] at hv
      obtain ⟨h1, h2, _, _⟩ := runeL_inv l hl hv.1
      obtain ⟨i1, i2⟩ := ih (l.drop (runeL l).2) (by rw [List.length_drop]; omega) hv.2
      rw [runesL_cons hl]
      refine ⟨by simp only [okAll, List.all_cons, Bool.and_eq_true]; exact ⟨h1, i1⟩, ?_⟩
      rw [joinL_cons, h2, i2, List.take_append_drop]
theorem join_runes {l:List UInt8} (h:validL l=true):okAll (runesL l)=true∧joinL (runesL l)=l:=join_runesF _ l (Nat.le_refl _) h
end Go.Proofs.YtijaphbccnadbaaGreatDoor
namespace Go.Proofs.YtijaphbccnadbaaGreatDoor
open Go.RowKit Go.Shelf
def UT (w:World):Prop:=Lib.Utf8Tabs 0 1 w
theorem UT.below {w w':World} (h:UT w) (hb:Below w.heap.size w w'):UT w':=by
  refine ⟨fun c hc=>?_,fun i hi=>⟨?_,?_⟩⟩
  · have h1:=h.1 c hc
    rw [hb.cell (World.block_lt_of_cell? w _ h1)];exact h1
  · have h1:=(h.2 i hi).1
    rw [hb.cell (World.block_lt_of_cell? w _ h1)];exact h1
  · have h1:=(h.2 i hi).2
    rw [hb.cell (World.block_lt_of_cell? w _ h1)];exact h1
def runeAt (s:ByteArray) (k:Int):Int × Int :=
  if k<0∨(s.size:Int)≤k then (-1,0) else ((runeL (s.data.toList.drop k.toNat)).1,((runeL (s.data.toList.drop k.toNat)).2:Int))
theorem extract_list (s:ByteArray) (k:Nat):(s.extract k s.size).data.toList=s.data.toList.drop k:=by
  rw [ByteArray.data_extract,Array.toList_extract]
  simp [List.extract_eq_take_drop]
  exact List.take_of_length_le (by simp)
theorem decodeGo_drop (s:ByteArray) (k:Nat) (h:k<s.size):Lib.decodeGo (s.extract k s.size)=decL (s.data.toList.drop k):=by
  have hz:(s.extract k s.size).size ≠ 0:=by rw [ByteArray.size_extract];omega
  unfold Lib.decodeGo
  rw [if_neg hz,decode_list]
  congr 1
  rw [List.drop_zero]
  exact extract_list s k
theorem uRune_any (s:ByteArray) (k:Int) (w:World) (hs:s.size≤maxLen) (hk:-9223372036854775808≤k∧k≤9223372036854775807) (hT:UT w) :
    Calls Tryz.prog 200 #[.string s,.int .i64 k] w fun e w'=>e=.returned (.tuple #[.int .i32 (runeAt s k).1,.int .i64 (runeAt s k).2])∧Below w.heap.size w w':=by
  unfold maxLen at hs
  by_cases h0:k<0
  · have e:runeAt s k=(-1,0):=by unfold runeAt;rw [if_pos (.inl h0)]
    rw [e];clear e hT
    go_enter Tryz.func200,Tryz.ntmps200
    go_wp2
    go_ret2
    exact ⟨rfl,Below.refl _ _⟩
  · by_cases h1:(s.size:Int)≤k
    · have e:runeAt s k=(-1,0):=by unfold runeAt;rw [if_pos (.inr h1)]
      rw [e];clear e hT
      go_enter Tryz.func200,Tryz.ntmps200
      go_wp2
      go_ret2
      exact ⟨rfl,Below.refl _ _⟩
    · obtain ⟨n,rfl⟩:∃ n:Nat,k=n:=⟨k.toNat,by omega⟩
      have hn:n<s.size:=by omega
      have e:runeAt s n=((runeL (s.data.toList.drop n)).1,((runeL (s.data.toList.drop n)).2:Int)):=by unfold runeAt;rw [if_neg (by omega)];rfl
      rw [e];clear e
      have hd:=decodeGo_drop s n hn
      have KD:=Lib.hid (Tryz.utf8_DecodeRuneInString (s.extract n s.size) w hT)
      rw [hd] at KD
      clear hT hd
      unfold runeL
      generalize hD:decL (s.data.toList.drop n)=D at *
      obtain ⟨c,m⟩:=D
      clear hD
      have h1':¬ (s.size:Int)≤(n:Int):=h1
      by_cases hc:c=65533
      · subst hc
        by_cases hm:m=1
        · subst hm
          rw [if_pos rfl]
          go_enter Tryz.func200,Tryz.ntmps200
          go_wp2_with fail
          refine KD.out.mono ?_
          rintro r w' ⟨rfl,hb⟩
          have HB:=Lib.hid hb;clear hb
          go_wp2
          go_ret2
          exact ⟨rfl,HB.out⟩
        · rw [if_neg (by intro e;exact hm (congrArg Prod.snd e))]
          have hm':¬ (m:Int)=1:=by omega
          go_enter Tryz.func200,Tryz.ntmps200
          go_wp2_with fail
          refine KD.out.mono ?_
          rintro r w' ⟨rfl,hb⟩
          have HB:=Lib.hid hb;clear hb
          go_wp2
          go_ret2
          exact ⟨rfl,HB.out⟩
      · rw [if_neg (by intro e;exact hc (congrArg Prod.fst e))]
        have hc':¬ (c:Int)=65533:=by omega
        go_enter Tryz.func200,Tryz.ntmps200
        go_wp2_with fail
        refine KD.out.mono ?_
        rintro r w' ⟨rfl,hb⟩
        have HB:=Lib.hid hb;clear hb
        go_wp2
        go_ret2
        exact ⟨rfl,HB.out⟩
def noneAt (s:ByteArray) (k:Int):Bool:=decide ((runeAt s k).1 = -1)
theorem wrong_any (s:ByteArray) (k:Int) (w:World) (hs:s.size≤maxLen) (hk:-9223372036854775808≤k∧k≤9223372036854775807) (hT:UT w) :
    Calls Tryz.prog 176 #[.string s,.int .i64 k] w fun e w'=>e=.returned (.bool (noneAt s k))∧Below w.heap.size w w':=by
  have K:=Lib.hid (uRune_any s k w hs hk hT)
  unfold noneAt
  generalize hR:runeAt s k=R at *
  obtain ⟨c,m⟩:=R
  clear hR hT
  by_cases hc:c = -1
  · subst hc
    go_enter Tryz.func176,Tryz.ntmps176
    go_wp2_with fail
    refine K.out.mono ?_
    rintro r w' ⟨rfl,hb⟩
    have HB:=Lib.hid hb;clear hb
    go_wp2
    go_ret
    exact ⟨rfl,HB.out⟩
  · go_enter Tryz.func176,Tryz.ntmps176
    go_wp2_with fail
    refine K.out.mono ?_
    rintro r w' ⟨rfl,hb⟩
    have HB:=Lib.hid hb;clear hb
    go_wp2
    go_ret
    simp [hc];exact HB.out
end Go.Proofs.YtijaphbccnadbaaGreatDoor
