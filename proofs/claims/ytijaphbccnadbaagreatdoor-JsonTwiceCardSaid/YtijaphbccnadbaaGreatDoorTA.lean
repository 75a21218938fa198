/- Texts of the claim. -/
import Derived.Test.YtijaphbccnadbaaGreatDoorTz
import Derived.Deep.RegionHeld3
import Derived.Deep.QuietTactic
import Derived.BigQuiet
set_option linter.unusedVariables false
set_option linter.unusedSimpArgs false
set_option maxHeartbeats 2000000
set_option maxRecDepth 100000
namespace Go.Proofs.YtijaphbccnadbaaGreatDoor
open Go.RowKit Go.Shelf Go.Lib
theorem setCell_selfJ {w:World} {g j:Nat} {v:Value} (h:w.cell? ⟨g,j,none⟩=some v):w.setCell ⟨g,j,none⟩ v=w:=by
  have e:(w.setCell ⟨g,j,none⟩ v).heap=w.heap:=by
    apply Array.ext_getElem?
    intro k
    simp only [World.setCell,Array.getElem?_modify]
    by_cases hk:g=k
    · subst hk
      rw [if_pos rfl]
      unfold World.cell? at h
      cases hh:w.heap[g]? with
      | none=>rfl
      | some o =>
        cases o with
        | cells c t f =>
          simp only [hh] at h
          have h2:c[j]? = some v:=by simpa using h
          obtain ⟨h3,h4⟩:=Array.getElem?_eq_some_iff.1 h2
          have h5:c.setIfInBounds j v=c:=by
            apply Array.ext_getElem?
            intro i
            rw [Array.getElem?_setIfInBounds]
            split
            · rename_i hij;subst hij;first | exact h2.symm | (rw [if_pos h3];exact h2.symm)
            · rfl
          simp [h5]
        | _=>rfl
    · rw [if_neg hk]
  show ({ w with heap:=(w.setCell ⟨g,j,none⟩ v).heap }:World)=w
  rw [e]
theorem setCell_twice (w:World) (a:Addr) (x y:Value):(w.setCell a x).setCell a y=w.setCell a y:=by
  have e:((w.setCell a x).setCell a y).heap=(w.setCell a y).heap:=by
    apply Array.ext_getElem?
    intro k
    simp only [World.setCell,Array.getElem?_modify]
    by_cases hk:a.block=k
    · simp only [if_pos hk]
      cases hh:w.heap[k]? with
      | none=>rfl
      | some o =>
        cases o <;> simp
        by_cases ha:a.spot.isSome=true <;> simp [ha]
    · simp only [if_neg hk]
  show ({ w with heap:=((w.setCell a x).setCell a y).heap }:World) = { w with heap:=(w.setCell a y).heap }
  rw [e]
structure Rdr (g:Nat) (s:ByteArray) (k:Int) (w:World):Prop where
  c0:w.cell? ⟨g,0,none⟩=some (.string s)
  c1:w.cell? ⟨g,1,none⟩=some (.int .i64 k)
  f1:w.frozen? ⟨g,1,none⟩=false
theorem Rdr.lt {g:Nat} {s:ByteArray} {k:Int} {w:World} (h:Rdr g s k w):g<w.heap.size:=World.block_lt_of_cell? w _ h.c0
def Stepd (g:Nat) (k:Int) (w w':World):Prop:=Below w.heap.size (w.setCell ⟨g,1,none⟩ (.int .i64 k)) w'
theorem Stepd.size {g:Nat} {k:Int} {w w':World} (h:Stepd g k w w'):w.heap.size≤w'.heap.size:=by
  have:=Below.size h;simpa [World.setCell] using this
theorem Stepd.of_below {g:Nat} {s:ByteArray} {k:Int} {w w':World} (hr:Rdr g s k w) (h:Below w.heap.size w w'):Stepd g k w w':=by
  unfold Stepd;rw [setCell_selfJ hr.c1];exact h
theorem Stepd.trans {g:Nat} {k j:Int} {w w1 w2:World} (h:Stepd g k w w1) (h2:Stepd g j w1 w2):Stepd g j w w2:=by
  have hs:=h.size
  refine ⟨?_,?_,?_,?_,?_⟩
  · have a:=Below.os h2;have b:=Below.os h;exact a.trans b
  · have a:=Below.tape h2;have b:=Below.tape h;exact a.trans b
  · have a:=Below.output h2;have b:=Below.output h;exact a.trans b
  · have a:=h2.size;have b:=h.size;simp [World.setCell];omega
  · intro i hi
    rw [Below.block h2 i (by omega)]
    by_cases hg:i=g
    · have e:(w1.setCell ⟨g,1,none⟩ (.int .i64 j)).heap[i]? = ((w.setCell ⟨g,1,none⟩ (.int .i64 k)).setCell ⟨g,1,none⟩ (.int .i64 j)).heap[i]?:=by
        simp only [World.setCell,Array.getElem?_modify]
        have:=Below.block h i hi
        simp only [World.setCell,Array.getElem?_modify] at this
        rw [this]
      rw [e,setCell_twice]
    · rw [Below.heap_setCell _ _ _ _ (by simpa using hg),Below.heap_setCell _ _ _ _ (by simpa using hg),Below.block h i hi,Below.heap_setCell _ _ _ _ (by simpa using hg)]
theorem Stepd.rdr {g:Nat} {s:ByteArray} {k j:Int} {w w':World} (hr:Rdr g s k w) (h:Stepd g j w w'):Rdr g s j w':=by
  have hlt:=hr.lt
  refine ⟨?_,?_,?_⟩
  · rw [Below.cell h (p:=⟨g,0,none⟩) hlt,World.cell?_setCell_other (h:=by simp)];exact hr.c0
  · rw [Below.cell h (p:=⟨g,1,none⟩) hlt]
    exact World.cell?_setCell_same _ _ _ hr.c1
  · rw [Below.frozen h (p:=⟨g,1,none⟩) hlt,World.frozen?_setCell]
    exact hr.f1
theorem Stepd.block {g:Nat} {j:Int} {w w':World} (h:Stepd g j w w') {i:Nat} (hi:i<w.heap.size) (hg:i ≠ g):w'.heap[i]? = w.heap[i]?:=by
  rw [Below.block h i hi,Below.heap_setCell _ _ _ _ (by simpa using hg)]
theorem Stepd.below {g B:Nat} {j:Int} {w w':World} (h:Stepd g j w w') (hB:B≤g) (hs:B≤w.heap.size):Below B w w' :=
  ((Below.refl B w).setCell (by simpa using hB) _).trans (Below.mono h hs)
def ThrowsR (g:Nat) (w:World) (e:Ending) (w':World):Prop:=e=.panicked [{ v:=.iface 31 (.int .i64 2),recovered:=false }]∧∃ k,Stepd g k w w'
theorem ThrowsR.on {g:Nat} {k:Int} {w w1 w':World} {e:Ending} (h:Stepd g k w w1) (h2:ThrowsR g w1 e w'):ThrowsR g w e w':=by
  obtain ⟨he,j,hj⟩:=h2
  exact ⟨he,j,h.trans hj⟩
def TakeY (g:Nat) (c:UInt8) (n:Nat) (w:World) (e:Ending) (w':World):Prop:=e=.returned (.int .u8 ((c.toNat:Nat):Int))∧Stepd g ((n+1:Nat):Int) w w'
theorem take_no (g:Nat) (s:ByteArray) (k:Int) (w:World) (hs:s.size≤1000000) (hr:Rdr g s k w) (hk:-9223372036854775808≤k∧k≤9223372036854775807) (hno:k<0∨(s.size:Int)≤k) :
    Calls Tryz.prog 163 #[.pointer (some ⟨g,0,none⟩)] w (ThrowsR g w):=by
  have HF:=Lib.hid (fun W (h:Below w.heap.size w W)=>Stepd.of_below hr h)
  obtain ⟨c0,c1,f1⟩:=hr
  by_cases h0:k<0
  · have b0:decide (k<0)=true:=decide_eq_true h0
    go_enter Tryz.func163,Tryz.ntmps163
    go_wp2
    go_region
    go_wp2
    exact ⟨rfl,rfl,k,HF.out _ (Below.refl _ _).drew⟩
  · have b0:decide (k<0)=false:=decide_eq_false h0
    have b1:(s.size:Int)≤k:=by omega
    go_enter Tryz.func163,Tryz.ntmps163
    go_wp2
    go_region
    go_wp2
    exact ⟨rfl,rfl,k,HF.out _ (Below.refl _ _).drew⟩
theorem take_yes (g:Nat) (s:ByteArray) (n:Nat) (w:World) (hs:s.size≤1000000) (hr:Rdr g s n w) (hn:n<s.size) (c:UInt8) (hc:s[n]'hn=c) :
    Calls Tryz.prog 163 #[.pointer (some ⟨g,0,none⟩)] w (TakeY g c n w):=by
  have hlt:=Lib.hid hr.lt
  obtain ⟨c0,c1,f1⟩:=hr
  have b0:decide ((n:Int)<0)=false:=decide_eq_false (by omega)
  have b1:¬ (s.size:Int)≤(n:Int):=by omega
  go_enter Tryz.func163,Tryz.ntmps163
  go_wp2
  go_region
  go_wp2
  go_region
  go_wp2
  go_ret
  exact ⟨rfl,((Below.refl _ _).drew).drew⟩
def MustY (g:Nat) (n:Nat) (w:World) (e:Ending) (w':World):Prop:=e=.returned (.tuple #[])∧Stepd g ((n+1:Nat):Int) w w'
theorem must_yes (g:Nat) (s:ByteArray) (n:Nat) (w:World) (c:UInt8) (hs:s.size≤1000000) (hr:Rdr g s n w) (hn:n<s.size) (hc:s[n]'hn=c) :
    Calls Tryz.prog 161 #[.pointer (some ⟨g,0,none⟩),.int .u8 ((c.toNat:Nat):Int)] w (MustY g n w):=by
  have K:=Lib.hid (take_yes g s n w hs hr hn c hc)
  clear hr hc
  go_enter Tryz.func161,Tryz.ntmps161
  go_wp2_with fail
  refine K.out.mono ?_
  rintro r w1 ⟨rfl,h1⟩
  have H1:=Lib.hid h1;clear h1
  go_wp2
  exact bodyPost_ret (v:=.tuple #[]) (by simp [results,Tryz.results161,go_sem]) rfl ⟨rfl,H1.out⟩
theorem must_no (g:Nat) (s:ByteArray) (k:Int) (w:World) (c:UInt8) (hs:s.size≤1000000) (hr:Rdr g s k w) (hk:-9223372036854775808≤k∧k≤9223372036854775807) (hno:∀ n:Nat,k=n→s.data.toList[n]? ≠ some c) :
    Calls Tryz.prog 161 #[.pointer (some ⟨g,0,none⟩),.int .u8 ((c.toNat:Nat):Int)] w (ThrowsR g w):=by
  by_cases h0:k<0∨(s.size:Int)≤k
  · have K:=Lib.hid (take_no g s k w hs hr hk h0)
    clear hr hno h0
    go_enter Tryz.func161,Tryz.ntmps161
    go_wp2_with fail
    refine K.out.mono ?_
    rintro r w1 ⟨rfl,j,h1⟩
    have H1:=Lib.hid h1;clear h1
    go_wp2
    exact ⟨rfl,rfl,j,H1.out⟩
  · obtain ⟨n,rfl⟩:∃ n:Nat,k=n:=⟨k.toNat,by omega⟩
    have hn:n<s.size:=by omega
    have hne:s[n]'hn ≠ c:=by
      intro e;apply hno n rfl
      rw [List.getElem?_eq_getElem (by simpa using hn)]
      rw [← e];rfl
    have K:=Lib.hid (take_yes g s n w hs hr hn _ rfl)
    generalize s[n]'hn=d at *
    have hne2:d.toNat ≠ c.toNat:=fun e=>hne (UInt8.toNat_inj.1 e)
    have b1:((d.toNat:Int) == (c.toNat:Int))=false:=by rw [beq_eq_false_iff_ne];omega
    have b2:((d.toNat:Int) != (c.toNat:Int))=true:=by rw [bne_iff_ne];omega
    clear hr hno h0 hne hne2
    go_enter Tryz.func161,Tryz.ntmps161
    go_wp2_with fail
    refine K.out.mono ?_
    rintro r w1 ⟨rfl,h1⟩
    have H1:=Lib.hid h1;clear h1
    go_wp2
    exact ⟨rfl,rfl,_,H1.out⟩
def ThrowsW (w:World) (e:Ending) (w':World):Prop:=e=.panicked [{ v:=.iface 31 (.int .i64 2),recovered:=false }]∧w'=w
theorem digit_yes (c d:Nat) (w:World) (hc:c<256) (hd:hexN c=some d) :
    Calls Tryz.prog 214 #[.int .u8 (c:Int)] w fun e w'=>e=.returned (.int .i32 (d:Int))∧w'=w:=by
  have hcz:0≤(c:Int)∧(c:Int)≤255:=by omega
  unfold hexN at hd
  split at hd
  · rename_i h1
    simp only [Option.some.injEq] at hd
    have hd2:(d:Int)=(c:Int) - 48:=by omega
    have b1:decide ((65:Int)≤(c:Int))=false:=decide_eq_false (by omega)
    have b2:decide ((97:Int)≤(c:Int))=false:=decide_eq_false (by omega)
    have b3:decide ((48:Int)≤(c:Int))=true:=decide_eq_true (by omega)
    have b4:decide ((c:Int)≤57)=true:=decide_eq_true (by omega)
    have l1:(48:Int)≤(c:Int):=by omega
    have l2:(c:Int)≤57:=by omega
    have HD:=Lib.hid hd2
    clear hd hd2 h1 hc hcz
    generalize (c:Int)=x at *
    go_enter Tryz.func214,Tryz.ntmps214
    go_wp2
    go_ret
    exact ⟨by rw [HD.out];rfl,rfl⟩
  · rename_i h1
    split at hd
    · rename_i h2
      simp only [Option.some.injEq] at hd
      have hd2:(d:Int)=(c:Int) - 97+10:=by omega
      have b1:decide ((65:Int)≤(c:Int))=true:=decide_eq_true (by omega)
      have b0:decide ((c:Int)≤70)=false:=decide_eq_false (by omega)
      have b2:decide ((97:Int)≤(c:Int))=true:=decide_eq_true (by omega)
      have b4:decide ((c:Int)≤102)=true:=decide_eq_true (by omega)
      have l1:(97:Int)≤(c:Int):=by omega
      have l2:(c:Int)≤102:=by omega
      have HD:=Lib.hid hd2
      clear hd hd2 h1 h2 hc hcz
      generalize (c:Int)=x at *
      go_enter Tryz.func214,Tryz.ntmps214
      go_wp2
      go_ret
      exact ⟨by rw [HD.out];first | rfl | (refine congrArg Ending.returned ?_;show Value.int _ _=_;congr 1),rfl⟩
    · rename_i h2
      split at hd
      · rename_i h3
        simp only [Option.some.injEq] at hd
        have hd2:(d:Int)=(c:Int)+32 - 97+10:=by omega
        have b1:decide ((65:Int)≤(c:Int))=true:=decide_eq_true (by omega)
        have b0:decide ((c:Int)≤70)=true:=decide_eq_true (by omega)
        have l1:(65:Int)≤(c:Int):=by omega
        have l2:(c:Int)≤70:=by omega
        have l3:97≤(c:Int)+32:=by omega
        have l4:(c:Int)+32≤102:=by omega
        have HD:=Lib.hid hd2
        clear hd hd2 h1 h2 h3 hc hcz
        generalize (c:Int)=x at *
        go_enter Tryz.func214,Tryz.ntmps214
        go_wp2
        go_ret
        exact ⟨by rw [HD.out];first | rfl | (refine congrArg Ending.returned ?_;show Value.int _ _=_;congr 1;omega),rfl⟩
      · cases hd
theorem digit_no (c:Nat) (w:World) (hc:c<256) (hd:hexN c=none) :
    Calls Tryz.prog 214 #[.int .u8 (c:Int)] w (ThrowsW w):=by
  have hno:¬ (48≤c∧c≤57)∧¬ (97≤c∧c≤102)∧¬ (65≤c∧c≤70):=by
    unfold hexN at hd
    refine ⟨?_,?_,?_⟩
    · intro h;rw [if_pos h] at hd;cases hd
    · intro h;rw [if_neg (by omega),if_pos h] at hd;cases hd
    · intro h;rw [if_neg (by omega),if_neg (by omega),if_pos h] at hd;cases hd
  have hcz:0≤(c:Int)∧(c:Int)≤255:=by omega
  unfold ThrowsW
  have h4:(c<48)∨(58≤c∧c<65)∨(71≤c∧c<97)∨103≤c:=by omega
  rcases h4 with h | h | h | h
  · have b1:decide ((65:Int)≤(c:Int))=false:=decide_eq_false (by omega)
    have b2:decide ((97:Int)≤(c:Int))=false:=decide_eq_false (by omega)
    have b3:decide ((48:Int)≤(c:Int))=false:=decide_eq_false (by omega)
    clear hd hno h hc
    generalize (c:Int)=x at *
    go_enter Tryz.func214,Tryz.ntmps214
    go_wp2
    exact ⟨rfl,rfl,rfl⟩
  · have b1:decide ((65:Int)≤(c:Int))=false:=decide_eq_false (by omega)
    have b2:decide ((97:Int)≤(c:Int))=false:=decide_eq_false (by omega)
    have b3:decide ((48:Int)≤(c:Int))=true:=decide_eq_true (by omega)
    have b4:decide ((c:Int)≤57)=false:=decide_eq_false (by omega)
    clear hd hno h hc
    generalize (c:Int)=x at *
    go_enter Tryz.func214,Tryz.ntmps214
    go_wp2
    exact ⟨rfl,rfl,rfl⟩
  · have b1:decide ((65:Int)≤(c:Int))=true:=decide_eq_true (by omega)
    have b5:decide ((c:Int)≤70)=false:=decide_eq_false (by omega)
    have b2:decide ((97:Int)≤(c:Int))=false:=decide_eq_false (by omega)
    have b3:decide ((48:Int)≤(c:Int))=true:=decide_eq_true (by omega)
    have b4:decide ((c:Int)≤57)=false:=decide_eq_false (by omega)
    clear hd hno h hc
    generalize (c:Int)=x at *
    go_enter Tryz.func214,Tryz.ntmps214
    go_wp2
    exact ⟨rfl,rfl,rfl⟩
  · have b1:decide ((65:Int)≤(c:Int))=true:=decide_eq_true (by omega)
    have b5:decide ((c:Int)≤70)=false:=decide_eq_false (by omega)
    have b2:decide ((97:Int)≤(c:Int))=true:=decide_eq_true (by omega)
    have b6:decide ((c:Int)≤102)=false:=decide_eq_false (by omega)
    have b3:decide ((48:Int)≤(c:Int))=true:=decide_eq_true (by omega)
    have b4:decide ((c:Int)≤57)=false:=decide_eq_false (by omega)
    clear hd hno h hc
    generalize (c:Int)=x at *
    go_enter Tryz.func214,Tryz.ntmps214
    go_wp2
    exact ⟨rfl,rfl,rfl⟩
theorem i32_or16 (x y:Int) (hx:0≤x) (hx2:x≤1000000) (hm:x % 16=0) (h₀:0≤y) (h₁:y<16):bits .or .i32 x y=x+y :=
  bits_join .i32 31 (by decide) wraps_i32 4 x y hx (by simpa using hm) (by simpa using (show x<2147483648 by omega)) h₀ (by simpa using h₁) (by simpa using (show y<2147483648 by omega))
theorem tail_cons {s:ByteArray} {n:Nat} (h:n<s.size):tailL s n=s[n]'h::tailL s (n+1):=by
  unfold tailL
  rw [List.drop_eq_getElem_cons (by simpa using h)]
  congr 1
def HalfPost (g:Nat) (r:Option Nat) (n:Nat) (w:World) (e:Ending) (w':World):Prop :=
  match r with
  | some r=>e=.returned (.int .i32 ((r:Nat):Int))∧Stepd g ((n+4:Nat):Int) w w'
  | none=>ThrowsR g w e w'
def HR (g:Nat) (s:ByteArray) (n:Nat) (w:World) (k:Nat) (v i:Value) (wr:World):Prop :=
  ∃ j x:Nat,j≤4∧4 - j≤k∧i=.int .i64 (j:Int)∧v=.int .i32 (x:Int)∧x<16 ^ j∧hexF (4 - j) x (tailL s (n+j))=fourL (tailL s n)∧Stepd g ((n+j:Nat):Int) w wr
theorem half_any (g:Nat) (s:ByteArray) (n:Nat) (w:World) (hs:s.size≤1000000) (hr:Rdr g s n w) (hn:n≤2000000) :
    Calls Tryz.prog 209 #[.pointer (some ⟨g,0,none⟩)] w (HalfPost g (fourL (tailL s n)) n w):=by
  have HRD:=Lib.hid (fun (k:Nat) W (h:Stepd g (k:Int) w W)=>h.rdr hr)
  have HST:=Lib.hid (show HR g s n w 4 (.int .i32 0) (.int .i64 0) w from ⟨0,0,by omega,by omega,rfl,rfl,by decide,rfl,Stepd.of_below hr (Below.refl _ _)⟩)
  clear hr
  go_enter Tryz.func209,Tryz.ntmps209
  go_wp2
  go_loopg [3,4] 4 (fun k v i wr=>HR g s n w k v i wr)
  case atStart=>exact HST.out
  case round =>
    obtain ⟨j,x,hj,hk,rfl,rfl,hx,he,hst⟩:=hrel
    have HE:=Lib.hid he;have HS:=Lib.hid hst;have HX:=Lib.hid hx
    have hr:=HRD.out _ _ hst
    clear he hst
    by_cases h4:j<4
    · obtain ⟨k,rfl⟩:∃ k,gk=k+1:=⟨gk - 1,by omega⟩
      have hjz:(j:Int)<4:=by omega
      have hxb:x<4096:=by
        have:16 ^ j≤16 ^ 3:=Nat.pow_le_pow_right (by decide) (by omega)
        omega
      clear hx
      by_cases hl:n+j<s.size
      · have HT:=Lib.hid (tail_cons hl)
        have KT:=Lib.hid (take_yes g s (n+j) wr hs hr hl _ rfl)
        generalize s[n+j]=c at *
        have hc:=c.toNat_lt
        cases hd:hexN c.toNat with
        | none =>
          have HN:=Lib.hid (show fourL (tailL s n)=none by
            rw [← HE.out,HT.out,show 4 - j=(3 - j)+1 by omega];simp only [hexF,hd])
          have KD:=Lib.hid (fun W=>digit_no c.toNat W hc hd)
          clear hd hr
          unfold ThrowsW at KD
          go_wp2_with fail
          refine KT.out.mono ?_
          rintro r w1 ⟨rfl,h1⟩
          have H1:=Lib.hid (HS.out.trans h1);clear h1
          go_wp2_with fail
          refine (KD.out _).mono ?_
          rintro r w2 ⟨rfl,rfl⟩
          go_wp2
          unfold HalfPost
          rw [HN.out]
          exact ⟨rfl,rfl,_,H1.out⟩
        | some d =>
          have hdl:=hexN_lt hd
          have HN:=Lib.hid (show hexF (4 - (j+1)) (x*16+d) (tailL s (n+(j+1)))=fourL (tailL s n) by
            rw [← HE.out,HT.out,show 4 - j=(4 - (j+1))+1 by omega];simp only [hexF,hd];rfl)
          have KD:=Lib.hid (fun W=>digit_yes c.toNat d W hc hd)
          have hor:=i32_or16 ((x:Int)*16) (d:Int) (by omega) (by omega) (by omega) (by omega) (by omega)
          have HP:=Lib.hid (show x*16+d<16 ^ (j+1) by have:=HX.out;rw [Nat.pow_succ];omega)
          clear hd hr
          go_wp2_with fail
          refine KT.out.mono ?_
          rintro r w1 ⟨rfl,h1⟩
          have H1:=Lib.hid (HS.out.trans h1);clear h1
          go_wp2_with fail
          refine (KD.out _).mono ?_
          rintro r w2 ⟨rfl,rfl⟩
          go_wp2
          go_roundg k
          case rel=>exact ⟨j+1,x*16+d,by omega,by omega,by go_num,by first | rfl | (congr 1) | skip,HP.out,HN.out,H1.out⟩
          case measure=>omega
      · have HN:=Lib.hid (show fourL (tailL s n)=none by
          rw [← HE.out,tailL_end (by omega),show 4 - j=(3 - j)+1 by omega];rfl)
        have KT:=Lib.hid (take_no g s ((n+j:Nat):Int) wr hs hr (by omega) (by omega))
        clear hr
        go_wp2_with fail
        refine KT.out.mono ?_
        rintro r w1 ⟨rfl,q,h1⟩
        have H1:=Lib.hid (HS.out.trans h1);clear h1
        go_wp2
        unfold HalfPost
        rw [HN.out]
        exact ⟨rfl,rfl,_,H1.out⟩
    · obtain rfl:j=4:=by omega
      have HN:=Lib.hid (show fourL (tailL s n)=some x by rw [← HE.out];rfl)
      clear hr hx
      go_wp2
      go_ret
      unfold HalfPost
      rw [HN.out]
      exact ⟨rfl,HS.out⟩
def cpL (l:List UInt8):Option (Nat × Nat) :=
  match fourL l with
  | none=>none
  | some r=>if r<55296∨57343<r then some (r,4) else if 56320≤r then none else
    match lowL (l.drop 4) with
    | none=>none
    | some low=>some (65536+(r - 55296)*1024+(low - 56320),10)
theorem escL_u {c:UInt8} (h:c.toNat=117) (l:List UInt8):escL (c::l)=(cpL l).map fun p=>(enc (p.1:Int),p.2+1):=by
  simp only [escL,if_pos h,cpL]
  cases fourL l with
  | none=>rfl
  | some r =>
    simp only
    split
    · rfl
    · split
      · rfl
      · cases lowL (l.drop 4) <;> rfl
theorem bt_tail {s:ByteArray} {k j:Nat} {c:UInt8} (hc:c.toNat ≠ 0):bt (tailL s k) j=c.toNat ↔ s.data.toList[k+j]? = some c:=by
  unfold bt tailL
  rw [List.getD,List.getElem?_drop]
  cases h:s.data.toList[k+j]? with
  | none=>simp;omega
  | some x =>
    simp only [Option.getD_some,Option.some.injEq]
    exact UInt8.toNat_inj
theorem get_some {s:ByteArray} {k:Nat} {c:UInt8} (h:s.data.toList[k]? = some c):∃ hk:k<s.size,s[k]'hk=c:=by
  obtain ⟨h1,h2⟩:=List.getElem?_eq_some_iff.1 h
  exact ⟨by simpa using h1,by rw [← h2];rfl⟩
def CpPost (g:Nat) (r:Option (Nat × Nat)) (n:Nat) (w:World) (e:Ending) (w':World):Prop :=
  match r with
  | some p=>e=.returned (.int .i32 ((p.1:Nat):Int))∧Stepd g ((n+p.2:Nat):Int) w w'
  | none=>ThrowsR g w e w'
theorem codePoint_any (g:Nat) (s:ByteArray) (n:Nat) (w:World) (hs:s.size≤1000000) (hr:Rdr g s n w) (hn:n≤1000000) :
    Calls Tryz.prog 193 #[.pointer (some ⟨g,0,none⟩)] w (CpPost g (cpL (tailL s n)) n w):=by
  have KH:=Lib.hid (half_any g s n w hs hr (by omega))
  have HRD:=Lib.hid (fun (k:Nat) W (h:Stepd g (k:Int) w W)=>h.rdr hr)
  clear hr
  cases hf:fourL (tailL s n) with
  | none =>
    have HC:=Lib.hid (show cpL (tailL s n)=none by unfold cpL;rw [hf])
    rw [hf] at KH
    clear hf
    unfold HalfPost at KH
    go_enter Tryz.func193,Tryz.ntmps193
    go_wp2_with fail
    refine KH.out.mono ?_
    rintro r w1 ⟨rfl,j,h1⟩
    have H1:=Lib.hid h1;clear h1
    go_wp2
    unfold CpPost
    rw [HC.out]
    exact ⟨rfl,rfl,_,H1.out⟩
  | some r =>
    have hlt:=fourL_lt hf
    have h4:=fourL_len hf
    rw [tailL_length] at h4
    rw [hf] at KH
    unfold HalfPost at KH
    by_cases hsur:r<55296∨57343<r
    · have HC:=Lib.hid (show cpL (tailL s n)=some (r,4) by unfold cpL;rw [hf];simp only [if_pos hsur])
      clear hf
      by_cases h0:r<55296
      · have b0:decide ((r:Int)<55296)=true:=decide_eq_true (by omega)
        go_enter Tryz.func193,Tryz.ntmps193
        go_wp2_with fail
        refine KH.out.mono ?_
        rintro x w1 ⟨rfl,h1⟩
        have H1:=Lib.hid h1;clear h1
        go_wp2
        go_ret
        unfold CpPost
        rw [HC.out]
        exact ⟨rfl,H1.out⟩
      · have b0:decide ((r:Int)<55296)=false:=decide_eq_false (by omega)
        have b1:decide ((57343:Int)<(r:Int))=true:=decide_eq_true (by omega)
        go_enter Tryz.func193,Tryz.ntmps193
        go_wp2_with fail
        refine KH.out.mono ?_
        rintro x w1 ⟨rfl,h1⟩
        have H1:=Lib.hid h1;clear h1
        go_wp2
        go_ret
        unfold CpPost
        rw [HC.out]
        exact ⟨rfl,H1.out⟩
    · have b0:decide ((r:Int)<55296)=false:=decide_eq_false (by omega)
      have b1:decide ((57343:Int)<(r:Int))=false:=decide_eq_false (by omega)
      have hr1:55296≤r∧r≤57343:=by omega
      have HCN:=Lib.hid (fun (h:56320≤r∨lowL (tailL s (n+4))=none)=>(by
        unfold cpL;rw [hf];simp only [if_neg hsur]
        split
        · rfl
        · rename_i h5
          rw [tailL_drop]
          rcases h with h | h
          · exact absurd h h5
          · rw [h]:cpL (tailL s n)=none))
      have HCY:=Lib.hid (fun low (h:lowL (tailL s (n+4))=some low) (h5:r<56320)=>(by
        unfold cpL;rw [hf];simp only [if_neg hsur,if_neg (show ¬ 56320≤r by omega)]
        rw [tailL_drop,h]:cpL (tailL s n)=some (65536+(r - 55296)*1024+(low - 56320),10)))
      clear hf hsur hlt
      have hl0:(55296:Int)≤(r:Int):=by omega
      have hl1:(r:Int)≤57343:=by omega
      by_cases hA:s.data.toList[n+4]? = some 92
      · obtain ⟨hAk,hA2⟩:=get_some hA
        have KM1:=Lib.hid (fun W (h:Stepd g ((n+4:Nat):Int) w W)=>must_yes g s (n+4) W 92 hs (HRD.out _ W h) hAk hA2)
        by_cases hB:s.data.toList[n+5]? = some 117
        · obtain ⟨hBk,hB2⟩:=get_some hB
          have KM2:=Lib.hid (fun W (h:Stepd g ((n+5:Nat):Int) w W)=>must_yes g s (n+5) W 117 hs (HRD.out _ W h) hBk hB2)
          have KH2:=Lib.hid (fun W (h:Stepd g ((n+6:Nat):Int) w W)=>half_any g s (n+6) W hs (HRD.out _ W h) (by omega))
          have hlow:lowL (tailL s (n+4))=match fourL (tailL s (n+6)) with | none=>none | some r=>if 56320≤r∧r≤57343 then some r else none:=by
            unfold lowL
            rw [if_pos ⟨(bt_tail (c:=92) (by decide)).2 hA,(bt_tail (c:=117) (by decide)).2 hB⟩,tailL_drop]
            rfl
          have HL:=Lib.hid hlow
          clear hA hB hAk hBk hA2 hB2 hlow
          cases hf2:fourL (tailL s (n+6)) with
          | none =>
            have HC:=Lib.hid (HCN.out (.inr (by rw [HL.out,hf2])))
            rw [hf2] at KH2
            clear hf2
            unfold HalfPost at KH2
            go_enter Tryz.func193,Tryz.ntmps193
            go_wp2_with fail
            refine KH.out.mono ?_
            rintro x w1 ⟨rfl,h1⟩
            have H1:=Lib.hid h1;clear h1
            go_wp2_with fail
            refine (KM1.out w1 H1.out).mono ?_
            rintro x w2 ⟨rfl,h2⟩
            have H2:=Lib.hid (H1.out.trans h2);clear h2
            go_wp2_with fail
            refine (KM2.out w2 H2.out).mono ?_
            rintro x w3 ⟨rfl,h3⟩
            have H3:=Lib.hid (H2.out.trans h3);clear h3
            go_wp2_with fail
            refine (KH2.out w3 H3.out).mono ?_
            rintro x w4 ⟨rfl,q,h4⟩
            have H4:=Lib.hid (H3.out.trans h4);clear h4
            go_wp2
            unfold CpPost
            rw [HC.out]
            exact ⟨rfl,rfl,_,H4.out⟩
          | some low =>
            have hll:=fourL_lt hf2
            rw [hf2] at KH2
            unfold HalfPost at KH2
            by_cases hr5:56320≤r
            · have HC:=Lib.hid (HCN.out (.inl hr5))
              have b2:decide ((56320:Int)≤(r:Int))=true:=decide_eq_true (by omega)
              clear hf2
              go_enter Tryz.func193,Tryz.ntmps193
              go_wp2_with fail
              refine KH.out.mono ?_
              rintro x w1 ⟨rfl,h1⟩
              have H1:=Lib.hid h1;clear h1
              go_wp2_with fail
              refine (KM1.out w1 H1.out).mono ?_
              rintro x w2 ⟨rfl,h2⟩
              have H2:=Lib.hid (H1.out.trans h2);clear h2
              go_wp2_with fail
              refine (KM2.out w2 H2.out).mono ?_
              rintro x w3 ⟨rfl,h3⟩
              have H3:=Lib.hid (H2.out.trans h3);clear h3
              go_wp2_with fail
              refine (KH2.out w3 H3.out).mono ?_
              rintro x w4 ⟨rfl,h4⟩
              have H4:=Lib.hid (H3.out.trans h4);clear h4
              go_wp2
              unfold CpPost
              rw [HC.out]
              exact ⟨rfl,rfl,_,H4.out⟩
            · have b2:decide ((56320:Int)≤(r:Int))=false:=decide_eq_false (by omega)
              by_cases hlo:low<56320
              · have HC:=Lib.hid (HCN.out (.inr (by rw [HL.out,hf2];simp only;rw [if_neg (by omega)])))
                have b3:decide ((low:Int)<56320)=true:=decide_eq_true (by omega)
                clear hf2
                go_enter Tryz.func193,Tryz.ntmps193
                go_wp2_with fail
                refine KH.out.mono ?_
                rintro x w1 ⟨rfl,h1⟩
                have H1:=Lib.hid h1;clear h1
                go_wp2_with fail
                refine (KM1.out w1 H1.out).mono ?_
                rintro x w2 ⟨rfl,h2⟩
                have H2:=Lib.hid (H1.out.trans h2);clear h2
                go_wp2_with fail
                refine (KM2.out w2 H2.out).mono ?_
                rintro x w3 ⟨rfl,h3⟩
                have H3:=Lib.hid (H2.out.trans h3);clear h3
                go_wp2_with fail
                refine (KH2.out w3 H3.out).mono ?_
                rintro x w4 ⟨rfl,h4⟩
                have H4:=Lib.hid (H3.out.trans h4);clear h4
                go_wp2
                unfold CpPost
                rw [HC.out]
                exact ⟨rfl,rfl,_,H4.out⟩
              · have b3:decide ((low:Int)<56320)=false:=decide_eq_false (by omega)
                by_cases hhi:57343<low
                · have HC:=Lib.hid (HCN.out (.inr (by rw [HL.out,hf2];simp only;rw [if_neg (by omega)])))
                  have b4:decide ((57343:Int)<(low:Int))=true:=decide_eq_true (by omega)
                  clear hf2
                  go_enter Tryz.func193,Tryz.ntmps193
                  go_wp2_with fail
                  refine KH.out.mono ?_
                  rintro x w1 ⟨rfl,h1⟩
                  have H1:=Lib.hid h1;clear h1
                  go_wp2_with fail
                  refine (KM1.out w1 H1.out).mono ?_
                  rintro x w2 ⟨rfl,h2⟩
                  have H2:=Lib.hid (H1.out.trans h2);clear h2
                  go_wp2_with fail
                  refine (KM2.out w2 H2.out).mono ?_
                  rintro x w3 ⟨rfl,h3⟩
                  have H3:=Lib.hid (H2.out.trans h3);clear h3
                  go_wp2_with fail
                  refine (KH2.out w3 H3.out).mono ?_
                  rintro x w4 ⟨rfl,h4⟩
                  have H4:=Lib.hid (H3.out.trans h4);clear h4
                  go_wp2
                  unfold CpPost
                  rw [HC.out]
                  exact ⟨rfl,rfl,_,H4.out⟩
                · have HC:=Lib.hid (HCY.out low (by rw [HL.out,hf2];simp only;rw [if_pos (by omega)]) (by omega))
                  have b4:decide ((57343:Int)<(low:Int))=false:=decide_eq_false (by omega)
                  have hv:(65536:Int)+((r:Int) - 55296)*1024+((low:Int) - 56320)=((65536+(r - 55296)*1024+(low - 56320):Nat):Int):=by omega
                  have HV:=Lib.hid hv
                  have c1:(56320:Int)≤(low:Int):=by omega
                  have c2:(low:Int)≤57343:=by omega
                  have c3:(r:Int)<56320:=by omega
                  clear hf2 hv
                  go_enter Tryz.func193,Tryz.ntmps193
                  go_wp2_with fail
                  refine KH.out.mono ?_
                  rintro x w1 ⟨rfl,h1⟩
                  have H1:=Lib.hid h1;clear h1
                  go_wp2_with fail
                  refine (KM1.out w1 H1.out).mono ?_
                  rintro x w2 ⟨rfl,h2⟩
                  have H2:=Lib.hid (H1.out.trans h2);clear h2
                  go_wp2_with fail
                  refine (KM2.out w2 H2.out).mono ?_
                  rintro x w3 ⟨rfl,h3⟩
                  have H3:=Lib.hid (H2.out.trans h3);clear h3
                  go_wp2_with fail
                  refine (KH2.out w3 H3.out).mono ?_
                  rintro x w4 ⟨rfl,h4⟩
                  have H4:=Lib.hid (H3.out.trans h4);clear h4
                  go_wp2
                  go_ret
                  unfold CpPost
                  rw [HC.out]
                  refine ⟨?_,H4.out⟩
                  simp only
                  rw [← HV.out]
                  rfl
        · have KM2:=Lib.hid (fun W (h:Stepd g ((n+5:Nat):Int) w W)=>must_no g s ((n+5:Nat):Int) W 117 hs (HRD.out _ W h) (by omega) (by
            intro m hm;obtain rfl:n+5=m:=by omega
            exact hB))
          have HC:=Lib.hid (HCN.out (.inr (by
            unfold lowL;rw [if_neg]
            intro h;exact hB ((bt_tail (s:=s) (k:=n+4) (j:=1) (c:=117) (by decide)).1 h.2))))
          clear hA hB hAk hA2
          go_enter Tryz.func193,Tryz.ntmps193
          go_wp2_with fail
          refine KH.out.mono ?_
          rintro x w1 ⟨rfl,h1⟩
          have H1:=Lib.hid h1;clear h1
          go_wp2_with fail
          refine (KM1.out w1 H1.out).mono ?_
          rintro x w2 ⟨rfl,h2⟩
          have H2:=Lib.hid (H1.out.trans h2);clear h2
          go_wp2_with fail
          refine (KM2.out w2 H2.out).mono ?_
          rintro x w3 ⟨rfl,q,h3⟩
          have H3:=Lib.hid (H2.out.trans h3);clear h3
          go_wp2
          unfold CpPost
          rw [HC.out]
          exact ⟨rfl,rfl,_,H3.out⟩
      · have KM1:=Lib.hid (fun W (h:Stepd g ((n+4:Nat):Int) w W)=>must_no g s ((n+4:Nat):Int) W 92 hs (HRD.out _ W h) (by omega) (by
          intro m hm;obtain rfl:n+4=m:=by omega
          exact hA))
        have HC:=Lib.hid (HCN.out (.inr (by
          unfold lowL;rw [if_neg]
          intro h;exact hA ((bt_tail (s:=s) (k:=n+4) (j:=0) (c:=92) (by decide)).1 h.1))))
        clear hA
        go_enter Tryz.func193,Tryz.ntmps193
        go_wp2_with fail
        refine KH.out.mono ?_
        rintro x w1 ⟨rfl,h1⟩
        have H1:=Lib.hid h1;clear h1
        go_wp2_with fail
        refine (KM1.out w1 H1.out).mono ?_
        rintro x w2 ⟨rfl,q,h2⟩
        have H2:=Lib.hid (H1.out.trans h2);clear h2
        go_wp2
        unfold CpPost
        rw [HC.out]
        exact ⟨rfl,rfl,_,H2.out⟩
theorem cpL_ok {l:List UInt8} {p:Nat × Nat} (h:cpL l=some p):okR (p.1:Int)=true∧p.2≤10:=by
  unfold cpL at h
  cases hf:fourL l with
  | none=>rw [hf] at h;cases h
  | some r =>
    rw [hf] at h
    have hlt:=fourL_lt hf
    simp only at h
    split at h
    · cases h;rw [okR_iff];simp only;omega
    · split at h
      · cases h
      · cases hl:lowL (l.drop 4) with
        | none=>rw [hl] at h;cases h
        | some low =>
          rw [hl] at h
          have:=lowL_len hl
          simp only [Option.some.injEq] at h
          subst h
          rw [okR_iff];simp only;omega
theorem putS_ok {r:Int} (h:okR r=true):putS r=⟨(enc r).toArray⟩:=by unfold putS;rw [h];rfl
def EsPost (g:Nat) (r:Option (List UInt8 × Nat)) (n:Nat) (w:World) (e:Ending) (w':World):Prop :=
  match r with
  | some p=>e=.returned (.string ⟨p.1.toArray⟩)∧Stepd g ((n+p.2:Nat):Int) w w'
  | none=>ThrowsR g w e w'
theorem index_not (c:UInt8) (h:¬ (c.toNat=34∨c.toNat=92∨c.toNat=98∨c.toNat=102∨c.toNat=110∨c.toNat=114∨c.toNat=116)):Lib.indexByte (⟨#[34,92,98,102,110,114,116]⟩:ByteArray).data.toList c = -1:=by
  have key:∀ k:UInt8,c.toNat ≠ k.toNat→(k == c)=false:=by
    intro k hk;rw [beq_eq_false_iff_ne];intro e;exact hk (by rw [e])
  simp only [Lib.indexByte,key 34 (by intro e;simp at e;omega),key 92 (by intro e;simp at e;omega),key 98 (by intro e;simp at e;omega),key 102 (by intro e;simp at e;omega),key 110 (by intro e;simp at e;omega),key 114 (by intro e;simp at e;omega),key 116 (by intro e;simp at e;omega)]
  rfl
theorem escaped_any (g:Nat) (s:ByteArray) (n:Nat) (w:World) (hs:s.size≤1000000) (hr:Rdr g s n w) (hn:n≤1000000) :
    Calls Tryz.prog 164 #[.pointer (some ⟨g,0,none⟩)] w (EsPost g (escL (tailL s n)) n w):=by
  have HRD:=Lib.hid (fun (k:Nat) W (h:Stepd g (k:Int) w W)=>h.rdr hr)
  by_cases hl:n<s.size
  · have KT:=Lib.hid (take_yes g s n w hs hr hl _ rfl)
    have HT:=Lib.hid (tail_cons hl)
    generalize s[n]'hl=c at *
    rw [HT.out]
    by_cases hu:c.toNat=117
    · have KC:=Lib.hid (fun W (h:Stepd g ((n+1:Nat):Int) w W)=>codePoint_any g s (n+1) W hs (HRD.out _ W h) (by omega))
      have HE:=Lib.hid (escL_u hu (tailL s (n+1)))
      have hc:c=117:=UInt8.toNat_inj.1 hu
      subst hc
      clear hr hu
      cases hp:cpL (tailL s (n+1)) with
      | none =>
        rw [hp] at KC
        have HN:=Lib.hid (show escL (117::tailL s (n+1))=none by rw [HE.out,hp];rfl)
        clear hp
        unfold CpPost at KC
        go_enter Tryz.func164,Tryz.ntmps164
        go_wp2_with fail
        refine KT.out.mono ?_
        rintro x w1 ⟨rfl,h1⟩
        have H1:=Lib.hid h1;clear h1
        go_wp2_with fail
        refine (KC.out w1 H1.out).mono ?_
        rintro x w2 ⟨rfl,q,h2⟩
        have H2:=Lib.hid (H1.out.trans h2);clear h2
        go_wp2
        unfold EsPost
        rw [HN.out]
        exact ⟨rfl,rfl,_,H2.out⟩
      | some p =>
        obtain ⟨r,m⟩:=p
        rw [hp] at KC
        have HN:=Lib.hid (show escL (117::tailL s (n+1))=some (enc (r:Int),m+1) by rw [HE.out,hp];rfl)
        have hok:=(cpL_ok hp).1
        have HP:=Lib.hid (putS_ok hok)
        clear hp hok
        have KP:=Lib.hid (fun W=>put_any (r:Int) W)
        unfold CpPost at KC
        go_enter Tryz.func164,Tryz.ntmps164
        go_wp2_with fail
        refine KT.out.mono ?_
        rintro x w1 ⟨rfl,h1⟩
        have H1:=Lib.hid h1;clear h1
        go_wp2_with fail
        refine (KC.out w1 H1.out).mono ?_
        rintro x w2 ⟨rfl,h2⟩
        have H2:=Lib.hid (H1.out.trans h2);clear h2
        go_wp2_with fail
        refine (KP.out w2).mono ?_
        rintro x w3 ⟨rfl,rfl⟩
        go_wp2
        go_ret
        unfold EsPost
        rw [HN.out,HP.out]
        refine ⟨rfl,?_⟩
        have:=H2.out
        rw [show n+1+m=n+(m+1) by omega] at this
        exact this
    · by_cases h7:c.toNat=47
      · have hc:c=47:=UInt8.toNat_inj.1 h7
        subst hc
        clear hr hu h7
        go_enter Tryz.func164,Tryz.ntmps164
        go_wp2_with fail
        refine KT.out.mono ?_
        rintro x w1 ⟨rfl,h1⟩
        have H1:=Lib.hid h1;clear h1
        go_wp2
        go_ret
        exact ⟨rfl,H1.out⟩
      · have KI:=Lib.hid (fun W=>Tryz.strings_IndexByte ⟨#[34,92,98,102,110,114,116]⟩ ((c.toNat:Nat):Int) W)
        have e:(((c.toNat:Nat):Int)).toNat.toUInt8=c:=by simp
        rw [e] at KI
        have b1:((c.toNat:Int) == 117)=false:=by rw [beq_eq_false_iff_ne];omega
        have b2:((c.toNat:Int) == 47)=false:=by rw [beq_eq_false_iff_ne];omega
        clear e
        by_cases h1:c.toNat=34∨c.toNat=92∨c.toNat=98∨c.toNat=102∨c.toNat=110∨c.toNat=114∨c.toNat=116
        · have hofn:∀ k:Nat,c.toNat=k→c=UInt8.ofNat k:=by intro k hk;subst hk;simp
          rcases h1 with h1 | h1 | h1 | h1 | h1 | h1 | h1
          all_goals
            have h2:=hofn _ h1
            clear h1 hofn hr hu h7 b1 b2
            subst h2
            go_enter Tryz.func164,Tryz.ntmps164
            go_wp2_with fail
            refine KT.out.mono ?_
            rintro x w1 ⟨rfl,h1⟩
            have H1:=Lib.hid h1;clear h1
            go_wp2_with fail
            refine (KI.out w1).mono ?_
            rintro x w2 ⟨rfl,rfl⟩
            dsimp only [Lib.indexByte]
            go_wp2
            go_ret
            exact ⟨rfl,H1.out⟩
        · rw [index_not c h1] at KI
          have HN:=Lib.hid (show escL (c::tailL s (n+1))=none by
            simp only [escL,if_neg hu]
            have:simpleE c.toNat=none:=by
              unfold simpleE
              simp only [show ¬ c.toNat=34 by omega,show ¬ c.toNat=92 by omega,show ¬ c.toNat=47 by omega,show ¬ c.toNat=98 by omega,show ¬ c.toNat=102 by omega,show ¬ c.toNat=110 by omega,show ¬ c.toNat=114 by omega,show ¬ c.toNat=116 by omega,if_false]
            rw [this])
          clear hr hu h7 h1
          go_enter Tryz.func164,Tryz.ntmps164
          go_wp2_with fail
          refine KT.out.mono ?_
          rintro x w1 ⟨rfl,h1⟩
          have H1:=Lib.hid h1;clear h1
          go_wp2_with fail
          refine (KI.out w1).mono ?_
          rintro x w2 ⟨rfl,rfl⟩
          go_wp2
          unfold EsPost
          rw [HN.out]
          exact ⟨rfl,rfl,_,H1.out⟩
  · have KT:=Lib.hid (take_no g s n w hs hr (by omega) (by omega))
    have HN:=Lib.hid (show escL (tailL s n)=none by rw [tailL_end (by omega)];rfl)
    clear hr
    go_enter Tryz.func164,Tryz.ntmps164
    go_wp2_with fail
    refine KT.out.mono ?_
    rintro x w1 ⟨rfl,q,h1⟩
    have H1:=Lib.hid h1;clear h1
    go_wp2
    unfold EsPost
    rw [HN.out]
    exact ⟨rfl,rfl,_,H1.out⟩
def PlPost (g:Nat) (s:ByteArray) (n N:Nat) (ok:Bool) (w:World) (e:Ending) (w':World):Prop :=
  if ok=true then e=.returned (.string (s.extract n (n+N)))∧Stepd g ((n+N:Nat):Int) w w' else ThrowsR g w e w'
theorem below_drewNJ (w:World) (n:Nat):Below w.heap.size w (w.drewN n):=⟨rfl,rfl,rfl,Nat.le_refl _,fun _ _=>rfl⟩
theorem run_list (s:ByteArray) (n N:Nat):(s.extract n (n+N)).data.toList=(tailL s n).take N:=by
  rw [ByteArray.data_extract,Array.toList_extract]
  simp [tailL,List.extract_eq_take_drop]
theorem plain_any (g:Nat) (s:ByteArray) (n:Nat) (w:World) (hs:s.size≤1000000) (hr:Rdr g s n w) (hn:n≤s.size) (hT:UT w) :
    Calls Tryz.prog 162 #[.pointer (some ⟨g,0,none⟩)] w (PlPost g s n (plainN (tailL s n)) (validL ((tailL s n).take (plainN (tailL s n)))) w):=by
  have HRD:=Lib.hid (fun (k:Nat) W (h:Stepd g (k:Int) w W)=>h.rdr hr)
  have HSB:=Lib.hid (fun W (h:Below w.heap.size w W)=>Stepd.of_below hr h)
  have hlt:=hr.lt
  have hst:(s.extract n s.size).data.toList=tailL s n:=extract_list s n
  have hle:=plainN_le (tailL s n)
  rw [tailL_length] at hle
  have KP:=Lib.hid (fun W=>(plainBytes_any (s.extract n s.size) W (by unfold maxLen;rw [ByteArray.size_extract];omega)).mono (R':=fun e w'=>e=.returned (.int .i64 ((plainN (tailL s n):Nat):Int))∧w'=W) fun _ _ h=>by rw [hst] at h;exact ⟨h.1,h.2.symm⟩)
  have KV:=Lib.hid (fun W (h:UT W)=>valid_any (s.extract n (n+plainN (tailL s n))) W (by unfold maxLen;rw [ByteArray.size_extract];omega) h)
  rw [run_list] at KV
  have HUT:=Lib.hid (fun W (h:Below w.heap.size w W)=>hT.below h)
  obtain ⟨c0,c1,f1⟩:=hr
  clear hst hT
  generalize hN:plainN (tailL s n)=N at *
  have HN:=Lib.hid hN;clear hN
  have hsum:IntKind.i64.wrap ((n:Int)+(N:Int))=((n+N:Nat):Int):=by
    rw [IntWalk.i64_in _ (by omega)];rfl
  have hnz:(n:Int)≤(s.size:Int):=by omega
  have hnN:(n:Int)≤((n+N:Nat):Int):=by omega
  have hNz:((n+N:Nat):Int)≤(s.size:Int):=by omega
  have hNz2:n+N≤s.size:=by omega
  cases hv:validL ((tailL s n).take N)
  · rw [hv] at KV
    clear hv
    go_enter Tryz.func162,Tryz.ntmps162
    go_wp2
    go_quiet ((go_at_call 102;exact Calls.quiet_of_same (KP.out _)))
    go_wp2
    go_region
    go_wp2_with fail
    refine (KV.out _ (HUT.out _ (below_drewNJ w _))).mono ?_
    rintro r w1 ⟨rfl,h1⟩
    have HB:=Lib.hid ((below_drewNJ w _).trans h1);clear h1
    go_wp2
    exact ⟨rfl,rfl,_,HSB.out _ HB.out⟩
  · rw [hv] at KV
    clear hv
    go_enter Tryz.func162,Tryz.ntmps162
    go_wp2
    go_quiet ((go_at_call 102;exact Calls.quiet_of_same (KP.out _)))
    go_wp2
    go_region
    go_wp2_with fail
    refine (KV.out _ (HUT.out _ (below_drewNJ w _))).mono ?_
    rintro r w1 ⟨rfl,h1⟩
    have hb:=(below_drewNJ w _).trans h1
    have d1:w1.cell? ⟨g,1,none⟩=some (.int .i64 (n:Int)):=by rw [hb.cell (p:=⟨g,1,none⟩) hlt];exact c1
    have e1:w1.frozen? ⟨g,1,none⟩=false:=by rw [hb.frozen (p:=⟨g,1,none⟩) hlt];exact f1
    have HF:=Lib.hid ((HSB.out _ hb).trans (show Stepd g ((n+N:Nat):Int) w1 (w1.setCell ⟨g,1,none⟩ (.int .i64 ((n+N:Nat):Int))) from Below.refl _ _))
    clear h1 hb c0 c1 f1
    go_wp2
    go_ret
    exact ⟨rfl,HF.out⟩
end Go.Proofs.YtijaphbccnadbaaGreatDoor
