/- Texts of the claim. -/
import Derived.Test.YtnacbakcalcgaaaGreatDoorEa
import Derived.Laws.CopyOwn
set_option linter.unusedVariables false
set_option linter.unusedSimpArgs false
set_option maxHeartbeats 2000000
set_option maxRecDepth 100000
namespace Go.Proofs.YtnacbakcalcgaaaGreatDoor
open Go.RowKit
open Go.RowKit
open Go.RowKit
theorem wv_ext {zs ys : List Nat} {o k : Nat} (hl : zs.length = ys.length) (h : ∀ j, k ≤ j → zs.getD (o + j) 0 = ys.getD (o + j) 0) :
    ∀ n, k ≤ n → o + n ≤ ys.length → wv zs o n + wv ys o k = wv ys o n + wv zs o k := by
  intro n
  induction n with
  | zero => intro h0 _; obtain rfl : k = 0 := by omega
            omega
  | succ n ih =>
    intro hk hn
    by_cases hkn : k = n + 1
    · subst hkn; omega
    · have := ih (by omega) (by omega)
      rw [wv_succ zs o n (by omega), wv_succ ys o n (by omega), h n (by omega)]; omega
def AddToPost (g o n:Nat) (ys xs:List Nat) (r:List Value) (w:World) (e:Ending) (w':World):Prop :=
  ∃ zs cy,e=.returned (.int .u32 ((cy:Nat):Int))∧cy≤1∧Win ys zs o n∧Okl zs∧wv zs o n+B32 ^ n*cy=wv ys o n+val xs∧w'=put g zs r w
def ADRel (g o n : Nat) (ys xs : List Nat) (k0 : Nat) (r : List Value) (w : World) (c i : Value) (wr : World) : Prop :=
  ∃ (k cy : Nat) (zs : List Nat), k ≤ n ∧ k0 ≤ k ∧ i = .int .i64 k ∧ c = .int .u32 cy ∧ cy ≤ 1 ∧ Win ys zs o n ∧ Okl zs ∧ (∀ j, k ≤ j → zs.getD (o + j) 0 = ys.getD (o + j) 0) ∧
    wv zs o k + B32 ^ k * cy = wv ys o k + val (xs.take k) ∧ wr = put g zs r w
theorem ad_num {x z cy B a P W V s q:Nat} (h:a+P*cy=W+V) (e:s+B*q=z+x+cy):a+P*s+P*B*q=W+P*z+(V+P*x):=by
  have h3:P*(s+B*q)=P*(z+x+cy):=by rw [e]
  grind
theorem ad_step {g o n k cy x z:Nat} {ys xs zs:List Nat} {r:List Value} {w:World} {k0:Nat} (hyl:o+n≤ys.length) (hk:k<n) (hk0:k0≤k) (hcy:cy≤1) (hx:val (xs.take (k+1))=val (xs.take k)+B32 ^ k*x) (hz:zs.getD (o+k) 0=z) (hxb:x<B32) (hzb:z<B32)
    (hb:Blk w g ys r) (hwin:Win ys zs o n) (hoz:Okl zs) (hs:∀ j,k≤j→zs.getD (o+j) 0=ys.getD (o+j) 0) (he:wv zs o k+B32 ^ k*cy=wv ys o k+val (xs.take k)) :
    ADRel g o n ys xs k0 r w (.int .u32 ((cry z x cy:Nat):Int)) (.int .i64 ((k:Int)+1)) ((put g zs r w).setCell ⟨g,o+k,none⟩ (.int .u32 ((smd z x cy:Nat):Int))):=by
  rw [set_blk (put_blk _ _ hb.lt) _ _ (by rw [hwin.len];omega),put_put]
  refine ⟨k+1,_,zs.set (o+k) (smd z x cy),hk,by omega,rfl,rfl,cry_le hzb hxb hcy,hwin.set _ _ (by omega),hoz.set _ _ (smd_lt _ _ _),win_ext hs,?_,rfl⟩
  rw [wv_set _ _ _ _ (by rw [hwin.len];omega),wv_succ ys o k (by omega),← hs k (Nat.le_refl _),hz,hx,Nat.pow_succ]
  exact ad_num he (smd_eq z x cy)
theorem ad_end {g o n k cy:Nat} {ys xs zs:List Nat} {r:List Value} {w:World} (hyl:o+n≤ys.length) (hk:k≤n) (hm:xs.length≤k) (hcy:cy≤1) (hout:k=n∨cy=0)
    (hwin:Win ys zs o n) (hoz:Okl zs) (hs:∀ j,k≤j→zs.getD (o+j) 0=ys.getD (o+j) 0) (he:wv zs o k+B32 ^ k*cy=wv ys o k+val (xs.take k)) :
    AddToPost g o n ys xs r w (.returned (.int .u32 (cy:Int))) (put g zs r w):=by
  refine ⟨zs,cy,rfl,hcy,hwin,hoz,?_,rfl⟩
  rw [List.take_of_length_le hm] at he
  rcases hout with rfl | rfl
  · exact he
  · have:=wv_ext hwin.len hs n hk hyl
    simp only [Nat.mul_zero,Nat.add_zero] at he ⊢
    omega
theorem addTo_any (g o n cap:Nat) (ad:Option Addr) (m cap':Nat) (ys xs:List Nat) (r:List Value) (w:World) (hxl:xs.length=m) (hmn:m≤n) (hcap:n≤cap) (hm:n≤1000000000000)
    (hyl:o+n≤ys.length) (hoy:Okl ys) (hox:Okl xs) (hb:Blk w g ys r) (hr:Rd w ad xs) (hne:∀ a,ad=some a→0<xs.length→a.block ≠ g) :
    Calls Tryz.prog 208 #[.slice (some ⟨g,o,none⟩) n cap,.slice ad m cap'] w (AddToPost g o n ys xs r w):=by
  go_enter Tryz.func208,Tryz.ntmps208
  go_wp2
  go_loopw [4,10] (fun c i wr=>ADRel g o n ys xs 0 r w c i wr∧(intOf i).toNat≤m) (fun _ i _=>m - (intOf i).toNat)
  case atStart=>exact ⟨⟨0,0,ys,by omega,by omega,rfl,rfl,by decide,Win.refl _ _ _,hoy,fun _ _=>rfl,by simp [wv,val],(put_same hb).symm⟩,by simp [intOf]⟩
  case round =>
    obtain ⟨⟨k,cy,zs,hk,_,rfl,rfl,hcy,hwin,hoz,hsame,heq,rfl⟩,hkm⟩:=hrel
    simp only [intOf,Int.toNat_natCast] at hkm
    have HS:=Lib.hid hsame;clear hsame
    have HE:=Lib.hid heq;clear heq
    have hbz:Blk (put g zs r w) g zs r:=put_blk _ _ hb.lt
    by_cases hlt:k<m
    · obtain ⟨b,ox,hadd,_,hc⟩:=hr k (by omega)
      subst hadd
      have hcx:(put g zs r w).cell? ⟨b,ox+k,none⟩=some (.int .u32 ((xs.getD k 0:Nat):Int)):=(put_cell g zs r w ⟨b,ox+k,none⟩ (hne ⟨b,ox,none⟩ rfl (by omega))).trans hc
      have hcz:=hbz.cell (o+k) (by rw [hwin.len];omega)
      have hfz:=hbz.free (o+k)
      have hxb:=hox.getD k
      have hzb:=hoz.getD (o+k)
      have hvt:=val_take_succ xs k (by omega)
      clear hc
      generalize hx:xs.getD k 0=x at *
      generalize hz:zs.getD (o+k) 0=z at *
      have R:=Lib.hid (ad_step (k0:=0) hyl (by omega) (by omega) hcy hvt hz hxb hzb hb hwin hoz HS.out HE.out)
      clear hx hz hvt
      rw [B32_eq] at hxb hzb
      go_wp2_with (go_at_call 213;refine (add32_any _ _ _ _ hzb hxb hcy).mono ?_;rintro e w' ⟨rfl,rfl⟩)
      go_roundw
      case rel=>exact ⟨R.out,by simp [intOf];omega⟩
      case measure=>simp [intOf];omega
    · obtain rfl:k=m:=by omega
      go_wp2
      go_loopw [4,7] (fun c i wr=>ADRel g o n ys xs k r w c i wr) (fun _ i _=>n - (intOf i).toNat)
      case atStart=>exact ⟨k,cy,zs,by omega,by omega,rfl,rfl,hcy,hwin,hoz,HS.out,HE.out,rfl⟩
      case round =>
        clear hcy hwin hoz HS HE hbz
        obtain ⟨k',cz,zt,hk',hkk,rfl,rfl,hcy,hwin,hoz,hsame,heq,rfl⟩:=hrel
        have HS:=Lib.hid hsame;clear hsame
        have HE:=Lib.hid heq;clear heq
        have hbz:Blk (put g zt r w) g zt r:=put_blk _ _ hb.lt
        by_cases hlt':k'<n
        · by_cases hc0:cz=0
          · subst hc0
            have R:=Lib.hid (ad_end (g:=g) (r:=r) (w:=w) hyl hk' (by omega) hcy (.inr rfl) hwin hoz HS.out HE.out)
            go_wp2
            go_ret
            exact R.out
          · have hcz:=hbz.cell (o+k') (by rw [hwin.len];omega)
            have hfz:=hbz.free (o+k')
            have hzb:=hoz.getD (o+k')
            have hvt:val (xs.take (k'+1))=val (xs.take k')+B32 ^ k'*0:=by rw [List.take_of_length_le (by omega),List.take_of_length_le (by omega)];omega
            generalize hz:zt.getD (o+k') 0=z at *
            have R:=Lib.hid (ad_step (k0:=k) hyl hlt' (by omega) hcy hvt hz B32_pos hzb hb hwin hoz HS.out HE.out)
            clear hz hvt
            rw [B32_eq] at hzb
            go_wp2_with (go_at_call 213;refine (add32_any z 0 cz _ hzb (by decide) hcy).mono ?_;rintro e w' ⟨rfl,rfl⟩)
            go_roundw
            case rel=>exact R.out
            case measure=>simp [intOf];omega
        · have R:=Lib.hid (ad_end (g:=g) (r:=r) (w:=w) hyl hk' (by omega) hcy (.inl (by omega)) hwin hoz HS.out HE.out)
          go_wp2
          go_ret
          exact R.out
def TakePost (g o n:Nat) (ys xs:List Nat) (f:Nat) (r:List Value) (w:World) (e:Ending) (w':World):Prop :=
  ∃ zs q,e=.returned (.bool (decide ((0:Int)<(q:Nat))))∧Win ys zs o n∧Okl zs∧wv zs o n+f*val xs=wv ys o n+B32 ^ n*q∧w'=put g zs r w
def TKRel (g o n : Nat) (ys xs : List Nat) (f k0 : Nat) (r : List Value) (w : World) (c br i : Value) (wr : World) : Prop :=
  ∃ (k cy bo : Nat) (zs : List Nat), k ≤ n ∧ k0 ≤ k ∧ i = .int .i64 k ∧ c = .int .u64 cy ∧ br = .int .u32 bo ∧ cy < B32 ∧ bo ≤ 1 ∧ Win ys zs o n ∧ Okl zs ∧ (∀ j, k ≤ j → zs.getD (o + j) 0 = ys.getD (o + j) 0) ∧
    wv zs o k + f * val (xs.take k) = wv ys o k + B32 ^ k * (cy + bo) ∧ wr = put g zs r w
theorem tk_num {x z c b c' b' B a P W V f d l:Nat} (h:a+f*V=W+P*(c+b)) (e1:l+B*c'=x*f+c) (e2:z+B*b'=d+l+b):a+P*d+f*(V+P*x)=W+P*z+P*B*(c'+b'):=by
  have h3:P*(l+B*c')=P*(x*f+c):=by rw [e1]
  have h4:P*(z+B*b')=P*(d+l+b):=by rw [e2]
  grind
theorem tk_step {g o n k k0 cy bo x z f c' l:Nat} {ys xs zs:List Nat} {r:List Value} {w:World} (hyl:o+n≤ys.length) (hk:k<n) (hk0:k0≤k) (hbo:bo≤1) (hx:val (xs.take (k+1))=val (xs.take k)+B32 ^ k*x) (hz:zs.getD (o+k) 0=z) (hzb:z<B32)
    (hc':c'<B32) (hl:l<B32) (el:l+B32*c'=x*f+cy)
    (hb:Blk w g ys r) (hwin:Win ys zs o n) (hoz:Okl zs) (hs:∀ j,k≤j→zs.getD (o+j) 0=ys.getD (o+j) 0) (he:wv zs o k+f*val (xs.take k)=wv ys o k+B32 ^ k*(cy+bo)) :
    TKRel g o n ys xs f k0 r w (.int .u64 ((c':Nat):Int)) (.int .u32 ((brw z l bo:Nat):Int)) (.int .i64 ((k:Int)+1)) ((put g zs r w).setCell ⟨g,o+k,none⟩ (.int .u32 ((dif z l bo:Nat):Int))):=by
  rw [set_blk (put_blk _ _ hb.lt) _ _ (by rw [hwin.len];omega),put_put]
  refine ⟨k+1,c',brw z l bo,zs.set (o+k) (dif z l bo),hk,by omega,rfl,rfl,rfl,hc',brw_le _ _ _,hwin.set _ _ (by omega),hoz.set _ _ (dif_lt _ _ _),win_ext hs,?_,rfl⟩
  rw [wv_set _ _ _ _ (by rw [hwin.len];omega),wv_succ ys o k (by omega),← hs k (Nat.le_refl _),hz,hx,Nat.pow_succ]
  exact tk_num he el (dif_eq hzb hl hbo)
theorem tk_end {g o n k cy bo f:Nat} {ys xs zs:List Nat} {r:List Value} {w:World} (hyl:o+n≤ys.length) (hk:k≤n) (hm:xs.length≤k) (hout:k=n∨cy+bo=0)
    (hwin:Win ys zs o n) (hoz:Okl zs) (hs:∀ j,k≤j→zs.getD (o+j) 0=ys.getD (o+j) 0) (he:wv zs o k+f*val (xs.take k)=wv ys o k+B32 ^ k*(cy+bo)) :
    TakePost g o n ys xs f r w (.returned (.bool (decide ((0:Int)<(cy:Int)+(bo:Int))))) (put g zs r w):=by
  refine ⟨zs,cy+bo,by rw [Int.natCast_add],hwin,hoz,?_,rfl⟩
  rw [List.take_of_length_le hm] at he
  rcases hout with rfl | h0
  · exact he
  · have:=wv_ext hwin.len hs n hk hyl
    rw [h0] at he ⊢
    simp only [Nat.mul_zero,Nat.add_zero] at he ⊢
    omega
theorem takeTimes_any (g o n cap:Nat) (ad:Option Addr) (m cap' f:Nat) (ys xs:List Nat) (r:List Value) (w:World) (hxl:xs.length=m) (hmn:m≤n) (hcap:n≤cap) (hm:n≤1000000000000)
    (hyl:o+n≤ys.length) (hoy:Okl ys) (hox:Okl xs) (hf:f<B32) (hb:Blk w g ys r) (hr:Rd w ad xs) (hne:∀ a,ad=some a→0<xs.length→a.block ≠ g) :
    Calls Tryz.prog 127 #[.slice (some ⟨g,o,none⟩) n cap,.slice ad m cap',.int .u32 (f:Int)] w (TakePost g o n ys xs f r w):=by
  go_enter Tryz.func127,Tryz.ntmps127
  go_wp2
  go_loopw [7,8,15] (fun c br i wr=>TKRel g o n ys xs f 0 r w c br i wr∧(intOf i).toNat≤m) (fun _ _ i _=>m - (intOf i).toNat)
  case atStart=>exact ⟨⟨0,0,0,ys,by omega,by omega,rfl,rfl,rfl,by decide,by decide,Win.refl _ _ _,hoy,fun _ _=>rfl,by simp [wv,val],(put_same hb).symm⟩,by simp [intOf]⟩
  case round =>
    obtain ⟨⟨k,cy,bo,zs,hk,_,rfl,rfl,rfl,hcy,hbo,hwin,hoz,hsame,heq,rfl⟩,hkm⟩:=hrel
    simp only [intOf,Int.toNat_natCast] at hkm
    have HS:=Lib.hid hsame;clear hsame
    have HE:=Lib.hid heq;clear heq
    have hbz:Blk (put g zs r w) g zs r:=put_blk _ _ hb.lt
    by_cases hlt:k<m
    · obtain ⟨b,ox,hadd,_,hc⟩:=hr k (by omega)
      subst hadd
      have hcx:(put g zs r w).cell? ⟨b,ox+k,none⟩=some (.int .u32 ((xs.getD k 0:Nat):Int)):=(put_cell g zs r w ⟨b,ox+k,none⟩ (hne ⟨b,ox,none⟩ rfl (by omega))).trans hc
      have hcz:=hbz.cell (o+k) (by rw [hwin.len];omega)
      have hfz:=hbz.free (o+k)
      have hxb:=hox.getD k
      have hzb:=hoz.getD (o+k)
      have hvt:=val_take_succ xs k (by omega)
      clear hc
      generalize hx:xs.getD k 0=x at *
      generalize hz:zs.getD (o+k) 0=z at *
      have hbd:=mul_bd hxb hf
      have hbn:x*f≤18446744065119617025:=by
        have h1:=hxb;have h2:=hf;rw [B32_eq] at h1 h2
        exact Nat.mul_le_mul (Nat.le_of_lt_succ h1) (Nat.le_of_lt_succ h2)
      have hc':(x*f+cy) / B32<B32:=by rw [Nat.div_lt_iff_lt_mul B32_pos];rw [B32_eq] at *;omega
      have hl':(x*f+cy) % B32<B32:=Nat.mod_lt _ B32_pos
      have R:=Lib.hid (tk_step (k0:=0) hyl (by omega) (by omega) hbo hvt hz hzb hc' hl' (Nat.mod_add_div _ _) hb hwin hoz HS.out HE.out)
      have e1:Hid (((x:Int)*(f:Int)+(cy:Int)) / 4294967296=(((x*f+cy) / B32:Nat):Int)):=by unfold Hid;rw [B32_eq];omega
      have e2:Hid (((x:Int)*(f:Int)+(cy:Int)) % 4294967296=(((x*f+cy) % B32:Nat):Int)):=by unfold Hid;rw [B32_eq];omega
      clear hx hz hvt hbn
      generalize (x*f+cy) / B32=c' at *
      generalize (x*f+cy) % B32=l at *
      rw [B32_eq] at hxb hzb hcy hf hl' hc'
      go_wp2_with (go_at_call 162;rw [e2.out];refine (sub32_any z l bo _ hzb hl' hbo).mono ?_;rintro e w' ⟨rfl,rfl⟩)
      go_roundw
      case rel=>rw [e1.out];exact ⟨R.out,by simp [intOf];omega⟩
      case measure=>simp [intOf];omega
    · obtain rfl:k=m:=by omega
      go_wp2
      go_loopw [7,8,12] (fun c br i wr=>TKRel g o n ys xs f k r w c br i wr) (fun _ _ i _=>n - (intOf i).toNat)
      case atStart=>exact ⟨k,cy,bo,zs,by omega,by omega,rfl,rfl,rfl,hcy,hbo,hwin,hoz,HS.out,HE.out,rfl⟩
      case round =>
        clear hcy hbo hwin hoz HS HE hbz
        obtain ⟨k',cz,bz,zt,hk',hkk,rfl,rfl,rfl,hcz',hbo,hwin,hoz,hsame,heq,rfl⟩:=hrel
        have HS:=Lib.hid hsame;clear hsame
        have HE:=Lib.hid heq;clear heq
        have hbz:Blk (put g zt r w) g zt r:=put_blk _ _ hb.lt
        by_cases hlt':k'<n
        · by_cases hc0:cz+bz=0
          · obtain rfl:cz=0:=by omega
            obtain rfl:bz=0:=by omega
            have R:=Lib.hid (tk_end (g:=g) (r:=r) (w:=w) hyl hk' (by omega) (.inr rfl) hwin hoz HS.out HE.out)
            go_wp2
            go_ret
            exact R.out
          · have hcz:=hbz.cell (o+k') (by rw [hwin.len];omega)
            have hfz:=hbz.free (o+k')
            have hzb:=hoz.getD (o+k')
            have hvt:val (xs.take (k'+1))=val (xs.take k')+B32 ^ k'*0:=by rw [List.take_of_length_le (by omega),List.take_of_length_le (by omega)];omega
            generalize hz:zt.getD (o+k') 0=z at *
            have R:=Lib.hid (tk_step (k0:=k) (f:=f) (c':=0) (l:=cz) hyl hlt' (by omega) hbo hvt hz hzb B32_pos hcz' (by omega) hb hwin hoz HS.out HE.out)
            clear hz hvt
            rw [B32_eq] at hzb hcz'
            have hpos:0<(cz:Int)+(bz:Int):=by omega
            go_wp2_with (go_at_call 162;refine (sub32_any z cz bz _ hzb hcz' hbo).mono ?_;rintro e w' ⟨rfl,rfl⟩)
            go_roundw
            case rel=>exact R.out
            case measure=>simp [intOf];omega
        · have R:=Lib.hid (tk_end (g:=g) (r:=r) (w:=w) hyl hk' (by omega) (.inl (by omega)) hwin hoz HS.out HE.out)
          rw [B32_eq] at hcz'
          go_wp2
          go_ret
          exact R.out
theorem info_u32:(Tryz.prog.info? 51).map (fun i=>(i.zero,i.size,i.bytes))=some (some (.int .u32 0),1,4):=by kernel_rfl
theorem made_zero (n:Nat):(madeCells (Value.cells (.int .u32 0)) n).toList=(List.replicate n 0).map lv++[]:=by
  simp only [madeCells,List.append_nil]
  apply List.ext_getElem
  · simp
  · intro i h1 h2;simp [Value.cells,lv,Nat.mod_one]
theorem wpl_make (w:World) {ops:Array Oper} {rest:List Oper} {o:Oper} {a:Act} {Q:Exit→Act→World→Prop}
    (hg:o.guard=none) (l c:Operand) (hop:o.op=Op.makeSlice 23 l c) (kl kc:IntKind) (L C:Int) (n:Nat)
    (hl:a.eval l=.int kl L) (hc:a.eval c=.int kc C) (hL:L=(n:Int)) (hC:C=(n:Int)) (hn:n≤1000000000000)
    (hK:∀ w',Blk w' w.heap.size (List.replicate n 0) []→Below w.heap.size w w'→wpList Tryz.prog ops Q rest (a.put o.dst (.slice (some ⟨w.heap.size,0,none⟩) n n)) w') :
    wpList Tryz.prog ops Q (o::rest) a w:=by
  obtain ⟨i0,hi,hz0,hz1,hz2⟩:=info_parts info_u32
  refine wpList_make_full w hg l c 23 hop w.heap.size 51 i0 (.int .u32 0) 1 Tryz.underlying23 hi hz0 hz1 kl kc L C n hl hc hL hC (by rw [hz2];omega) (by unfold maxLen;omega) (Nat.le_refl _) ?_
  intro w' ho hgr
  refine hK w' ?_ ((Below.refl _ _).grown hgr (Nat.le_refl _) (fun k h=>by cases h))
  obtain ⟨hl',h | ⟨g,cap,cur,e,_,hh,_,_,hs,ht⟩⟩:=ho
  · exact absurd h.1 (by simp)
  · simp only [Value.slice.injEq,Option.some.injEq,Addr.mk.injEq] at e
    obtain ⟨⟨rfl,_⟩,_,rfl⟩:=e
    unfold Blk
    rw [hh,← made_zero]
    have:cur.toList=(madeCells (Value.cells (.int .u32 0)) n).toList:=by
      have h2:=ht
      rw [List.take_of_length_le (by simp [hs])] at h2
      simpa using h2
    rw [← this]
theorem wpl_copy {w:World} {ops:Array Oper} {rest:List Oper} {o:Oper} {a:Act} {Q:Exit→Act→World→Prop} (hgd:o.guard=none) (d s:Operand)
    (ho:o.op=.call { callee:=.builtin .copy,args:=#[d,s],argTypes:=#[23,23] }) (g n cap:Nat) (ad:Option Addr) (m cap':Nat)
    (hd:a.eval d=.slice (some ⟨g,0,none⟩) n cap) (hs:a.eval s=.slice ad m cap') (ys xs:List Nat) (r:List Value) (hb:Blk w g ys r) (hy:ys.length=n) (hx:xs.length=m) (hmn:m≤n) (hr:Rd w ad xs)
    (h:wpList Tryz.prog ops Q rest (a.put o.dst (goInt m)) (put g (xs++ys.drop m) r w)):wpList Tryz.prog ops Q (o::rest) a w:=by
  have hsz:(Tryz.prog.info? 51).map (·.size)=some 1:=by kernel_rfl
  by_cases h0:m=0
  · subst h0
    obtain rfl:xs=[]:=List.eq_nil_of_length_eq_zero hx
    refine wpList_copy_nothing hgd d s _ _ ho 51 Tryz.underlying23 hsz _ _ _ _ _ _ hd hs (by simp) ?_
    rw [List.nil_append,List.drop_zero,put_same hb] at h
    exact h
  · obtain ⟨b,o',e,_,_⟩:=hr 0 (by omega)
    subst e
    refine wpList_copy_own hgd d s _ _ ho 51 Tryz.underlying23 hsz g 0 n cap ⟨b,o',none⟩ m cap' hd hs _ _ hb (xs.map lv) (by rw [List.length_map,hx];exact (Nat.min_eq_left hmn).symm) ?_ (by simp;omega) ?_ ?_
    · intro j v hj
      have hjl:j<xs.length:=by
        rcases Nat.lt_or_ge j xs.length with h1 | h1
        · exact h1
        · rw [List.getElem?_eq_none (by simpa using h1)] at hj;cases hj
      have hc:=hr.at j hjl
      have e:(Addr.add ⟨b,o',none⟩ j)=⟨b,o'+j,none⟩:=by unfold Addr.add;split <;> simp_all
      rw [e,hc]
      rw [List.getElem?_map,List.getElem?_eq_getElem hjl] at hj
      simp only [Option.map_some,Option.some.injEq] at hj
      rw [← hj];simp [lv,List.getD,hjl]
    · intro v hv
      obtain ⟨x,_,rfl⟩:=List.mem_map.1 hv
      rfl
    · have e:w.setRow g ((List.map lv ys++r).toArray.toList.take 0++(xs.map lv++(List.map lv ys++r).toArray.toList.drop (0+(xs.map lv).length))).toArray=put g (xs++ys.drop m) r w:=by
        have hlt:=hb.lt
        unfold Blk at hb
        have e2:(w.setRow g ((List.map lv ys++r).toArray.toList.take 0++(xs.map lv++(List.map lv ys++r).toArray.toList.drop (0+(xs.map lv).length))).toArray).heap=(put g (xs++ys.drop m) r w).heap:=by
          apply Array.ext_getElem?
          intro k
          by_cases hk:k=g
          · subst hk
            rw [setRow_heap _ _ _ _ _ _ hb]
            simp only [put]
            rw [Array.getElem?_setIfInBounds_self_of_lt hlt]
            simp only [List.take_zero,List.nil_append,List.length_map,Nat.zero_add,hx,List.map_append,List.map_drop,List.append_assoc]
            rw [List.drop_append_of_le_length (by simp;omega)]
          · rw [setRow_other _ _ _ _ hk,put_other _ _ _ _ _ hk]
        unfold World.setRow at e2 ⊢
        unfold put at e2 ⊢
        simp only at e2
        rw [e2]
      rw [e]
      rw [List.length_map,hx]
      exact h
theorem Own.row {B:Nat} {w:World} {v:Value} {xs:List Nat} (h:Own B w v xs):w.ownsRow B 51 1 v xs.length (xs.map lv):=by
  obtain ⟨_,⟨rfl,rfl⟩ | ⟨g,cap,r,rfl,hg,hb,hc,hm⟩⟩:=h
  · exact ⟨by simp,.inl ⟨rfl,rfl⟩⟩
  · refine ⟨by simp,.inr ⟨g,cap,_,rfl,hg,hb,by omega,hm,by simp;omega,?_⟩⟩
    simp
theorem own_of_row {B:Nat} {w:World} {v:Value} {n:Nat} {xs:List Nat} (h:w.ownsRow B 51 1 v n (xs.map lv)) (ho:Okl xs):Own B w v xs:=by
  obtain ⟨hl,⟨rfl,rfl⟩ | ⟨g,cap,cur,rfl,hg,hb,hc,hm,hs,ht⟩⟩:=h
  · have:xs=[]:=List.eq_nil_of_length_eq_zero (by simpa using hl)
    subst this
    exact Own.nil _ _
  · simp only [List.length_map,Nat.mul_one] at hl
    subst hl
    refine ⟨ho,.inr ⟨g,cap,cur.toList.drop xs.length,rfl,hg,?_,?_,hm⟩⟩
    · unfold Blk;rw [hb]
      have:cur=(xs.map lv++cur.toList.drop xs.length).toArray:=by
        rw [← ht,Nat.mul_one,List.take_append_drop]
      rw [← this]
    · have:cur.toList.length=cap:=by simpa using hs
      rw [List.length_drop,this];omega
theorem Own.blockGe {B:Nat} {w:World} {v:Value} {xs:List Nat} (h:Own B w v xs):∀ k,v.ownBlock=some k→B≤k:=by
  obtain ⟨_,⟨rfl,rfl⟩ | ⟨g,cap,r,rfl,hg,_⟩⟩:=h
  · intro k e;cases e
  · intro k e;cases e;exact hg
theorem wpl_append {w:World} {ops:Array Oper} {rest:List Oper} {o:Oper} {a:Act} {Q:Exit→Act→World→Prop} (hgd:o.guard=none) (s x:Operand)
    (ho:o.op=.call { callee:=.builtin .append,args:=#[s,x],argTypes:=#[23,23] }) (B:Nat) (v:Value) (xs:List Nat) (hs:a.eval s=v) (hown:Own B w v xs)
    (ad:Addr) (c:Nat) (y:Nat) (hx:a.eval x=.slice (some ad) 1 c) (hy:y<B32) (hc:w.cell? ad=some (.int .u32 (y:Int))) (hl:xs.length≤1000000000) (hB:B≤w.heap.size)
    (h:∀ v' w',Own B w' v' (xs++[y])→Below B w w'→w.grownBy w' v.ownBlock→wpList Tryz.prog ops Q rest (a.put o.dst v') w'):wpList Tryz.prog ops Q (o::rest) a w:=by
  obtain ⟨i0,hi,hz0,hz1,hz2⟩:=info_parts info_u32
  refine wpList_append_own w hgd s x 23 ho B 51 i0 (.int .u32 0) 1 4 Tryz.underlying23 hi hz0 hz1 hz2 rfl (by decide) v xs.length (xs.map lv) hs hown.row ad 1 c [lv y] hx rfl ?_ ?_ (by unfold maxLen;omega) (by omega) hB ?_
  · intro j u hj
    rcases j with _ | j
    · simp only [List.getElem?_cons_zero,Option.some.injEq] at hj
      subst hj;simpa [Addr.add,lv] using hc
    · simp at hj
  · intro u hu;simp only [List.mem_singleton] at hu;subst hu;rfl
  · intro v' w' hown' hgr _
    refine h v' w' ?_ ((Below.refl _ _).grown hgr hB hown.blockGe) hgr
    have e:xs.map lv++[lv y]=(xs++[y]).map lv:=by simp
    rw [e] at hown'
    exact own_of_row hown' (hown.1.append (Okl.cons hy Okl.nil))
end Go.Proofs.YtnacbakcalcgaaaGreatDoor
namespace Go.Proofs.YtnacbakcalcgaaaGreatDoor
open Go.RowKit
open Go.RowKit
def Gives (N:Nat) (w:World) (e:Ending) (w':World):Prop :=
  ∃ v,e=.returned v∧Own w.heap.size w' v (limbs N)∧Below w.heap.size w w'
theorem norm_any (ad:Option Addr) (n cap:Nat) (xs:List Nat) (w:World) (hn:xs.length=n) (hcap:n≤cap) (hm:n≤1000000000) (ho:Okl xs) (hr:Rd w ad xs) :
    Calls Tryz.prog 126 #[.slice ad n cap] w (Gives (val xs) w):=by
  have hcl:=cutLen_le xs n
  have hce:=cutLen_eq ho
  have hcv:=cut_limbs ho
  rw [hn] at hce hcv
  have hr':Rd w ad (limbs (val xs)):=by rw [← hcv];exact hr.take _
  have HC:=Lib.hid hcv;clear hcv
  generalize hc:cutLen xs n=c at *
  have HCC:=Lib.hid hc;clear hc
  have HCE:=Lib.hid hce.symm;clear hce
  have hr1:∀ w1,Below w.heap.size w w1→Rd w1 ad (limbs (val xs)):=fun w1 hb=>hr'.below hb
  have HR1:=Lib.hid hr1;clear hr1
  go_enter Tryz.func126,Tryz.ntmps126
  go_wp2_with (first
    | (go_at_call 120;refine (cut_any ad n cap xs w hn hcap (by omega) hr).mono ?_;rw [HCC.out];rintro e w' ⟨rfl,rfl⟩)
    | (at_make;refine wpl_make _ rfl _ _ rfl _ _ _ _ c rfl rfl rfl rfl (by omega) ?_;intro w1 hB1 hb1)
    | (with_reducible refine wpl_copy rfl (.tmp 10) (.tmp 11) rfl _ _ _ _ _ _ rfl rfl _ (limbs (val xs)) _ hB1 List.length_replicate HCE.out (Nat.le_refl _) (HR1.out _ hb1) ?_))
  go_ret
  have hbk:=put_blk (limbs (val xs)) [] hB1.lt
  refine ⟨_,rfl,?_,put_below hb1 (Nat.le_refl _) _ _⟩
  have:=hbk.own (Nat.le_refl _) (limbs_ok _) c c (by rw [HCE.out];exact Nat.le_refl _) (by simp [HCE.out]) (by unfold maxLen;omega)
  rwa [List.take_of_length_le (by rw [HCE.out];exact Nat.le_refl _)] at this
def cmpN (a b:Nat):Int:=if a<b then -1 else if a=b then 0 else 1
theorem cmpN_lt {a b:Nat} (h:a<b):cmpN a b = -1:=by unfold cmpN;rw [if_pos h]
theorem cmpN_gt {a b:Nat} (h:b<a):cmpN a b=1:=by unfold cmpN;rw [if_neg (by omega),if_neg (by omega)]
theorem cmpN_eq (a:Nat):cmpN a a=0:=by unfold cmpN;rw [if_neg (by omega),if_pos rfl]
theorem cmpN_sign {a b:Nat} (h:a ≠ b):cmpN a b=sgn (decide (a<b)):=by
  unfold sgn
  by_cases h1:a<b
  · rw [cmpN_lt h1];simp [h1]
  · rw [cmpN_gt (by omega)];simp [h1]
theorem limbs_len_lt {a b:Nat} (h:(limbs a).length<(limbs b).length):a<b:=by
  rcases Nat.lt_or_ge a b with h1 | h1
  · exact h1
  · have:=limbs_length_le (n:=(limbs a).length) (N:=b) (Nat.lt_of_le_of_lt h1 (limbs_lt_pow a))
    omega
theorem val_top_lt {xs ys:List Nat} (hx:Okl xs) (hy:Okl ys) (hl:xs.length=ys.length) (j:Nat) (hj:j<xs.length) (hs:∀ i,j+1≤i→xs.getD i 0=ys.getD i 0) (h:xs.getD j 0<ys.getD j 0):val xs<val ys:=by
  have e:∀ n,j+1≤n→n≤xs.length→val (xs.take n)<val (ys.take n):=by
    intro n
    induction n with
    | zero=>intro h0;omega
    | succ n ih =>
      intro h1 h2
      rw [val_take_succ xs n (by omega),val_take_succ ys n (by omega)]
      by_cases hn:n=j
      · subst hn
        have b1:=val_lt (hx.take n)
        rw [List.length_take,Nat.min_eq_left (by omega)] at b1
        have:B32 ^ n*(xs.getD n 0+1)≤B32 ^ n*ys.getD n 0:=Nat.mul_le_mul_left _ h
        rw [Nat.mul_add,Nat.mul_one] at this
        omega
      · rw [hs n (by omega)]
        have:=ih (by omega) (by omega)
        omega
  have:=e xs.length (by omega) (Nat.le_refl _)
  rw [List.take_length,hl,List.take_length] at this
  exact this
theorem getD_out {xs:List Nat} {j:Nat} (h:xs.length≤j):xs.getD j 0=0:=by simp [List.getD,h]
theorem list_eq_of_getD {xs ys:List Nat} (hl:xs.length=ys.length) (h:∀ j,0≤j→xs.getD j 0=ys.getD j 0):xs=ys:=by
  apply List.ext_getElem hl
  intro i h1 h2
  have:=h i (by omega)
  simpa [List.getD,h1,h2] using this
def CmpPost (a b:Nat) (w:World) (e:Ending) (w':World):Prop:=e=.returned (.int .i64 (cmpN a b))∧∃ q,w'=w.drewN q
def CmpRel (X Y:List Nat) (c:Nat) (w:World) (i:Value) (wr:World):Prop:=∃ (k q:Nat),k≤c∧i=.int .i64 ((k:Int) - 1)∧(∀ j,k≤j→X.getD j 0=Y.getD j 0)∧wr=w.drewN q
theorem cmp_any (ad:Option Addr) (n cap:Nat) (xs:List Nat) (ad':Option Addr) (n' cap':Nat) (ys:List Nat) (w:World) (hn:xs.length=n) (hcap:n≤cap) (hm:n≤1000000000) (ho:Okl xs) (hr:Rd w ad xs)
    (hn':ys.length=n') (hcap':n'≤cap') (hm':n'≤1000000000) (ho':Okl ys) (hr':Rd w ad' ys) :
    Calls Tryz.prog 125 #[.slice ad n cap,.slice ad' n' cap'] w (CmpPost (val xs) (val ys) w):=by
  have hcl:=cutLen_le xs n
  have hcl':=cutLen_le ys n'
  have hce:=cutLen_eq ho
  have hce':=cutLen_eq ho'
  have hcv:=cut_limbs ho
  have hcv':=cut_limbs ho'
  rw [hn] at hce hcv
  rw [hn'] at hce' hcv'
  have K1:=Lib.hid (cut_any ad n cap xs w hn hcap (by omega) hr)
  have K2:=Lib.hid (cut_any ad' n' cap' ys w hn' hcap' (by omega) hr')
  have hrX:Rd w ad (limbs (val xs)):=by rw [← hcv];exact hr.take _
  have hrY:Rd w ad' (limbs (val ys)):=by rw [← hcv'];exact hr'.take _
  have hoX:=limbs_ok (val xs)
  have hoY:=limbs_ok (val ys)
  have hvX:=val_limbs (val xs)
  have hvY:=val_limbs (val ys)
  have hlt1:=@limbs_len_lt (val xs) (val ys)
  have hlt2:=@limbs_len_lt (val ys) (val xs)
  clear hr hr' hcv hcv'
  generalize val xs=a at *
  generalize val ys=b at *
  generalize hX:limbs a=X at *
  generalize hY:limbs b=Y at *
  generalize cutLen xs n=c at *
  generalize cutLen ys n'=c' at *
  have hcc:c≤1000000000:=by omega
  have hcc':c'≤1000000000:=by omega
  clear hX hY hcl hcl' hn hn' hcap hcap' ho ho' hm hm'
  have HX:=Lib.hid hvX;clear hvX
  have HY:=Lib.hid hvY;clear hvY
  have HL1:=Lib.hid hlt1;clear hlt1
  have HL2:=Lib.hid hlt2;clear hlt2
  have HC:=Lib.hid hce;clear hce
  have HC':=Lib.hid hce';clear hce'
  by_cases hne:c=c'
  · subst hne
    go_enter Tryz.func125,Tryz.ntmps125
    go_wp2_with fail
    refine K1.out.mono ?_
    rintro e w' ⟨rfl,rfl⟩
    go_wp2_with fail
    refine K2.out.mono ?_
    rintro e w' ⟨rfl,rfl⟩
    go_wp2_with fail
    go_loopw [5] (fun i wr=>CmpRel X Y c w i wr) (fun i _=>(intOf i+1).toNat)
    case atStart=>exact ⟨c,0,Nat.le_refl _,rfl,fun j hj=>by
      rw [getD_out (by rw [← HC.out];exact hj),getD_out (by rw [← HC'.out];exact hj)],rfl⟩
    case round =>
      obtain ⟨k,q,hk,rfl,hs,rfl⟩:=hrel
      have HS:=Lib.hid hs;clear hs
      rcases k with _ | j
      · have hab:a=b:=by rw [← HX.out,← HY.out,list_eq_of_getD (by rw [← HC.out,← HC'.out]) HS.out]
        have H:=Lib.hid (show CmpPost a b w (.returned (.int .i64 0)) (w.drewN q) from ⟨by rw [hab,cmpN_eq],q,rfl⟩)
        clear hab
        rw [show (((0:Nat):Int) - 1) = -1 from rfl]
        go_wp2
        go_ret
        exact H.out
      · rw [show (((j+1:Nat):Int) - 1)=(j:Int) by omega]
        have hjX:j<X.length:=by rw [← HC.out];omega
        have hjY:j<Y.length:=by rw [← HC'.out];omega
        obtain ⟨g1,o1,rfl,_,hc1⟩:=hrX j hjX
        obtain ⟨g2,o2,rfl,_,hc2⟩:=hrY j hjY
        have hv1:=Lib.hid (@val_top_lt X Y hoX hoY (by rw [← HC.out,← HC'.out]) j hjX HS.out)
        have hv2:=Lib.hid (@val_top_lt Y X hoY hoX (by rw [← HC.out,← HC'.out]) j hjY (fun i hi=>(HS.out i hi).symm))
        have HJ:Hid (X.getD j 0=Y.getD j 0→∀ i,j≤i→X.getD i 0=Y.getD i 0):=fun h0 i hi=>by
          by_cases hij:i=j
          · subst hij;exact h0
          · exact HS.out i (by omega)
        generalize X.getD j 0=x at *
        generalize Y.getD j 0=y at *
        have hjc:(j:Int)<(c:Int):=by omega
        go_wp2
        go_quiet (fail)
        by_cases hxy:x=y
        · subst hxy
          go_wp2
          go_roundw
          case rel=>exact ⟨j,_,by omega,by go_num,HJ.out rfl,rfl⟩
          case measure=>simp [intOf]
        · have hab:a ≠ b:=by
            rcases Nat.lt_or_gt_of_ne hxy with h1 | h1
            · have:=hv1.out h1;rw [HX.out,HY.out] at this;omega
            · have:=hv2.out h1;rw [HX.out,HY.out] at this;omega
          have hdec:decide (x<y)=decide (a<b):=by
            rcases Nat.lt_or_gt_of_ne hxy with h1 | h1
            · have:=hv1.out h1;rw [HX.out,HY.out] at this;simp [this,h1]
            · have:=hv2.out h1;rw [HX.out,HY.out] at this
              rw [decide_eq_false (by omega),decide_eq_false (by omega)]
          have HD:=Lib.hid hdec;clear hdec
          have HS2:=Lib.hid (cmpN_sign hab);clear hab
          go_wp2
          go_quiet ((go_at_call 161;refine (sign_any _ _).mono ?_;rintro e w' ⟨rfl,rfl⟩;exact ⟨rfl,_,rfl⟩))
          go_wp2
          go_ret
          exact ⟨by rw [HS2.out,← HD.out];rfl,by rw [World.drewN_drewN,World.drewN_drewN];exact ⟨_,rfl⟩⟩
  · have hab:a ≠ b∧decide (c<c')=decide (a<b):=by
      rcases Nat.lt_or_gt_of_ne hne with h1 | h1
      · have:=HL1.out (by rw [← HC.out,← HC'.out];exact h1)
        exact ⟨by omega,by simp [this,h1]⟩
      · have:=HL2.out (by rw [← HC.out,← HC'.out];exact h1)
        exact ⟨by omega,by rw [decide_eq_false (by omega),decide_eq_false (by omega)]⟩
    have HD:=Lib.hid hab.2
    have HS2:=Lib.hid (cmpN_sign hab.1);clear hab
    go_enter Tryz.func125,Tryz.ntmps125
    go_wp2_with fail
    refine K1.out.mono ?_
    rintro e w' ⟨rfl,rfl⟩
    go_wp2_with fail
    refine K2.out.mono ?_
    rintro e w' ⟨rfl,rfl⟩
    go_wp2_with (go_at_call 161;refine (sign_any _ _).mono ?_;rintro e w' ⟨rfl,rfl⟩)
    go_ret
    exact ⟨by rw [HS2.out,← HD.out];rfl,0,rfl⟩
theorem cut_nat (ad:Option Addr) (n cap:Nat) (xs:List Nat) (w:World) (hn:xs.length=n) (hcap:n≤cap) (hm:n≤1000000000) (ho:Okl xs) (hr:Rd w ad xs) :
    Calls Tryz.prog 120 #[.slice ad n cap] w fun e w'=>e=.returned (.slice ad (limbs (val xs)).length cap)∧w=w':=by
  have h:=cutLen_eq ho
  rw [hn] at h
  rw [← h]
  exact cut_any ad n cap xs w hn hcap (by omega) hr
theorem rd_limbs {w:World} {ad:Option Addr} {xs:List Nat} (ho:Okl xs) (hr:Rd w ad xs):Rd w ad (limbs (val xs)):=by
  rw [← cut_limbs ho];exact hr.take _
theorem limbs_len_le {xs:List Nat} (ho:Okl xs):(limbs (val xs)).length≤xs.length:=by
  rw [← cutLen_eq ho];exact cutLen_le _ _
theorem gives_cut {g cap:Nat} {ys:List Nat} {r:List Value} {w w':World} (hb:Blk w' g ys r) (ho:Okl ys) (hc:cap=ys.length+r.length) (hm:cap≤maxLen) (hg:w.heap.size≤g) (hbl:Below w.heap.size w w') :
    Gives (val ys) w (.returned (.slice (some ⟨g,0,none⟩) (limbs (val ys)).length cap)) w':=by
  refine ⟨_,rfl,?_,hbl⟩
  have:=hb.own hg ho (limbs (val ys)).length cap (limbs_len_le ho) hc hm
  rw [← cutLen_eq ho,cut_limbs ho,cutLen_eq ho] at this
  exact this
theorem win_full {ys zs:List Nat} {n:Nat} (hl:ys.length=n) (h:Win ys zs 0 n):zs.length=n∧wv zs 0 n=val zs:=by
  have h1:zs.length=n:=by rw [h.len,hl]
  refine ⟨h1,?_⟩
  unfold wv;rw [List.drop_zero,List.take_of_length_le (by omega)]
theorem wv_full {ys:List Nat} {n:Nat} (hl:ys.length=n):wv ys 0 n=val ys:=by
  unfold wv;rw [List.drop_zero,List.take_of_length_le (by omega)]
theorem add_tail {X Y zs ys:List Nat} {cy:Nat} {n:Nat} (hn:ys.length=n+1) (hX:X.length=n) (hY:val Y<B32 ^ n) (hoX:Okl X) (hys:ys=X++[0])
    (hw:Win ys zs 0 (n+1)) (h:wv zs 0 (n+1)+B32 ^ (n+1)*cy=wv ys 0 (n+1)+val Y):val zs=val X+val Y:=by
  obtain ⟨hl,hv⟩:=win_full hn hw
  rw [hv,wv_full hn,hys,val_append] at h
  simp only [val,Nat.mul_zero,Nat.add_zero] at h
  have hx:=val_lt hoX
  rw [hX] at hx
  exact (no_carry h hx hY (pow_two_le n)).2
theorem add_any (ad:Option Addr) (n cap:Nat) (xs:List Nat) (ad':Option Addr) (n' cap':Nat) (ys:List Nat) (w:World) (hn:xs.length=n) (hcap:n≤cap) (hm:n≤100000000) (ho:Okl xs) (hr:Rd w ad xs)
    (hn':ys.length=n') (hcap':n'≤cap') (hm':n'≤100000000) (ho':Okl ys) (hr':Rd w ad' ys) :
    Calls Tryz.prog 196 #[.slice ad n cap,.slice ad' n' cap'] w (Gives (val xs+val ys) w):=by
  have K1:=Lib.hid (cut_nat ad n cap xs w hn hcap (by omega) ho hr)
  have K2:=Lib.hid (cut_nat ad' n' cap' ys w hn' hcap' (by omega) ho' hr')
  have hrX:=rd_limbs ho hr
  have hrY:=rd_limbs ho' hr'
  have hlX:=limbs_len_le ho
  have hlY:=limbs_len_le ho'
  rw [hn] at hlX
  rw [hn'] at hlY
  generalize val xs=a at *
  generalize val ys=b at *
  have hoX:=limbs_ok a
  have hoY:=limbs_ok b
  have hvX:=val_limbs a
  have hvY:=val_limbs b
  have hpX:=limbs_lt_pow a
  have hpY:=limbs_lt_pow b
  generalize limbs a=X at *
  generalize limbs b=Y at *
  generalize hc:X.length=c at *
  generalize hc':Y.length=c' at *
  clear hn hn' ho ho' hr hr'
  have C1:=Lib.hid hc;clear hc
  have C2:=Lib.hid hc';clear hc'
  have V1:=Lib.hid hvX;clear hvX
  have V2:=Lib.hid hvY;clear hvY
  have P1:=Lib.hid hpX;clear hpX
  have P2:=Lib.hid hpY;clear hpY
  by_cases hlt:c<c'
  · have hP:val X<B32 ^ c':=by
      rw [V1.out];exact Nat.lt_of_lt_of_le P1.out (Nat.pow_le_pow_right B32_pos (by omega))
    rw [V1.out] at hP
    have HP:=Lib.hid hP;clear hP
    go_enter Tryz.func196,Tryz.ntmps196
    go_wp2_with fail
    refine K1.out.mono ?_
    rintro e w' ⟨rfl,rfl⟩
    go_wp2_with fail
    refine K2.out.mono ?_
    rintro e w' ⟨rfl,rfl⟩
    go_wp2_with (first
      | (at_make;refine wpl_make _ rfl _ _ rfl _ _ _ _ (c'+1) rfl rfl (by omega) (by omega) (by omega) ?_;intro w1 hB1 hb1)
      | (with_reducible refine wpl_copy rfl (.tmp 21) (.tmp 22) rfl _ _ _ _ _ _ rfl rfl _ Y _ hB1 List.length_replicate C2.out (by omega) (hrY.below hb1) ?_))
    have hg1:=hrX.apart (Nat.le_refl w.heap.size)
    have hbk:=put_blk (w:=w1) (Y++[0]) [] hB1.lt
    have hrs:Rd (put w.heap.size (Y++[0]) [] w1) ad X:=(hrX.below hb1).put hg1 _ _
    have hob:Okl (Y++[0]):=hoY.append (Okl.cons B32_pos Okl.nil)
    have hlb:(Y++[0]).length=c'+1:=by simp [C2.out]
    have HL:=Lib.hid hlb
    refine (addTo_any w.heap.size 0 (c'+1) (c'+1) ad c cap (Y++[0]) X [] _ C1.out (by omega) (Nat.le_refl _) (by omega) (by rw [hlb];omega) hob hoX hbk hrs hg1).mono ?_
    clear hlb
    rintro e w' ⟨zs,cy,rfl,hcy,hwin,hoz,hval,rfl⟩
    rw [put_put]
    have hv:val zs=a+b:=by
      have:=add_tail (n:=c') (X:=Y) (Y:=X) HL.out C2.out (by rw [V1.out];exact HP.out) hoY rfl hwin hval
      rw [this,V2.out,V1.out];omega
    have hlz:=(win_full HL.out hwin).1
    have HZ:=Lib.hid hlz;clear hlz
    have HV:=Lib.hid hv;clear hv
    have hbz:Blk (put w.heap.size zs [] w1) w.heap.size zs []:=put_blk _ _ hB1.lt
    clear hwin hval
    go_wp2_with fail
    refine (cut_nat _ (c'+1) (c'+1) zs _ HZ.out (Nat.le_refl _) (by omega) hoz hbz.rd_all).mono ?_
    rintro e w' ⟨rfl,rfl⟩
    go_wp2
    go_ret
    rw [← HV.out]
    exact gives_cut hbz hoz (by rw [HZ.out];rfl) (by unfold maxLen;omega) (Nat.le_refl _) (put_below hb1 (Nat.le_refl _) _ _)
  · have hP:val Y<B32 ^ c:=by
      rw [V2.out];exact Nat.lt_of_lt_of_le P2.out (Nat.pow_le_pow_right B32_pos (by omega))
    rw [V2.out] at hP
    have HP:=Lib.hid hP;clear hP
    go_enter Tryz.func196,Tryz.ntmps196
    go_wp2_with fail
    refine K1.out.mono ?_
    rintro e w' ⟨rfl,rfl⟩
    go_wp2_with fail
    refine K2.out.mono ?_
    rintro e w' ⟨rfl,rfl⟩
    go_wp2_with (first
      | (at_make;refine wpl_make _ rfl _ _ rfl _ _ _ _ (c+1) rfl rfl (by omega) (by omega) (by omega) ?_;intro w1 hB1 hb1)
      | (with_reducible refine wpl_copy rfl (.tmp 21) (.tmp 22) rfl _ _ _ _ _ _ rfl rfl _ X _ hB1 List.length_replicate C1.out (by omega) (hrX.below hb1) ?_))
    have hg1:=hrY.apart (Nat.le_refl w.heap.size)
    have hbk:=put_blk (w:=w1) (X++[0]) [] hB1.lt
    have hrs:Rd (put w.heap.size (X++[0]) [] w1) ad' Y:=(hrY.below hb1).put hg1 _ _
    have hob:Okl (X++[0]):=hoX.append (Okl.cons B32_pos Okl.nil)
    have hlb:(X++[0]).length=c+1:=by simp [C1.out]
    have HL:=Lib.hid hlb
    refine (addTo_any w.heap.size 0 (c+1) (c+1) ad' c' cap' (X++[0]) Y [] _ C2.out (by omega) (Nat.le_refl _) (by omega) (by rw [hlb];omega) hob hoY hbk hrs hg1).mono ?_
    clear hlb
    rintro e w' ⟨zs,cy,rfl,hcy,hwin,hoz,hval,rfl⟩
    rw [put_put]
    have hv:val zs=a+b:=by
      have:=add_tail (n:=c) (X:=X) (Y:=Y) HL.out C1.out (by rw [V2.out];exact HP.out) hoX rfl hwin hval
      rw [this,V1.out,V2.out]
    have hlz:=(win_full HL.out hwin).1
    have HZ:=Lib.hid hlz;clear hlz
    have HV:=Lib.hid hv;clear hv
    have hbz:Blk (put w.heap.size zs [] w1) w.heap.size zs []:=put_blk _ _ hB1.lt
    clear hwin hval
    go_wp2_with fail
    refine (cut_nat _ (c+1) (c+1) zs _ HZ.out (Nat.le_refl _) (by omega) hoz hbz.rd_all).mono ?_
    rintro e w' ⟨rfl,rfl⟩
    go_wp2
    go_ret
    rw [← HV.out]
    exact gives_cut hbz hoz (by rw [HZ.out];rfl) (by unfold maxLen;omega) (Nat.le_refl _) (put_below hb1 (Nat.le_refl _) _ _)
theorem sub_tail {X Y zs:List Nat} {q n:Nat} (hn:X.length=n) (hoz:Okl zs) (hw:Win X zs 0 n) (h:wv zs 0 n+1*val Y=wv X 0 n+B32 ^ n*q) (hle:val Y≤val X):val zs=val X - val Y:=by
  obtain ⟨hl,hv⟩:=win_full hn hw
  rw [hv,wv_full hn,Nat.one_mul] at h
  have hz:=val_lt hoz
  rw [hl] at hz
  have:q=0:=by
    rcases Nat.eq_zero_or_pos q with h0 | h0
    · exact h0
    · have h1:B32 ^ n*1≤B32 ^ n*q:=Nat.mul_le_mul_left _ h0
      omega
  rw [this] at h
  omega
theorem below_drewN' {B:Nat} {a w:World} (h:Below B a w) (n:Nat):Below B a (w.drewN n):=h.trans ⟨rfl,rfl,rfl,Nat.le_refl _,fun _ _=>rfl⟩
theorem cmpN_le {a b:Nat}:(cmpN a b≤0) ↔ a≤b:=by unfold cmpN;split <;> (try split) <;> omega
theorem sub_any (ad:Option Addr) (n cap:Nat) (xs:List Nat) (ad':Option Addr) (n' cap':Nat) (ys:List Nat) (w:World) (hn:xs.length=n) (hcap:n≤cap) (hm:n≤100000000) (ho:Okl xs) (hr:Rd w ad xs)
    (hn':ys.length=n') (hcap':n'≤cap') (hm':n'≤100000000) (ho':Okl ys) (hr':Rd w ad' ys) :
    Calls Tryz.prog 84 #[.slice ad n cap,.slice ad' n' cap'] w (Gives (val xs - val ys) w):=by
  have K0:=Lib.hid (cmp_any ad n cap xs ad' n' cap' ys w hn hcap (by omega) ho hr hn' hcap' (by omega) ho' hr')
  have K1:=Lib.hid (fun q=>norm_any ad n cap xs (w.drewN q) hn hcap (by omega) ho hr)
  have hrY:=rd_limbs ho' hr'
  have hlX:=limbs_len_le ho
  have hlY:=limbs_len_le ho'
  rw [hn] at hlX
  rw [hn'] at hlY
  have K2:=Lib.hid (fun (w2:World) (h:Rd w2 ad' ys)=>cut_nat ad' n' cap' ys w2 hn' hcap' (by omega) ho' h)
  generalize val xs=a at *
  generalize val ys=b at *
  have hoX:=limbs_ok a
  have hoY:=limbs_ok b
  have hvX:=val_limbs a
  have hvY:=val_limbs b
  have HM:=Lib.hid (@limbs_length_le (limbs a).length b)
  have hpX:=limbs_lt_pow a
  generalize hX:limbs a=X at *
  generalize limbs b=Y at *
  generalize hc:X.length=c at *
  generalize hc':Y.length=c' at *
  clear hn hn' ho ho' hr
  have C1:=Lib.hid hc;clear hc
  have C2:=Lib.hid hc';clear hc'
  have V1:=Lib.hid hvX;clear hvX
  have V2:=Lib.hid hvY;clear hvY
  have PX:=Lib.hid hpX;clear hpX
  have EX:=Lib.hid hX;clear hX
  by_cases hle:a≤b
  · have h0:a - b=0:=by omega
    rw [h0]
    have hcn:=cmpN_le.2 hle
    go_enter Tryz.func84,Tryz.ntmps84
    go_wp2_with fail
    refine K0.out.mono ?_
    rintro e w' ⟨rfl,q,rfl⟩
    generalize cmpN a b=m at *
    go_wp2
    go_ret
    exact ⟨_,rfl,Own.nil _ _,below_drewN' (Below.refl _ _) _⟩
  · have hcn:¬ cmpN a b≤0:=fun h=>hle (cmpN_le.1 h)
    go_enter Tryz.func84,Tryz.ntmps84
    go_wp2_with fail
    refine K0.out.mono ?_
    rintro e w' ⟨rfl,q,rfl⟩
    generalize cmpN a b=m at *
    go_wp2_with fail
    refine (K1.out q).mono ?_
    rintro e w' ⟨v,rfl,⟨_,⟨rfl,hnil⟩ | ⟨g,cap1,r,rfl,hg,hbk,hcap1,hmx⟩⟩,hbl⟩
    · exfalso;have:=(limbs_nil_iff a).1 hnil;omega
    · rw [EX.out] at hbk hcap1 ⊢
      rw [C1.out] at hcap1 ⊢
      have hrw:=(hr'.drewN q).below hbl
      have hrY':=(hrY.drewN q).below hbl
      have hap:∀ x,ad'=some x→0<Y.length→x.block ≠ g:=fun x e hx=>hrY.apart hg x e hx
      have hyl:c'≤c:=by have:=HM.out (by rw [← C1.out] at *;rw [C1.out];exact Nat.lt_trans (by omega) PX.out);omega
      have hcap1':=Lib.hid hcap1;clear hcap1
      have hcc:c≤cap1:=by rw [hcap1'.out];omega
      go_wp2_with fail
      refine (K2.out _ hrw).mono ?_
      rintro e w' ⟨rfl,rfl⟩
      go_wp2_with fail
      refine (takeTimes_any g 0 c cap1 ad' c' cap' 1 X Y r _ C2.out hyl hcc (by omega) (by rw [C1.out];omega) hoX hoY (by decide) hbk hrY' hap).mono ?_
      rintro e w' ⟨zs,q',rfl,hwin,hoz,hval,rfl⟩
      have hv:val zs=a - b:=by rw [sub_tail C1.out hoz hwin hval (by rw [V1.out,V2.out];omega),V1.out,V2.out]
      have HZ:=Lib.hid (win_full C1.out hwin).1
      have HV:=Lib.hid hv;clear hv
      have hbz:Blk (put g zs r _) g zs r:=put_blk _ _ hbk.lt
      clear hwin hval
      go_wp2_with fail
      refine (cut_nat _ c cap1 zs _ HZ.out hcc (by omega) hoz hbz.rd_all).mono ?_
      rintro e w' ⟨rfl,rfl⟩
      go_wp2
      go_ret
      rw [← HV.out]
      exact gives_cut hbz hoz (by rw [HZ.out];exact hcap1'.out) hmx hg (put_below ((below_drewN' (Below.refl _ _) q).trans hbl) hg _ _)
end Go.Proofs.YtnacbakcalcgaaaGreatDoor
