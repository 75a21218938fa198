/- Texts of the claim. -/
import Derived.Test.YtnacbakcalcgaaaGreatDoorEd
import Derived.Deep.LoopGhost
set_option linter.unusedVariables false
set_option linter.unusedSimpArgs false
set_option maxHeartbeats 4000000
set_option maxRecDepth 100000
namespace Go.Proofs.YtnacbakcalcgaaaGreatDoor
open Go.RowKit
def DivPost (a b:Nat) (w:World) (e:Ending) (w':World):Prop :=
  ∃ v1 v2,e=.returned (.tuple #[v1,v2])∧Own w.heap.size w' v1 (limbs (a / b))∧Own w.heap.size w' v2 (limbs (a % b))∧Below w.heap.size w w'
def DLRel (n j D V:Nat) (L:List Nat) (G1 G2 G3:Nat) (w:World) (k:Nat) (i:Value) (wr:World):Prop :=
  ∃ Z Q,k≤n - j∧i=.int .i64 ((k:Int) - 1)∧DvInv n (j+1) k Z Q D V∧Blk wr G1 Z []∧Rd wr (some ⟨G2,0,none⟩) L∧Blk wr G3 Q []∧Below G1 w wr
theorem Blk.put_ne {w:World} {g g':Nat} {ys zs:List Nat} {r r':List Value} (h:Blk w g ys r) (hne:g ≠ g'):Blk (put g' zs r' w) g ys r:=by
  unfold Blk;rw [put_other _ _ _ _ _ hne];exact h
def DMRel (n j i D:Nat) (L Z Q:List Nat) (G1 G2 G3:Nat) (w:World) (k:Nat) (wr:World):Prop :=
  ∃ g Zc,g=wv Z i (j+2) / D+k∧0<k∧g<B32∧Win Z Zc i (j+2)∧Okl Zc∧wv Zc i (j+2)+g*D=wv Z i (j+2)+B32 ^ (j+2)∧Blk wr G1 Zc []∧Rd wr (some ⟨G2,0,none⟩) L∧Blk wr G3 (Q.set i g) []∧Below G1 w wr
theorem win_val_lt {Z:List Nat} {i m:Nat} (ho:Okl Z) (h:i+m≤Z.length):wv Z i m<B32 ^ m:=by
  have h1:=val_lt ((ho.drop i).take m)
  rwa [List.length_take,List.length_drop,Nat.min_eq_left (by omega)] at h1
theorem pos_of_mul {a b:Nat} (h:0<a*b):0<a:=by
  rcases Nat.eq_zero_or_pos a with h0 | h0
  · subst h0;simp at h
  · exact h0
theorem dm_pos {g t k:Nat} (h:g=t+k) (h2:t<g - 1):0<k - 1:=by omega
theorem win_getD (Z:List Nat) (i m t:Nat) (h:t<m):((Z.drop i).take m).getD t 0=Z.getD (i+t) 0:=by simp [List.getD,h]
theorem divide_any (ad:Option Addr) (n cap:Nat) (X:List Nat) (ad':Option Addr) (m cap':Nat) (Y:List Nat) (w:World) (hX:X.length=n) (hcap:n≤cap) (hn:n≤10000000) (hoX:Okl X) (hrX:Rd w ad X)
    (hY:Y.length=m) (hcap':m≤cap') (hm0:0<m) (hmn:m≤n) (hoY:Okl Y) (hrY:Rd w ad' Y) (hd:Y.getD (m - 1) 0 ≠ 0) :
    Calls Tryz.prog 210 #[.slice ad n cap,.slice ad' m cap'] w (DivPost (val X) (val Y) w):=by
  obtain ⟨j,rfl⟩:∃ j,m=j+1:=⟨m - 1,by omega⟩
  rw [Nat.add_sub_cancel] at hd
  obtain ⟨b2,o2,hadd,_,hcy⟩:=hrY j (by omega)
  have hdb:=hoY.getD j
  obtain ⟨hs1,hs2,hs3⟩:=lz_spec hdb hd
  generalize hy:Y.getD j 0=y at *
  have HY:=Lib.hid hy;clear hy
  have HX:=Lib.hid hX;clear hX
  have HYL:=Lib.hid hY;clear hY
  have KL:=Lib.hid (fun w=>lz32_any y w (by rw [B32_eq] at hdb;exact hdb))
  generalize 32 - blen y=s at *
  have KU:=Lib.hid (shiftUp_any ad n cap X s w HX.out hcap (by omega) hoX hrX hs1)
  have KV:=Lib.hid (fun w1 (h:Below w.heap.size w w1)=>shiftUp_any ad' (j+1) cap' Y s w1 HYL.out hcap' (by omega) hoY (hrY.below h) hs1)
  subst hadd
  have hjm:(j:Int)<((j+1:Nat):Int):=by omega
  go_enter Tryz.func210,Tryz.ntmps210
  go_wp2
  go_step3
  go_wp2_with fail
  refine (KL.out _).mono ?_
  rintro e w' ⟨rfl,rfl⟩
  go_wp2_with fail
  refine KU.out.mono ?_
  rintro e w1 ⟨Z0,rfl,hZl,hZo,hZv,hZb,hbl1⟩
  go_wp2_with fail
  refine (KV.out w1 hbl1).mono ?_
  rintro e w2 ⟨D0,rfl,hDl,hDo,hDv,hDb,hbl2⟩
  obtain ⟨hpre,hge⟩:=div_pre HYL.out hoY HY.out hs1 hs2 hs3
  have hstart:=@dv_start X Z0 (List.replicate (n - j) 0) n j s y (val Y*2 ^ s) HX.out hoX hmn hZl hZo hZv hd hge rfl
  have HP:=Lib.hid hpre
  have HS:=Lib.hid hstart;clear hstart
  rw [← hDv] at hpre
  have KC:=Lib.hid (cut_nat (some ⟨w1.heap.size,0,none⟩) (j+1+1) (j+1+1) D0 w2 hDl (Nat.le_refl _) (by omega) hDo hDb.rd_all)
  rw [hpre.len] at KC
  have hrD:Rd w2 (some ⟨w1.heap.size,0,none⟩) (limbs (val Y*2 ^ s)):=by
    rw [← hDv];exact rd_limbs hDo hDb.rd_all
  have hlenD:=hpre.len
  rw [hDv] at hlenD
  clear hpre hDl hDv hDo
  have HLD:=Lib.hid hlenD;clear hlenD
  have hoD:=limbs_ok (val Y*2 ^ s)
  generalize hL:limbs (val Y*2 ^ s)=L at *
  have HL:=Lib.hid hL;clear hL
  generalize hDD:val Y*2 ^ s=D at *
  have HDD:=Lib.hid hDD;clear hDD
  clear hge hZv
  have hsz1:=hZb.lt
  have hsz2:=hDb.lt
  have hZ2:Blk w2 w.heap.size Z0 []:=hZb.below hbl2 hsz1
  have hbl02:Below w.heap.size w w2:=hbl1.trans (hbl2.mono (by omega))
  generalize hG1:w.heap.size=G1 at *
  generalize hG2:w1.heap.size=G2 at *
  have HG:=Lib.hid (show G1<G2 from hsz1)
  have HG2:=hsz2
  clear hZb hbl1 hbl2 hsz1 hDb
  go_wp2_with fail
  refine KC.out.mono ?_
  rintro e w' ⟨rfl,rfl⟩
  go_wp2_with (at_make;refine wpl_make _ rfl _ _ rfl _ _ _ _ (n - j) rfl rfl (by omega) (by omega) (by omega) ?_;intro w3 hB3 hb3)
  have hZ3:Blk w3 G1 Z0 []:=hZ2.below hb3 hZ2.lt
  have hrD3:=hrD.below hb3
  have hbl3:Below G1 w w3:=hbl02.trans (hb3.mono (Nat.le_of_lt hZ2.lt))
  generalize hG3:w2.heap.size=G3 at *
  have HG23:=Lib.hid HG2;clear HG2
  have HG3:=Lib.hid (show G1<G3 from hG3 ▸ hZ2.lt)
  clear hb3 hZ2 hbl02 hrD
  go_step3
  go_wp2
  go_loopg [8] (n - j) (fun k i wr=>DLRel n j D (val X*2 ^ s) L G1 G2 G3 w k i wr)
  case atStart=>exact ⟨Z0,_,Nat.le_refl _,rfl,HS.out,hZ3,hrD3,hB3,hbl3⟩
  case round =>
    obtain ⟨Z,Q,hk,rfl,hinv,hbZ,hrL,hbQ,hbl⟩:=hrel
    rcases gk with _ | i
    · rw [show (((0:Nat):Int) - 1) = -1 from rfl]
      have hb0:0<val Y:=by
        have h1:=HP.out.pos
        rw [← HDD.out] at h1
        exact pos_of_mul h1
      have hend:=dv_end (a:=val X) (Nat.pow_pos (by decide:0<2) (n:=s)) hb0 (by rw [HDD.out];exact hinv) rfl
      have hzl:=hinv.zl
      have hzo:=hinv.zo
      have hql:=hinv.ql
      have hqo:=hinv.qo
      have htk:=val_take_all (Z:=Z) (D:=D) (m:=j+1) (by omega) (by rw [← HDD.out];exact hend.2.2) HP.out.lt
      have KQ:=fun (W:World) (h:Blk W G3 Q [])=>cut_nat (some ⟨G3,0,none⟩) (n - j) (n - j) Q W (by omega) (Nat.le_refl _) (by omega) hqo h.rd_all
      have KS:=fun (W:World) (h:Blk W G1 Z [])=>shiftDown_any (some ⟨G1,0,none⟩) (j+1) (n+1) (Z.take (j+1)) s W (by rw [List.length_take];omega) (by omega) (by omega) (hzo.take _) (by have:=h.rd 0 (j+1) (by omega);simpa using this) hs1
      rw [htk,hend.2.1] at KS
      rw [hend.1] at KQ
      have KQH:=Lib.hid KQ
      have KSH:=Lib.hid KS
      have HQL:=Lib.hid hql
      have HQE:=Lib.hid hend.1
      have hown1:Own G1 wr (.slice (some ⟨G3,0,none⟩) (limbs (val X / val Y)).length (n - j)) (limbs (val X / val Y)):=by
        have h1:=hbQ.own (Nat.le_of_lt HG3.out) hqo (limbs (val Q)).length (n - j) (limbs_len_le hqo) (by rw [hql];simp) (by unfold maxLen;omega)
        rw [← cutLen_eq hqo,cut_limbs hqo,cutLen_eq hqo,hend.1] at h1
        exact h1
      have HOW:=Lib.hid hown1
      clear KQ KS hzl hql htk hend hinv hown1
      go_wp2
      go_region_with (first
        | (go_at_call 120;refine (KQH.out _ (by exact hbQ)).mono ?_;rintro e w' ⟨rfl,rfl⟩)
        | (go_at_call 217;refine (KSH.out _ (by exact hbZ)).mono ?_;rintro e w' ⟨v2,rfl,hv2,hb2⟩))
      all_goals
        go_wp2
        try rw [Exit.noGoto_ret]
        go_ret2
        have ho1:Own G1 wr.drew (.slice (some ⟨G3,0,none⟩) (limbs (val X / val Y)).length (n - j)) (limbs (val X / val Y)):=HOW.out
        have hsz:G1≤wr.drew.heap.size:=Nat.le_of_lt hbZ.lt
        refine ⟨_,v2,rfl,?_,?_,?_⟩
        · rw [hG1];exact ho1.below hb2
        · rw [hG1];exact hv2.mono hsz
        · rw [hG1];exact hbl.drew.trans (hb2.mono hsz)
    · rw [show (((i+1:Nat):Int) - 1)=(i:Int) by omega]
      have hcut:i+(j+1)≤n:=by omega
      have hrZ:=hbZ.rd i (j+1+1) (by rw [hinv.zl];omega)
      have hzw:((Z.drop i).take (j+1+1)).length=j+1+1:=by rw [List.length_take,List.length_drop,hinv.zl];omega
      have KG:=guess_any G1 i (j+1) (n+1 - i) (some ⟨G2,0,none⟩) (j+1+1) _ L wr (by omega) HLD.out (by omega) hzw ((hinv.zo.drop i).take _) hoD hrZ hrL (by have:=HP.out.top;rw [HL.out] at this;have:=B32_pos;rw [Nat.add_sub_cancel];omega)
      rw [Nat.add_sub_cancel,win_getD _ _ _ _ (by omega),win_getD _ _ _ _ (by omega)] at KG
      have hgw:=guess_win hcut HP.out HL.out hinv
      have hgl:=gs_lt (Z.getD (i+(j+1)) 0) (Z.getD (i+j) 0) (L.getD j 0)
      generalize gs (Z.getD (i+(j+1)) 0) (Z.getD (i+j) 0) (L.getD j 0)=g at *
      have HGW:=Lib.hid hgw;clear hgw
      have KGH:=Lib.hid KG;clear KG
      have hcq:=hbQ.cell i (by rw [hinv.ql];omega)
      have hfq:=hbQ.free i
      have hzl:=Lib.hid hinv.zl
      have hinvh:=Lib.hid hinv;clear hinv hzw hrZ
      generalize Q.getD i 0=q0 at *
      go_wp2_with fail
      rw [show i+(j+1)+1 - i=j+1+1 by omega]
      refine KGH.out.mono ?_
      rintro e w' ⟨rfl,q,rfl⟩
      go_wp2_with fail
      rw [set_blk (hbQ.drewN q) i g (by rw [hinvh.out.ql];omega)]
      have hD2:2*D≤B32 ^ (j+2):=by
        have h1:=HP.out.lt
        have h2:2*B32 ^ (j+1)≤B32 ^ (j+2):=pow_two_le (j+1)
        omega
      have hvL:val L=D:=by rw [← HL.out];exact val_limbs D
      have hbZ1:Blk (put G3 (Q.set i g) [] (wr.drewN q)) G1 Z []:=(hbZ.drewN q).put_ne (by have:=HG3.out;omega)
      have hrL1:Rd (put G3 (Q.set i g) [] (wr.drewN q)) (some ⟨G2,0,none⟩) L:=(hrL.drewN q).put (fun a e _=>by cases e;have:=HG23.out;simp;omega) _ _
      have hbQ1:Blk (put G3 (Q.set i g) [] (wr.drewN q)) G3 (Q.set i g) []:=put_blk _ _ hbQ.lt
      have hbl1:Below G1 w (put G3 (Q.set i g) [] (wr.drewN q)):=put_below (below_drewN' hbl q) (Nat.le_of_lt HG3.out) _ _
      clear hbZ hrL hbQ hbl KGH hcq hfq
      generalize put G3 (Q.set i g) [] (wr.drewN q)=W at *
      have hneL:∀ a,some (⟨G2,0,none⟩:Addr)=some a→0<L.length→a.block ≠ G1:=fun a e _=>by cases e;have:=HG.out;simp;omega
      refine (takeTimes_any G1 i (j+1+1) (n+1 - i) (some ⟨G2,0,none⟩) (j+1) (j+1+1) g Z L [] W HLD.out (by omega) (by omega) (by omega) (by rw [hzl.out];omega) hinvh.out.zo hoD hgl hbZ1 hrL1 hneL).mono ?_
      rintro e w' ⟨Zt,ov,rfl,hwin,hozt,hval,rfl⟩
      have hvt:=win_val_lt hozt (show i+(j+2)≤Zt.length by rw [hwin.len,hzl.out];omega)
      rw [hvL] at hval
      have HC:=Lib.hid (take_case HP.out.pos HGW.out.1 HGW.out.2 hvt hD2 hval)
      have HV:=Lib.hid hval;clear hval
      have HVT:=Lib.hid hvt;clear hvt
      have HVL:=Lib.hid hvL;clear hvL
      have HD2:=Lib.hid hD2;clear hD2
      have hbZ2:Blk (put G1 Zt [] W) G1 Zt []:=put_blk _ _ hbZ1.lt
      have hrL2:Rd (put G1 Zt [] W) (some ⟨G2,0,none⟩) L:=hrL1.put hneL _ _
      have hbQ2:Blk (put G1 Zt [] W) G3 (Q.set i g) []:=hbQ1.put_ne (by have:=HG3.out;omega)
      have hbl2:Below G1 w (put G1 Zt [] W):=put_below hbl1 (Nat.le_refl _) _ _
      clear hbZ1 hrL1 hbQ1 hbl1 hneL
      generalize put G1 Zt [] W=W2 at *
      rcases HC.out with ⟨rfl,hg,hlt⟩ | ⟨rfl,hg⟩
      · have hstep:DvInv n (j+1) i Zt (Q.set i g) D (val X*2 ^ s) :=
          dv_step (by omega) HP.out.lt hinvh.out hwin hozt hgl (by have:=HV.out;rw [Nat.mul_zero,Nat.add_zero] at this;exact this) hlt
        have HST:=Lib.hid hstep;clear hstep hg hlt HC
        go_wp2
        go_roundg i
        case measure=>omega
        case rel=>exact ⟨Zt,_,by omega,rfl,HST.out,hbZ2,hrL2,hbQ2,hbl2⟩
      · clear HC
        have hgd:g=wv Z i (j+2) / D+(g - wv Z i (j+2) / D):=by omega
        have HGD:=Lib.hid hgd
        have hpos:0<g - wv Z i (j+2) / D:=by omega
        clear hgd hg
        generalize g - wv Z i (j+2) / D=gg at *
        go_wp2
        go_loopg [] gg (fun k wr=>DMRel n j i D L Z Q G1 G2 G3 w k wr)
        case atStart=>exact ⟨g,Zt,HGD.out,hpos,hgl,hwin,hozt,by have:=HV.out;rw [Nat.mul_one] at this;exact this,hbZ2,hrL2,hbQ2,hbl2⟩
        case round =>
          clear hbZ2 hrL2 hbQ2 hbl2 HV HVT HGD hwin hozt hgl hpos HGW
          obtain ⟨g1,Zc,hg1,hk0,hgl,hwin,hozt,hval,hbZ2,hrL2,hbQ2,hbl2⟩:=hrel
          have HG1:=Lib.hid hg1
          have hg0:1≤g1:=by rw [hg1];exact Nat.le_trans hk0 (Nat.le_add_left _ _)
          have hgq:wv Z i (j+2) / D<g1:=by rw [hg1];exact Nat.lt_add_of_pos_right hk0
          have HGQ:=Lib.hid hgq
          have HV:=Lib.hid hval
          clear hg1 hgq hval
          have hgl':=hgl
          rw [B32_eq] at hgl'
          have hcq:=hbQ2.cell i (by rw [List.length_set,hinvh.out.ql];omega)
          rw [getD_set_self _ _ _ (by rw [hinvh.out.ql];omega)] at hcq
          have hfq:=hbQ2.free i
          have e1:Hid (wr.setCell ⟨G3,i,none⟩ (.int .u32 ((g1:Int) - 1))=put G3 (Q.set i (g1 - 1)) [] wr):=by
            unfold Hid
            rw [show ((g1:Int) - 1)=((g1 - 1:Nat):Int) by omega,set_blk hbQ2 i (g1 - 1) (by rw [List.length_set,hinvh.out.ql];omega),List.set_set]
          have hneL:∀ a,some (⟨G2,0,none⟩:Addr)=some a→0<L.length→a.block ≠ G1:=fun a e _=>by cases e;have:=HG.out;simp;omega
          have hbZ3:Blk (put G3 (Q.set i (g1 - 1)) [] wr) G1 Zc []:=hbZ2.put_ne (by have:=HG3.out;omega)
          have hrL3:Rd (put G3 (Q.set i (g1 - 1)) [] wr) (some ⟨G2,0,none⟩) L:=hrL2.put (fun a e _=>by cases e;have:=HG23.out;simp;omega) _ _
          have hbQ3:Blk (put G3 (Q.set i (g1 - 1)) [] wr) G3 (Q.set i (g1 - 1)) []:=put_blk _ _ hbQ2.lt
          have hbl3:Below G1 w (put G3 (Q.set i (g1 - 1)) [] wr):=put_below hbl2 (Nat.le_of_lt HG3.out) _ _
          go_wp2_with fail
          rw [e1.out]
          clear hbZ2 hrL2 hbQ2 hbl2 hcq hfq e1
          generalize put G3 (Q.set i (g1 - 1)) [] wr=W3 at *
          refine (addTo_any G1 i (j+1+1) (n+1 - i) (some ⟨G2,0,none⟩) (j+1) (j+1+1) Zc L [] W3 HLD.out (by omega) (by omega) (by omega) (by rw [hwin.len,hzl.out];omega) hozt hoD hbZ3 hrL3 hneL).mono ?_
          rintro e w' ⟨Zn,cy,rfl,hcy,hwin2,hozn,hval2,rfl⟩
          rw [HVL.out] at hval2
          have hvt:=win_val_lt hozn (show i+(j+2)≤Zn.length by rw [hwin2.len,hwin.len,hzl.out];omega)
          have hwin3:Win Z Zn i (j+2):=⟨by rw [hwin2.len,hwin.len],by rw [hwin2.lo,hwin.lo],by rw [hwin2.hi,hwin.hi]⟩
          have hbZ4:Blk (put G1 Zn [] W3) G1 Zn []:=put_blk _ _ hbZ3.lt
          have hrL4:Rd (put G1 Zn [] W3) (some ⟨G2,0,none⟩) L:=hrL3.put hneL _ _
          have hbQ4:Blk (put G1 Zn [] W3) G3 (Q.set i (g1 - 1)) []:=hbQ3.put_ne (by have:=HG3.out;omega)
          have hbl4:Below G1 w (put G1 Zn [] W3):=put_below hbl3 (Nat.le_refl _) _ _
          clear hbZ3 hrL3 hbQ3 hbl3 hneL
          generalize put G1 Zn [] W3=W4 at *
          have HC:=Lib.hid (back_case HP.out.pos HGQ.out hvt HV.out hcy hval2)
          clear hval2 hvt hwin2 hwin
          rcases HC.out with ⟨rfl,hq,hfin,hlt⟩ | ⟨rfl,hq,hfin⟩
          · have hstep:DvInv n (j+1) i Zn (Q.set i (g1 - 1)) D (val X*2 ^ s) :=
              dv_step (by omega) HP.out.lt hinvh.out hwin3 hozn (by omega) hfin hlt
            have HST:=Lib.hid hstep;clear hstep hq hfin hlt HC
            go_wp2
            go_roundg i
            case measure=>omega
            case rel=>exact ⟨Zn,_,by omega,rfl,HST.out,hbZ4,hrL4,hbQ4,hbl4⟩
          · have HF:=Lib.hid hfin
            have HQ:=Lib.hid hq
            clear hfin hq HC
            go_wp2
            go_roundg (gk - 1)
            case measure=>omega
            case rel=>exact ⟨g1 - 1,Zn,by rw [HG1.out];exact Nat.add_sub_assoc hk0 _,dm_pos HG1.out HQ.out,by omega,hwin3,hozn,HF.out,hbZ4,hrL4,hbQ4,hbl4⟩
end Go.Proofs.YtnacbakcalcgaaaGreatDoor
namespace Go.Proofs.YtnacbakcalcgaaaGreatDoor
open Go.RowKit
open Go.RowKit
open Go.RowKit
theorem limbs_top {N t:Nat} (h:(limbs N).length=t+1):(limbs N).getD t 0 ≠ 0:=by
  have hc:=limbs_cutLen N
  rw [h] at hc
  exact cut_top _ _ _ hc
theorem limbs_len_mono {a b:Nat} (h:b≤a):(limbs b).length≤(limbs a).length:=by
  rcases Nat.lt_or_ge (limbs a).length (limbs b).length with h1 | h1
  · have:=limbs_len_lt h1;omega
  · exact h1
def rmN (a b:Nat):Nat:=if b=0 then 0 else a % b
def QuoPost (a b:Nat) (w:World) (e:Ending) (w':World):Prop :=
  ∃ v1 v2,e=.returned (.tuple #[v1,v2])∧Own w.heap.size w' v1 (limbs (a / b))∧Own w.heap.size w' v2 (limbs (rmN a b))∧Below w.heap.size w w'
theorem cmpN_neg {a b:Nat}:(cmpN a b<0) ↔ a<b:=by unfold cmpN;split <;> (try split) <;> omega
theorem div_any (ad:Option Addr) (n cap:Nat) (xs:List Nat) (ad':Option Addr) (n' cap':Nat) (ys:List Nat) (w:World) (hn:xs.length=n) (hcap:n≤cap) (hm:n≤10000000) (ho:Okl xs) (hr:Rd w ad xs)
    (hn':ys.length=n') (hcap':n'≤cap') (hm':n'≤10000000) (ho':Okl ys) (hr':Rd w ad' ys) :
    Calls Tryz.prog 198 #[.slice ad n cap,.slice ad' n' cap'] w (QuoPost (val xs) (val ys) w):=by
  have K1:=Lib.hid (cut_nat ad n cap xs w hn hcap (by omega) ho hr)
  have K2:=Lib.hid (cut_nat ad' n' cap' ys w hn' hcap' (by omega) ho' hr')
  have hrX:=rd_limbs ho hr
  have hrY:=rd_limbs ho' hr'
  have hlX:=limbs_len_le ho
  have hlY:=limbs_len_le ho'
  rw [hn] at hlX
  rw [hn'] at hlY
  generalize val xs=a at *
  generalize val ys=b at *
  have hoX:=limbs_ok a
  have hoY:=limbs_ok b
  have hvX:=val_limbs a
  have hvY:=val_limbs b
  have HNil:=Lib.hid (limbs_nil_iff b)
  have HTop:=Lib.hid (fun t=>@limbs_top b t)
  have HMono:=Lib.hid (@limbs_len_mono a b)
  generalize limbs a=X at *
  generalize limbs b=Y at *
  generalize hc:X.length=c at *
  generalize hc':Y.length=c' at *
  clear hn hn' ho ho' hr hr'
  have C1:=Lib.hid hc;clear hc
  have C2:=Lib.hid hc';clear hc'
  have V1:=Lib.hid hvX;clear hvX
  have V2:=Lib.hid hvY;clear hvY
  by_cases h0:c'=0
  · subst h0
    have hb0:b=0:=HNil.out.1 (List.eq_nil_of_length_eq_zero C2.out)
    have hq:a / b=0:=by rw [hb0,Nat.div_zero]
    have hr:rmN a b=0:=by unfold rmN;rw [if_pos hb0]
    have HQ:=Lib.hid hq
    have HR:=Lib.hid hr
    clear hq hr hb0
    go_enter Tryz.func198,Tryz.ntmps198
    go_wp2_with fail
    refine K1.out.mono ?_
    rintro e w' ⟨rfl,rfl⟩
    go_wp2_with fail
    refine K2.out.mono ?_
    rintro e w' ⟨rfl,rfl⟩
    go_wp2
    go_ret2
    exact ⟨_,_,rfl,by rw [HQ.out];exact Own.nil _ _,by rw [HR.out];exact Own.nil _ _,Below.refl _ _⟩
  · have hb0:0<b:=by
      rcases Nat.eq_zero_or_pos b with h1 | h1
      · have:=HNil.out.2 h1;rw [this] at C2;exact absurd C2.out.symm h0
      · exact h1
    have hcne:((c':Int) == 0)=false:=by rw [beq_eq_false_iff_ne];omega
    have KC:=cmp_any ad c cap X ad' c' cap' Y w C1.out (by omega) (by omega) hoX hrX C2.out (by omega) (by omega) hoY hrY
    rw [V1.out,V2.out] at KC
    have KCH:=Lib.hid KC;clear KC
    by_cases hlt:a<b
    · have KN:=fun q=>norm_any ad c cap X (w.drewN q) C1.out (by omega) (by omega) hoX (hrX.drewN q)
      rw [V1.out] at KN
      have KNH:=Lib.hid KN;clear KN
      have HQ:=Lib.hid (Nat.div_eq_of_lt hlt)
      have HR:=Lib.hid (show rmN a b=a by unfold rmN;rw [if_neg (by omega),Nat.mod_eq_of_lt hlt])
      have hcn:=cmpN_neg.2 hlt
      clear hlt
      go_enter Tryz.func198,Tryz.ntmps198
      go_wp2_with fail
      refine K1.out.mono ?_
      rintro e w' ⟨rfl,rfl⟩
      go_wp2_with fail
      refine K2.out.mono ?_
      rintro e w' ⟨rfl,rfl⟩
      go_wp2_with fail
      refine KCH.out.mono ?_
      rintro e w' ⟨rfl,q,rfl⟩
      generalize cmpN a b=m at *
      go_wp2_with fail
      refine (KNH.out q).mono ?_
      rintro e w' ⟨v,rfl,hv,hbl⟩
      go_wp2
      go_ret2
      exact ⟨_,v,rfl,by rw [HQ.out];exact Own.nil _ _,by rw [HR.out];exact hv,(below_drewN' (Below.refl _ _) q).trans hbl⟩
    · have hcn:¬ cmpN a b<0:=fun h=>hlt (cmpN_neg.1 h)
      have KD:=fun q=>divide_any ad c cap X ad' c' cap' Y (w.drewN q) C1.out (by omega) (by omega) hoX (hrX.drewN q) C2.out (by omega) (by omega) (by have:=HMono.out (by omega);omega) hoY (hrY.drewN q) (HTop.out (c' - 1) (by omega))
      rw [V1.out,V2.out] at KD
      have KDH:=Lib.hid KD;clear KD
      have HR:=Lib.hid (show rmN a b=a % b by unfold rmN;rw [if_neg (by omega)])
      clear hlt
      go_enter Tryz.func198,Tryz.ntmps198
      go_wp2_with fail
      refine K1.out.mono ?_
      rintro e w' ⟨rfl,rfl⟩
      go_wp2_with fail
      refine K2.out.mono ?_
      rintro e w' ⟨rfl,rfl⟩
      go_wp2_with fail
      refine KCH.out.mono ?_
      rintro e w' ⟨rfl,q,rfl⟩
      generalize cmpN a b=m at *
      go_wp2_with fail
      refine (KDH.out q).mono ?_
      rintro e w' ⟨v1,v2,rfl,hv1,hv2,hbl⟩
      go_wp2
      go_ret2
      exact ⟨v1,v2,rfl,hv1,by rw [HR.out];exact hv2,(below_drewN' (Below.refl _ _) q).trans hbl⟩
/-! zeros, tens -/
def tenN (n:Nat):Nat:=10 ^ n
theorem tenN_zero:tenN 0=1:=rfl
theorem tenN_succ (n:Nat):tenN (n+1)=tenN n*10:=Nat.pow_succ _ _
theorem tenN_pos (n:Nat):0<tenN n:=Nat.pow_pos (by decide)
theorem tenN_le {n m:Nat} (h:n≤m):tenN n≤tenN m:=Nat.pow_le_pow_right (by decide) h
theorem tenN_9:tenN 9=1000000000:=by decide
theorem tenN_add (a b:Nat):tenN (a+b)=tenN a*tenN b:=Nat.pow_add _ _ _
theorem tens_any (n:Nat) (w:World) (hn:n≤9) :
    Calls Tryz.prog 207 #[.int .i64 (n:Int)] w fun e w'=>e=.returned (.int .u32 ((tenN n:Nat):Int))∧w=w':=by
  go_enter Tryz.func207,Tryz.ntmps207
  go_wp2
  go_loop [3,5] (fun p i=>∃ (k:Nat),k≤n∧i=.int .i64 k∧p=.int .u32 (tenN k)) (fun _ i=>n - (intOf i).toNat)
  case atStart=>exact ⟨0,by omega,rfl,rfl⟩
  case round =>
    obtain ⟨k,hk,rfl,rfl⟩:=hrel
    by_cases hlt:k<n
    · have hb:tenN k*10≤1000000000:=by rw [← tenN_succ,← tenN_9];exact tenN_le (by omega)
      have HX:=Lib.hid (tenN_succ k)
      go_wp2
      go_round
      case rel=>exact ⟨k+1,by omega,by go_num,by rw [HX.out];go_num⟩
      case measure=>simp [intOf];omega
    · obtain rfl:k=n:=by omega
      go_wp2
      go_ret
      exact ⟨rfl,rfl⟩
def ZerosPost (v:Nat) (w:World) (e:Ending) (w':World):Prop :=
  ∃ z m,e=.returned (.int .i64 ((z:Nat):Int))∧v=m*tenN z∧m % 10 ≠ 0∧z≤8∧w=w'
theorem zeros_any (v:Nat) (w:World) (h0:v ≠ 0) (hv:v<1000000000) :
    Calls Tryz.prog 206 #[.int .u32 (v:Int)] w (ZerosPost v w):=by
  go_enter Tryz.func206,Tryz.ntmps206
  go_wp2
  go_loop [0,3] (fun p i=>∃ (k x:Nat),i=.int .i64 k∧p=.int .u32 x∧v=x*tenN k∧x ≠ 0∧x≤v∧k≤8) (fun p _=>(intOf p).toNat)
  case atStart=>exact ⟨0,v,rfl,rfl,by rw [tenN_zero,Nat.mul_one],h0,Nat.le_refl _,by omega⟩
  case round =>
    obtain ⟨k,x,rfl,rfl,hx,hx0,hxv,hk8⟩:=hrel
    have HX:=Lib.hid hx;clear hx
    by_cases hm:x % 10=0
    · have hmb:(((x:Int) % 10) == 0)=true:=by rw [beq_iff_eq];omega
      have hx':v=x / 10*tenN (k+1):=by
        have e:=Nat.div_add_mod x 10
        rw [hm,Nat.add_zero] at e
        rw [HX.out]
        conv=>lhs;rw [← e]
        rw [tenN_succ,Nat.mul_comm (tenN k),← Nat.mul_assoc,Nat.mul_comm (x / 10) 10]
      have hk9:k+1≤8:=by
        rcases Nat.lt_or_ge k 8 with h1 | h1
        · exact h1
        · exfalso
          have h2:tenN 9≤tenN (k+1):=tenN_le (by omega)
          have h3:1*tenN (k+1)≤x / 10*tenN (k+1):=Nat.mul_le_mul_right _ (by omega)
          rw [tenN_9] at h2
          omega
      have H2:=Lib.hid hx';clear hx'
      go_wp2
      go_round
      case rel=>exact ⟨k+1,x / 10,by go_num,by go_num,H2.out,by omega,by omega,hk9⟩
      case measure=>simp [intOf];omega
    · have hmb:(((x:Int) % 10) == 0)=false:=by rw [beq_eq_false_iff_ne];omega
      go_wp2
      go_ret
      exact ⟨k,x,rfl,HX.out,hm,hk8,rfl⟩
def TrimPost (a:Nat) (w:World) (e:Ending) (w':World):Prop :=
  ∃ v m k,e=.returned (.tuple #[v,.int .i64 ((k:Nat):Int)])∧Own w.heap.size w' v (limbs m)∧Below w.heap.size w w'∧a=m*tenN k∧(a=0→k=0)∧(a ≠ 0→m % 10 ≠ 0)∧k≤400000000
theorem ten_bound {k N n:Nat} (h:tenN k≤N) (h2:N<B32 ^ n):k<32*n:=by
  have h1:2 ^ k≤tenN k:=Nat.pow_le_pow_left (by decide) k
  have e:B32 ^ n=2 ^ (32*n):=by rw [Nat.pow_mul];rfl
  rw [e] at h2
  have h3:2 ^ k<2 ^ (32*n):=by omega
  exact (Nat.pow_lt_pow_iff_right (by decide)).1 h3
theorem trim_last {L m z:Nat} (h:L % 1000000000=m*tenN z) (hm:m % 10 ≠ 0) (hz:z≤8):L=L / tenN z*tenN z∧(L / tenN z) % 10 ≠ 0:=by
  have e9:(1000000000:Nat)=tenN (9 - z)*tenN z:=by rw [← tenN_add,Nat.sub_add_cancel (by omega),tenN_9]
  have hd:=Nat.div_add_mod L 1000000000
  rw [h] at hd
  generalize L / 1000000000=q at *
  have hL:L=(tenN (9 - z)*q+m)*tenN z:=by
    rw [← hd];conv=>lhs;lhs;rw [e9]
    grind
  have hq:L / tenN z=tenN (9 - z)*q+m:=by rw [hL];exact Nat.mul_div_cancel _ (tenN_pos z)
  refine ⟨by rw [hq];exact hL,?_⟩
  rw [hq]
  have:tenN (9 - z)=10*tenN (8 - z):=by rw [show 9 - z=(8 - z)+1 by omega,tenN_succ,Nat.mul_comm]
  rw [this,Nat.mul_assoc,Nat.mul_add_mod]
  exact hm
def TrimRel (G a n:Nat) (w:World) (L:Nat) (lv cnt:Value) (wr:World):Prop :=
  ∃ c:Nat,L ≠ 0∧cnt=.int .i64 c∧Own G wr lv (limbs L)∧a=L*tenN c∧Below G w wr
theorem shrink_chunk (B:Nat) (v:Value) (xs:List Nat) (w:World) (hown:Own B w v xs) (hB:B≤w.heap.size) (hm:xs.length≤100000000) :
    Calls Tryz.prog 205 #[v,.int .u32 1000000000] w (ShrinkPost B (val xs) 1000000000 v.ownBlock w) :=
  shrink_any B v xs 1000000000 w hown hB hm (by decide) (by decide)
theorem trim_any (ad:Option Addr) (n cap:Nat) (xs:List Nat) (w:World) (hn:xs.length=n) (hcap:n≤cap) (hm:n≤10000000) (ho:Okl xs) (hr:Rd w ad xs) :
    Calls Tryz.prog 195 #[.slice ad n cap] w (TrimPost (val xs) w):=by
  have KN:=Lib.hid (norm_any ad n cap xs w hn hcap (by omega) ho hr)
  have hlt:=val_lt ho
  rw [hn] at hlt
  have hlen:=limbs_len_le ho
  rw [hn] at hlen
  generalize val xs=a at *
  clear ho hr hn
  have HLT:=Lib.hid hlt;clear hlt
  by_cases h0:a=0
  · subst h0
    go_enter Tryz.func195,Tryz.ntmps195
    go_wp2_with fail
    refine KN.out.mono ?_
    rintro e w' ⟨v,rfl,hv,hbl⟩
    obtain ⟨ad1,cap1,rfl,_,_,_⟩:=hv.view
    rw [limbs_zero] at hv ⊢
    go_wp2_with fail
    go_wp2
    go_ret2
    exact ⟨_,0,0,rfl,Own.nil _ _,hbl,by rw [Nat.zero_mul],fun _=>rfl,fun h=>absurd rfl h,by omega⟩
  · have hne:(limbs a).length ≠ 0:=fun h=>h0 ((limbs_nil_iff a).1 (List.eq_nil_of_length_eq_zero h))
    have hnb:(((limbs a).length:Int) == 0)=false:=by rw [beq_eq_false_iff_ne];omega
    have HNB:=Lib.hid hnb
    clear hnb
    generalize hG:w.heap.size=G at *
    go_enter Tryz.func195,Tryz.ntmps195
    go_wp2_with fail
    refine KN.out.mono ?_
    rintro e w' ⟨v,rfl,hv,hbl⟩
    rw [hG] at hv hbl
    obtain ⟨ad1,cap1,hve,_,_,_⟩:=hv.view
    subst hve
    have hnb:=HNB.out
    go_wp2
    clear hnb
    go_loopg [4,5] a (fun L lv cnt wr=>TrimRel G a n w L lv cnt wr)
    case atStart=>exact ⟨0,h0,rfl,hv,by rw [tenN_zero,Nat.mul_one],hbl⟩
    case round =>
      clear hv hbl
      obtain ⟨c,hL0,rfl,hown,ha,hbl⟩:=hrel
      have hLa:gk≤a:=by rw [ha];exact Nat.le_mul_of_pos_right _ (tenN_pos c)
      have hcb:c<32*n:=ten_bound (N:=a) (by rw [ha];exact Nat.le_mul_of_pos_left _ (by omega)) HLT.out
      have hll:(limbs gk).length≤n:=Nat.le_trans (limbs_len_mono hLa) hlen
      have HA:=Lib.hid ha;clear ha
      obtain ⟨ad2,cap2,rfl,hle,hrd,hadd⟩:=hown.view
      have K2:=norm_any ad2 (limbs gk).length cap2 (limbs gk) wr rfl hle (by omega) (limbs_ok gk) hrd
      rw [val_limbs] at K2
      have hsG:G≤wr.heap.size:=Nat.le_trans (by rw [← hG];exact Nat.le_refl _) hbl.size
      have K2H:=Lib.hid K2
      have HADD:=Lib.hid hadd
      clear K2 hadd hrd hle
      go_wp2_with fail
      refine K2H.out.mono ?_
      rintro e w1 ⟨v1,rfl,hv1,hb1⟩
      go_wp2_with fail
      have K3:=shrink_chunk wr.heap.size v1 (limbs gk) w1 hv1 hb1.size (by omega)
      rw [val_limbs] at K3
      refine K3.mono ?_
      clear K3
      rintro e w2 ⟨v2,rfl,hv2,hb2,_⟩
      have hb12:Below wr.heap.size wr w2:=hb1.trans hb2
      have hown2:=hown.below hb12
      have hbl2:Below G w w2:=hbl.trans (hb12.mono hsG)
      have hsG2:G≤w2.heap.size:=Nat.le_trans hsG hb12.size
      have hrl:gk % 1000000000<1000000000:=Nat.mod_lt _ (by decide)
      generalize hrm:gk % 1000000000=rm at *
      have HRM:=Lib.hid hrm;clear hrm
      clear hv1 hb1 hb2 hown hb12
      by_cases hr0:rm=0
      · subst hr0
        have hdv:gk=gk / 1000000000*1000000000:=by have h1:=HRM.out;omega
        have HDV:=Lib.hid hdv;clear hdv
        have hq0:gk / 1000000000 ≠ 0:=by intro h1;have:=HDV.out;rw [h1] at this;omega
        have hql:gk / 1000000000<gk:=by omega
        have hv3:=hv2.mono hsG
        generalize hQ:gk / 1000000000=Q at *
        have HQ:=Lib.hid hQ;clear hQ
        go_wp2
        go_roundg Q
        case measure=>exact hql
        case rel=>exact ⟨c+9,hq0,by go_num,hv3,by rw [HA.out,HDV.out,tenN_add,tenN_9,Nat.mul_assoc,Nat.mul_comm 1000000000],hbl2⟩
      · have hpos:(0:Int)<(rm:Int):=by omega
        go_wp2_with fail
        refine (zeros_any rm w2 hr0 hrl).mono ?_
        rintro e w' ⟨z,m,rfl,hzm,hm10,hz8,rfl⟩
        have htl:=trim_last (by rw [HRM.out];exact hzm) hm10 hz8
        have HTL:=Lib.hid htl
        clear htl hzm hm10
        go_wp2_with fail
        refine (tens_any z _ (by omega)).mono ?_
        rintro e w' ⟨rfl,rfl⟩
        go_wp2_with fail
        have K4:=shrink_any G _ (limbs gk) (tenN z) w2 hown2 hsG2 (by omega) (by have:=tenN_le (show z≤9 by omega);rw [tenN_9] at this;rw [B32_eq];omega) (tenN_pos z)
        rw [val_limbs] at K4
        refine K4.mono ?_
        clear K4
        rintro e w3 ⟨v3,rfl,hv3,hb3,_⟩
        go_wp2
        go_ret2
        exact ⟨v3,gk / tenN z,c+z,by go_num,by rw [hG];exact hv3,by rw [hG];exact hbl2.trans hb3,
          by rw [HA.out,Nat.add_comm,tenN_add,← Nat.mul_assoc,← HTL.out.1],fun h=>absurd h h0,fun _=>HTL.out.2,by omega⟩
def cutP (n:Int):Nat:=(min (max n 0) 1300).toNat
theorem cutP_le (n:Int):cutP n≤1300:=by unfold cutP;omega
theorem cutP_eq (n:Int):min (max n 0) 1300=(cutP n:Int):=by unfold cutP;omega
theorem cutP_nat {n:Nat} (h:n≤1300):cutP (n:Int)=n:=by unfold cutP;omega
theorem limbs_one:limbs 1=[1]:=by decide
theorem pow_bound {b:Nat} (hb:b<B32) (e:Nat):b ^ e<B32 ^ (e+1):=by
  have h1:b ^ e≤B32 ^ e:=Nat.pow_le_pow_left (Nat.le_of_lt hb) e
  have h2:B32 ^ e<B32 ^ (e+1):=Nat.pow_lt_pow_right (by decide) (Nat.lt_succ_self e)
  exact Nat.lt_of_le_of_lt h1 h2
theorem and_one (m:Nat) (h:m≤1300):bits BinOp.and IntKind.i64 (m:Int) 1=((m % 2:Nat):Int):=by
  have:=bits_mask .i64 62 (by decide) (fun n h0 h1=>IntWalk.i64_in n (by omega)) 1 (by decide) (m:Int) (by omega) (by omega)
  have e:(2:Int) ^ 1 - 1=1:=by decide
  rw [e] at this
  rw [this];omega
theorem shr_cast (N j:Nat):(N:Int) / 2 ^ j=((N / 2 ^ j:Nat):Int):=by push_cast;rfl
theorem half_step (N j:Nat):N / 2 ^ j=2*(N / 2 ^ (j+1))+N / 2 ^ j % 2:=by
  rw [Nat.pow_succ,← Nat.div_div_eq_div_mul];omega
def PowRel (G b N:Nat) (w:World) (pv i:Value) (wr:World):Prop :=
  ∃ k:Nat,k≤12∧i=.int .i64 ((k:Int) - 1)∧Own G wr pv (limbs (b ^ (N / 2 ^ k)))∧Below G w wr
theorem pow_any (b:Nat) (n:Int) (w:World) (hb:b<B32) :
    Calls Tryz.prog 82 #[.int .u32 (b:Int),.int .i64 n] w (Gives (b ^ cutP n) w):=by
  have hce:=cutP_eq n
  have hcl:=cutP_le n
  generalize cutP n=N at *
  have HCE:=Lib.hid hce;clear hce
  have hbl:blen N≤11:=Lib.bitLen_le N 11 (by decide) (by omega)
  have hz:N / 2 ^ blen N=0:=by
    by_cases h0:N=0
    · subst h0;exact Nat.zero_div _
    · exact Nat.div_eq_of_lt (bitLen_bounds N N (Nat.le_refl _) (by omega) h0).2.2
  have HZ:=Lib.hid hz;clear hz
  have KL:=Lib.hid (fun w=>len_small N w (by omega))
  generalize blen N=t at *
  go_enter Tryz.func82,Tryz.ntmps82
  go_wp2_with fail
  rw [HCE.out]
  refine (KL.out _).mono ?_
  rintro e w' ⟨rfl,rfl⟩
  go_wp2_with fail
  go_loopw [5,6] (fun p i wr=>PowRel w.heap.size b N w p i wr) (fun _ i _=>(intOf i+1).toNat)
  case atStart =>
    refine ⟨t,by omega,rfl,?_,(Below.refl _ _).alloc (Nat.le_refl _) _⟩
    rw [HZ.out,Nat.pow_zero,limbs_one]
    refine ⟨Okl.cons (by decide) Okl.nil,.inr ⟨w.heap.size,1,[],rfl,Nat.le_refl _,?_,rfl,by unfold maxLen;omega⟩⟩
    exact heap_alloc_new w _
  case round =>
    obtain ⟨k,hk,rfl,hown,hbl2⟩:=hrel
    rcases k with _ | j
    · rw [show (((0:Nat):Int) - 1) = -1 from rfl]
      go_wp2
      go_ret
      exact ⟨_,rfl,by simpa using hown,hbl2⟩
    · rw [show (((j+1:Nat):Int) - 1)=(j:Int) by omega]
      obtain ⟨ad,cap,rfl,hle,hrd,_⟩:=hown.view
      have hE:N / 2 ^ (j+1)≤1300:=Nat.le_trans (Nat.div_le_self _ _) hcl
      have hlen:=limbs_length_le (pow_bound hb (N / 2 ^ (j+1)))
      have K2:=mul_any ad _ cap _ ad _ cap _ wr rfl hle (by omega) (limbs_ok _) hrd rfl hle (by omega) (limbs_ok _) hrd
      rw [val_limbs,← Nat.pow_add,← Nat.two_mul] at K2
      have K2H:=Lib.hid K2;clear K2 hrd hle
      go_wp2_with fail
      refine K2H.out.mono ?_
      rintro e w1 ⟨v1,rfl,hv1,hb1⟩
      have hst:=half_step N j
      have hbit:Hid (bits BinOp.and IntKind.i64 ((N:Int) / 2 ^ j) 1=((N / 2 ^ j % 2:Nat):Int)):=by
        unfold Hid;rw [shr_cast];exact and_one _ (Nat.le_trans (Nat.div_le_self _ _) hcl)
      have hm2:N / 2 ^ j % 2<2:=Nat.mod_lt _ (by decide)
      have hE0:N / 2 ^ j≤1300:=Nat.le_trans (Nat.div_le_self _ _) hcl
      generalize hbt:N / 2 ^ j % 2=bt at *
      generalize hM:N / 2 ^ j=M at *
      generalize hH:N / 2 ^ (j+1)=H at *
      have HM:=Lib.hid hM;clear hM hbt
      have HST:=Lib.hid hst;clear hst hH
      have hsz:w.heap.size≤wr.heap.size:=hbl2.size
      by_cases h1:bt=1
      · have hb1':(bits BinOp.and IntKind.i64 ((N:Int) / 2 ^ j) 1 == 1)=true:=by rw [hbit.out,h1];rfl
        have K4:=timesPlus_any w.heap.size v1 (limbs (b ^ (2*H))) b 0 w1 (hv1.mono hsz) (Nat.le_trans hsz hb1.size) (by have:=limbs_length_le (pow_bound hb (2*H));have:=HST.out;omega) hb (by decide)
        rw [val_limbs,Nat.add_zero,← Nat.pow_succ] at K4
        have K4H:=Lib.hid K4;clear K4
        go_wp2_with fail
        refine K4H.out.mono ?_
        rintro e w2 ⟨v2,rfl,hv2,hb2⟩
        have hfin:b ^ (2*H+1)=b ^ (N / 2 ^ j):=by rw [HM.out,HST.out,h1]
        have HF:=Lib.hid hfin;clear hfin
        go_wp2
        go_roundw
        case rel=>exact ⟨j,by omega,by go_num,by rw [← HF.out];exact hv2,hbl2.trans ((hb1.mono hsz).trans hb2)⟩
        case measure=>simp [intOf]
      · have h0:bt=0:=by omega
        have hb1':(bits BinOp.and IntKind.i64 ((N:Int) / 2 ^ j) 1 == 1)=false:=by rw [hbit.out,h0];rfl
        have hfin:b ^ (2*H)=b ^ (N / 2 ^ j):=by rw [HM.out,HST.out,h0,Nat.add_zero]
        have HF:=Lib.hid hfin;clear hfin
        go_wp2
        go_roundw
        case rel=>exact ⟨j,by omega,by go_num,by rw [← HF.out];exact hv1.mono hsz,hbl2.trans (hb1.mono hsz)⟩
        case measure=>simp [intOf]
end Go.Proofs.YtnacbakcalcgaaaGreatDoor
