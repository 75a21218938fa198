/- Texts of the claim. -/
import Derived.Test.YtnacbakcalcgaaaGreatDoorEr
import Derived.Test.YtnacbakcalcgaaaGreatDoorEp
set_option linter.unusedVariables false
set_option linter.unusedSimpArgs false
set_option maxHeartbeats 4000000
set_option maxRecDepth 100000
namespace Go.Proofs.YtnacbakcalcgaaaGreatDoor
open Go.RowKit Go.Shelf



def LightPost (n:Int) (w:World) (e:Ending) (w':World):Prop :=
  ∃ z:Int,e=.returned (.int .i64 z)∧-1≤z∧z≤1000∧Below w.heap.size w w'
def LN (W0:World) (n k:Nat) (i:Value) (wr:World):Prop :=
  ∃ j:Nat,j≤n∧n - j≤k∧i=.int .i64 (j:Int)∧Below W0.heap.size W0 wr
def LV (W0:World) (n k:Nat) (nv i:Value) (wr:World):Prop :=
  ∃ (j:Nat) (z:Int),j≤n∧n - j≤k∧i=.int .i64 (j:Int)∧nv=.int .i64 z∧-1≤z∧z≤1000∧Below W0.heap.size W0 wr
theorem light_any (t:MT):∀ (n:Int) (w:World),0≤n→n≤1000→Rep w t →
    Calls Tryz.prog 36 #[t.c.val,.int .i64 n] w (LightPost n w):=by
  refine MT.ind (P:=fun t=>∀ (n:Int) (w:World),0≤n→n≤1000→Rep w t→Calls Tryz.prog 36 #[t.c.val,.int .i64 n] w (LightPost n w)) ?_ t
  intro t ih n w hn0 hn1 hR
  have own:=hR.own
  obtain ⟨Wb,hWb⟩:∃ x,w.alloc (.cells t.c.cells.toArray 29)=x:=⟨_,rfl⟩
  have hb0:Below w.heap.size w Wb:=by rw [← hWb];exact (Below.refl _ _).alloc (Nat.le_refl _) _
  have hsz:Wb.heap.size=w.heap.size+1:=by rw [← hWb];simp
  have hbx:BoxT Wb w.heap.size t.c:=by unfold BoxT;rw [← hWb];exact heap_alloc_new w _
  have HB0:=Lib.hid (fun W (h:Below Wb.heap.size Wb W)=>hb0.trans (h.mono hb0.size))
  have HBX:=Lib.hid (fun W (h:Below Wb.heap.size Wb W)=>hbx.on (h.block _ (by omega)))
  have HK:=Lib.hid (fun W (h:Below w.heap.size w W)=>own.kr.on h)
  have HV:=Lib.hid (fun W (h:Below w.heap.size w W)=>own.vr.on h)
  have HKL:=Lib.hid own.kn
  have HVL:=Lib.hid own.vn
  have KI:=Lib.hid (fun (j:Nat) (hj:j<t.v.length) (z:Int) (W:World) (h0:0≤z) (h1:z≤1000) (h:Below w.heap.size w W)=>ih (t.v.getD j (leafT 0 false ⟨#[]⟩)) (by simp [List.getD,hj]) z W h0 h1 (by
    have hm:t.v.getD j (leafT 0 false ⟨#[]⟩)∈t.v:=by simp [List.getD,hj]
    exact (hR.part hm).on h))
  have hkc:=own.kc;have hvc:=own.vc;have hlm:=own.lm
  have HWB:=Lib.hid (show Below Wb.heap.size Wb (w.alloc (.cells t.c.cells.toArray 29)) by rw [hWb];exact Below.refl _ _)
  have HFN:=Lib.hid (show ∀ W (z:Int),-1≤z→z≤1000→Below Wb.heap.size Wb W→LightPost n w (.returned (.int .i64 z)) W from fun W z h1 h2 h3=>⟨z,rfl,h1,h2,HB0.out W h3⟩)
  have HZ:=Lib.hid hsz
  clear hb0 hsz hbx own hR ih hWb
  generalize t.k=names at *
  generalize t.v=vals at *
  generalize t.m=limbs at *
  generalize t.c=c at *
  obtain ⟨k,b,neg,ma,mn,mc,e,st,ka,kn,kc,va,vn,vc⟩:=c
  unfold Cel.val
  unfold Cel.cells at HWB
  simp only at HWB hkc hvc hlm HKL HVL HK HV
  obtain ⟨hl1,hl2,hl3⟩:=hlm
  have hw1:-9223372036854775808≤n - 1∧n - 1≤9223372036854775807:=by omega
  go_enter Tryz.func36,Tryz.ntmps36
  by_cases g1:(95:Int)<(mn:Int)
  · go_wp2
    go_ret
    exact HFN.out _ _ (by omega) (by omega) HWB.out
  by_cases g2:(2100:Int)<(st.size:Int)
  · go_wp2
    go_ret
    exact HFN.out _ _ (by omega) (by omega) HWB.out
  by_cases g3:(40:Int)<(kn:Int)
  · go_wp2
    go_ret
    exact HFN.out _ _ (by omega) (by omega) HWB.out
  by_cases g4:(40:Int)<(vn:Int)
  · go_wp2
    go_ret
    exact HFN.out _ _ (by omega) (by omega) HWB.out
  go_wp2
  go_loopg [5] kn (fun k i wr=>LN Wb kn k i wr)
  case atStart=>exact ⟨0,Nat.zero_le _,by omega,rfl,HWB.out⟩
  case round =>
    obtain ⟨j,hj,hk,rfl,hb⟩:=hrel
    obtain ⟨c0,c1,c2,c3,c4,c5,c6,c7⟩:=(HBX.out _ hb).cells
    simp only at c0 c1 c2 c3 c4 c5 c6 c7
    have HB:=Lib.hid hb
    clear hb
    by_cases hlt:j<kn
    · obtain ⟨k,rfl⟩:∃ k,gk=k+1:=⟨gk - 1,by omega⟩
      have hjz:(j:Int)<(kn:Int):=by omega
      have hjl:j<names.length:=by rw [HKL.out];exact hlt
      obtain ⟨bk,o,rfl,hbl,hc⟩:=HK.out wr (HB0.out _ HB.out) j (by rw [sv_len];exact hjl)
      rw [sv_get _ _ hjl] at hc
      generalize names.getD j ByteArray.empty=x at *
      by_cases g5:(2100:Int)<(x.size:Int)
      · go_wp2
        go_ret
        exact HFN.out _ _ (by omega) (by omega) HB.out
      · have HN:=Lib.hid (show LN Wb kn k (.int .i64 ((j:Int)+1)) wr from ⟨j+1,by omega,by omega,rfl,HB.out⟩)
        go_wp2
        go_roundg k
        case rel=>exact HN.out
        case measure=>omega
    · have hjz:¬ (j:Int)<(kn:Int):=by omega
      go_wp2
      clear c0 c1 c2 c3 c4 c5 c6 c7 hjz hlt
      go_loopg [1,6] vn (fun k nv i wr=>LV Wb vn k nv i wr)
      case atStart=>exact ⟨0,n - 1,Nat.zero_le _,by omega,rfl,rfl,by omega,by omega,HB.out⟩
      case round =>
        obtain ⟨j,z,hj,hk,rfl,rfl,hz1,hz2,hb⟩:=hrel
        obtain ⟨c0,c1,c2,c3,c4,c5,c6,c7⟩:=(HBX.out _ hb).cells
        simp only at c0 c1 c2 c3 c4 c5 c6 c7
        have HB:=Lib.hid hb
        clear hb
        by_cases hlt:j<vn
        · have hjz:(j:Int)<(vn:Int):=by omega
          by_cases hz0:0≤z
          · obtain ⟨k,rfl⟩:∃ k,gk=k+1:=⟨gk - 1,by omega⟩
            have hjl:j<vals.length:=by rw [HVL.out];exact hlt
            have hrd:=HV.out wr (HB0.out _ HB.out)
            obtain ⟨xbk,xo,rfl,hbl⟩:=hrd.shape (by rw [flat_len,List.length_map];omega)
            obtain ⟨x0,x1,x2,x3,x4,x5,x6,x7⟩:=flat_at hrd j (by rw [List.length_map];omega) (c:=(vals.getD j (leafT 0 false ⟨#[]⟩)).c) (getD_mapc hjl _)
            have K:=KI.out j hjl z wr hz0 hz2 (HB0.out _ HB.out)
            clear hrd
            generalize (vals.getD j (leafT 0 false ⟨#[]⟩)).c=xc at *
            obtain ⟨xk,xb,xneg,xma,xmn,xmc,xe,xs,xka,xkn,xkc,xva,xvn,xvc⟩:=xc
            unfold Cel.val at K
            simp only at K x0 x1 x2 x3 x4 x5 x6 x7
            have KX:=Lib.hid K
            have HN:=Lib.hid (fun (W:World) (z2:Int) (h1:-1≤z2) (h2:z2≤1000) (h:Below wr.heap.size wr W)=>(⟨j+1,z2,by omega,by omega,rfl,rfl,h1,h2,HB.out.trans (h.mono HB.out.size)⟩:LV Wb vn k (.int .i64 z2) (.int .i64 ((j:Int)+1)) W))
            clear K
            go_wp2_with fail
            refine KX.out.mono ?_
            rintro r w2 ⟨z2,rfl,h1,h2,h3⟩
            have HF:=Lib.hid (HN.out w2 z2 h1 h2 h3)
            clear h3
            go_wp2
            go_roundg k
            case rel=>exact HF.out
            case measure=>omega
          · have hz0':z<0:=by omega
            go_wp2
            go_ret
            exact HFN.out _ _ hz1 hz2 HB.out
        · have hjz:¬ (j:Int)<(vn:Int):=by omega
          go_wp2
          go_ret
          exact HFN.out _ _ hz1 hz2 HB.out


end Go.Proofs.YtnacbakcalcgaaaGreatDoor
