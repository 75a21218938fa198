/- Texts of the claim. -/
import Derived.Test.YtijaphbccnadbaaGreatDoorTP
import Derived.Test.YtijaphbccnadbaaGreatDoorTS
import Derived.Test.YtijaphbccnadbaaGreatDoorTV
import Derived.Test.YtijaphbccnadbaaGreatDoorTy
import Derived.Test.YtijaphbccnadbaaGreatDoorTie
import Derived.ProofKit
import Derived.SizedLaws
import Derived.OpenShut
import Derived.LaidMore
import Derived.Lay
import Derived.SevenTiedAt
import Derived.Stop.Joined
import Derived.Lib.LaidU8T
import Derived.Test.YtijaphbccnadbaaGreatDoorTv
import Derived.Test.YtijaphbccnadbaaGreatDoorTf
import Derived.Lib.LaidTab
set_option linter.unusedVariables false
set_option linter.unusedSimpArgs false
set_option maxHeartbeats 16000000
set_option maxRecDepth 100000
namespace Go.Proofs.YtijaphbccnadbaaGreatDoor
open Go.Shelf Go.RowKit Go.Lib
theorem letter_at:∀ m,m<26→(⟨#[97,98,99,100,101,102,103,104,105,106,107,108,109,110,111,112,113,114,115,116,117,118,119,120,121,122]⟩:ByteArray).extract m (m+1)=⟨#[nmL m]⟩:=by decide +kernel
theorem hex_at:∀ m,m<16→(⟨#[48,49,50,51,52,53,54,55,56,57,97,98,99,100,101,102]⟩:ByteArray).extract m (m+1)=⟨#[hexD m]⟩:=by decide +kernel
theorem slice_one {P:Program} (w:World) (ev:Operand→Value) (o:Oper) (t:TypeId) (x:Operand) (s r:ByteArray) (ho:o.op=.slice t x (some (.const (.int .i64 1))) (some (.const (.int .i64 2))) none) (hx:ev x=.string s) (hc:∀ v,ev (.const v)=v) (hu:P.underlying t=some .string) (h:s.extract 1 2=r∧s.size=3) :
    (execOp ev o).run P w=.ok (.value (.string r)) w:=by
  simp [execOp,ho,hx,hc,go_sem,hu,h.1,h.2]
theorem rng_flat {w:World} {b o:Nat} {l:List Cel} (h:RdV w (some ⟨b,o,none⟩) (flat l)) (p:Nat) (hp:p<l.length) {c:Cel} (hc:l[p]=c) (m:Nat) (hm:o+p*8=m):w.rangeAt b m c.cells:=fun j v hv=>by
  have hj:j<8:=(List.getElem?_eq_some_iff.1 hv).1
  have:=h.at (p*8+j) (by rw [flat_len];omega)
  rw [flat_get l p j hp hj,hc,hv] at this
  rw [← hm,Nat.add_assoc]
  exact this
theorem jsonTwice_walk (ad:Option Addr) (n cap:Nat) (xs:List Int) (nm:Int) (b:Bool) (w:World) (hn:xs.length=n) (hcap:n≤cap) (hx:∀ x∈xs,-9223372036854775808≤x∧x≤9223372036854775807) (hr:RdV w ad (xs.map iz)) (hnm:-9223372036854775808≤nm∧nm≤9223372036854775807) (hU:UT w) (hT:TB w) :
    Calls Tryz.prog 7 #[.slice ad n cap,.int .i64 nm,.bool b] w (BoolBelow true w):=by
  have HU:=Lib.hid (fun W (h:Below w.heap.size w W)=>hU.below h);have HT:=Lib.hid (fun W (h:Below w.heap.size w W)=>hT.below h)
  have AW:Hid (∀ W,Below w.heap.size w W→Calls Tryz.prog 10 #[] W (BoolBelow true w)):=Lib.hid (fun W h=>(awakeJ_any W (hU.below h) (hT.below h)).mono fun _ _ hp=>⟨hp.1,below_on h hp.2⟩)
  have AW2:=Lib.hid (fun W (h:Below w.heap.size w W)=>awakeJ_any W (hU.below h) (hT.below h))
  by_cases h60:n≤60
  · have h60z:¬ (60:Int)<(n:Int):=by omega
    have KM:=Lib.hid (plainV_any 3 (by decide) (.slice ad n cap) w (⟨ad,n,cap,xs,rfl,hr,hn,hcap,by omega,hx⟩:IntsV w (.slice ad n cap)))
    have KP:=Lib.hid (fun W=>place_any nm 26 W hnm (by decide))
    obtain ⟨m,hm,hm26⟩:∃ m:Nat,nm % 26=(m:Int)∧m<26:=⟨(nm % 26).toNat,by omega,by omega⟩
    rw [hm] at KP
    have HM:=Lib.hid hm26
    clear hn hcap hx hr hnm hU hT hm
    have HSA:=Lib.hid (show ((⟨#[34]⟩:ByteArray)++⟨#[nmL m]⟩++⟨#[34]⟩=strU (nmX false m)) from by rw [show (⟨#[nmL m]⟩:ByteArray)=strU [nmL m] from rfl,show (⟨#[34]⟩:ByteArray)=strU [34] from rfl,strU_app,strU_app];rfl)
    have HE:=Lib.hid (letter_at m hm26)
    cases b
    · go_enter Tryz.func7,Tryz.ntmps7
      go_wp2_with fail
      refine KM.out.mono ?_
      rintro r w1 ⟨u,rfl,hR,⟨hck,hnb,hel,hfit⟩,hb1⟩
      have hco:=Coh.of hR
      have KE:=Lib.hid (encode_anyj u w1 hR (HU.out _ hb1) (HT.out _ hb1))
      rw [encodeL_yes hck hnb (by omega)] at KE
      unfold EncPost at KE
      have HD1:=Lib.hid (decode_twice hfit hnb hco hel false hm26)
      have HD2:=Lib.hid (decode_once hfit hnb hco hel false hm26)
      have HFT:=Lib.hid hfit
      have HB1:=Lib.hid hb1
      clear hck hnb hfit hb1 hco hR KM
      generalize encJ u=l at *
      generalize u.bare=ub at *
      generalize hcu:u.c=c at *
      clear hcu
      obtain ⟨uk,ub0,uneg,uma,umn,umc,ue,us,uka,ukn,ukc,uva,uvn,uvc⟩:=c
      unfold Cel.val at KE ⊢
      have hsl:(⟨l.toArray⟩:ByteArray).size≤11060:=by show l.toArray.size≤_;simpa using hel
      have HT1:=Lib.hid (show (⟨#[91,123]⟩++strU (nmX false m)++⟨#[58]⟩++⟨l.toArray⟩++⟨#[44]⟩++strU (nmX false m)++⟨#[58]⟩++⟨l.toArray⟩++⟨#[125,93]⟩:ByteArray)=strU (twice1 false m l) from by show strU [91,123]++strU (nmX false m)++strU [58]++strU l++strU [44]++strU (nmX false m)++strU [58]++strU l++strU [125,93]=_;rw [strU_app,strU_app,strU_app,strU_app,strU_app,strU_app,strU_app,strU_app];unfold twice1;simp)
      have HT2:=Lib.hid (show (⟨#[123]⟩++strU (nmX false m)++⟨#[58]⟩++⟨l.toArray⟩++⟨#[44,34,34,58]⟩++⟨l.toArray⟩++⟨#[125]⟩:ByteArray)=strU (twice2 false m l) from by show strU [123]++strU (nmX false m)++strU [58]++strU l++strU [44,34,34,58]++strU l++strU [125]=_;rw [strU_app,strU_app,strU_app,strU_app,strU_app,strU_app];unfold twice2;simp)
      have hl1:(twice1 false m l).length≤32768:=by unfold twice1 nmX;simp [quoN,escN];omega
      have hl2:(twice2 false m l).length≤32768:=by unfold twice2 nmX;simp [quoN,escN];omega
      have KD1:=Lib.hid (fun W (h:Below w.heap.size w W)=>decode_anyj (twice1 false m l) W (by omega) (HU.out W h))
      have KD2:=Lib.hid (fun W (h:Below w.heap.size w W)=>decode_anyj (twice2 false m l) W (by omega) (HU.out W h))
      rw [HD1.out] at KD1
      rw [HD2.out] at KD2
      change Hid (∀ W,_→Calls _ _ #[.string (strU (twice1 false m l))] _ _) at KD1
      change Hid (∀ W,_→Calls _ _ #[.string (strU (twice2 false m l))] _ _) at KD2
      have hza:(strU (nmX false m)).size≤8:=by rw [strU_size];simp [nmX,quoN]
      have hzb:(strU (nmX false m)).size≤8:=by rw [strU_size];simp [nmX,quoN,escN]
      have HSL:Hid ((⟨l.toArray⟩:ByteArray)=strU l):=Lib.hid rfl
      have hE:=HE.out
      have hA:=HSA.out
      change (⟨l.toArray⟩:ByteArray).size≤11060 at hsl
      have p2:(⟨#[91,123]⟩++strU (nmX false m):ByteArray).size≤24000:=by rw [ByteArray.size_append];have:=hsl;have:=hza;have:=hzb;simp only [show (⟨#[91,123]⟩:ByteArray).size=2 from rfl] <;> omega
      have p3:(⟨#[91,123]⟩++strU (nmX false m)++⟨#[58]⟩:ByteArray).size≤36000:=by rw [ByteArray.size_append];have e:(⟨#[58]⟩:ByteArray).size=1:=rfl;omega
      have p4:(⟨#[91,123]⟩++strU (nmX false m)++⟨#[58]⟩++⟨l.toArray⟩:ByteArray).size≤48000:=by rw [ByteArray.size_append];have e:(⟨l.toArray⟩:ByteArray).size≤11060:=hsl;omega
      have p5:(⟨#[91,123]⟩++strU (nmX false m)++⟨#[58]⟩++⟨l.toArray⟩++⟨#[44]⟩:ByteArray).size≤60000:=by rw [ByteArray.size_append];have e:(⟨#[44]⟩:ByteArray).size=1:=rfl;omega
      have p6:(⟨#[91,123]⟩++strU (nmX false m)++⟨#[58]⟩++⟨l.toArray⟩++⟨#[44]⟩++strU (nmX false m):ByteArray).size≤72000:=by rw [ByteArray.size_append];have e:(strU (nmX false m):ByteArray).size≤11060:=Nat.le_trans hzb (by decide);omega
      have p7:(⟨#[91,123]⟩++strU (nmX false m)++⟨#[58]⟩++⟨l.toArray⟩++⟨#[44]⟩++strU (nmX false m)++⟨#[58]⟩:ByteArray).size≤84000:=by rw [ByteArray.size_append];have e:(⟨#[58]⟩:ByteArray).size=1:=rfl;omega
      have p8:(⟨#[91,123]⟩++strU (nmX false m)++⟨#[58]⟩++⟨l.toArray⟩++⟨#[44]⟩++strU (nmX false m)++⟨#[58]⟩++⟨l.toArray⟩:ByteArray).size≤96000:=by rw [ByteArray.size_append];have e:(⟨l.toArray⟩:ByteArray).size≤11060:=hsl;omega
      have p9:(⟨#[91,123]⟩++strU (nmX false m)++⟨#[58]⟩++⟨l.toArray⟩++⟨#[44]⟩++strU (nmX false m)++⟨#[58]⟩++⟨l.toArray⟩++⟨#[125,93]⟩:ByteArray).size≤108000:=by rw [ByteArray.size_append];have e:(⟨#[125,93]⟩:ByteArray).size=2:=rfl;omega
      have q2:(⟨#[123]⟩++strU (nmX false m):ByteArray).size≤24000:=by rw [ByteArray.size_append];have:=hsl;have:=hza;have:=hzb;simp only [show (⟨#[123]⟩:ByteArray).size=1 from rfl] <;> omega
      have q3:(⟨#[123]⟩++strU (nmX false m)++⟨#[58]⟩:ByteArray).size≤36000:=by rw [ByteArray.size_append];have e:(⟨#[58]⟩:ByteArray).size=1:=rfl;omega
      have q4:(⟨#[123]⟩++strU (nmX false m)++⟨#[58]⟩++⟨l.toArray⟩:ByteArray).size≤48000:=by rw [ByteArray.size_append];have e:(⟨l.toArray⟩:ByteArray).size≤11060:=hsl;omega
      have q5:(⟨#[123]⟩++strU (nmX false m)++⟨#[58]⟩++⟨l.toArray⟩++⟨#[44,34,34,58]⟩:ByteArray).size≤60000:=by rw [ByteArray.size_append];have e:(⟨#[44,34,34,58]⟩:ByteArray).size=4:=rfl;omega
      have q6:(⟨#[123]⟩++strU (nmX false m)++⟨#[58]⟩++⟨l.toArray⟩++⟨#[44,34,34,58]⟩++⟨l.toArray⟩:ByteArray).size≤72000:=by rw [ByteArray.size_append];have e:(⟨l.toArray⟩:ByteArray).size≤11060:=hsl;omega
      have q7:(⟨#[123]⟩++strU (nmX false m)++⟨#[58]⟩++⟨l.toArray⟩++⟨#[44,34,34,58]⟩++⟨l.toArray⟩++⟨#[125]⟩:ByteArray).size≤84000:=by rw [ByteArray.size_append];have e:(⟨#[125]⟩:ByteArray).size=1:=rfl;omega
      have HSX0:Hid ((strU (nmX false m)).extract 1 2=⟨#[nmL m]⟩∧(strU (nmX false m)).size=3):=Lib.hid ⟨by apply ByteArray.ext;simp [strU,nmX,quoN,ByteArray.data_extract],by rw [strU_size];rfl⟩
      generalize strU (twice1 false m l)=t1 at *
      generalize strU (twice2 false m l)=t2 at *
      generalize strU (nmX false m)=sa at *
      go_wp2_with fail
      refine KE.out.mono ?_
      rintro r w2 ⟨rfl,hb2⟩
      have HB2:=Lib.hid (HB1.out.trans (hb2.mono HB1.out.size))
      clear hb2 KE
      have hzm:(m:Int)≤25:=by omega
      have hz0:(0:Int)≤(m:Int):=by omega
      go_wp2_with fail
      refine (KP.out _).mono ?_
      rintro r w3 ⟨rfl,rfl⟩
      go_wp2_with fail
      rw [HT1.out]
      refine (KD1.out _ HB2.out).mono ?_
      intro r w4 hp4
      obtain ⟨rfl,hb4⟩:=hp4
      obtain ⟨w5,hw5⟩:∃ x,w4.alloc (.cells #[.int .i64 0,.bool false,.bool false,.slice none 0 0,.int .i64 0,.string ⟨#[]⟩,.slice none 0 0,.slice none 0 0] 28)=x:=⟨_,rfl⟩
      have hb5:Below w4.heap.size w4 w5:=by rw [← hw5];exact (Below.refl _ _).alloc (Nat.le_refl _) _
      have HB5:=Lib.hid (HB2.out.trans ((hb4.trans (hb5.mono hb4.size)).mono HB2.out.size))
      have HW5:=Lib.hid hw5
      clear hb4 hb5 hw5 KD1
      go_wp2_with fail
      rw [HW5.out]
      go_wp2_with fail
      rw [HT2.out]
      refine (KD2.out _ HB5.out).mono ?_
      intro r w6 hp6
      obtain ⟨t3,rfl,hbare,hR3,hb6⟩:=hp6
      have hbr:=hbare
      rw [MT.bare_eq] at hbr
      injection hbr with j1 j2 j3 j4
      have jkn:t3.c.kn=2:=by have:=congrArg Cel.kn j1;exact this
      have jvn:t3.c.vn=2:=by have:=congrArg Cel.vn j1;exact this
      obtain ⟨x,y,hv⟩:∃ x y,t3.v=[x,y]:=by
        cases hv:t3.v with
        | nil=>rw [hv] at j4;simp at j4
        | cons x l2 =>
          cases l2 with
          | nil=>rw [hv] at j4;simp at j4
          | cons y l3 =>
            cases l3 with
            | nil=>exact ⟨x,y,rfl⟩
            | cons z l4=>rw [hv] at j4;simp at j4
      have jxy:x.bare=ub∧y.bare=ub:=by rw [hv] at j4;simpa using j4
      obtain ⟨jx,jy⟩:=jxy
      have own:=hR3.own
      have hkr:=own.kr
      have hvr:=own.vr
      rw [j3] at hkr
      rw [hv] at hvr
      have hRx:Rep w6 x:=hR3.part (by rw [hv];simp)
      have hRy:Rep w6 y:=hR3.part (by rw [hv];simp)
      have KSM:=Lib.hid (fun W (h:Below w6.heap.size w6 W)=>refSame_yes (t:=x) (u:=y) (d:=2) (w:=W) (by rw [jx,jy]) (small_snd (by rw [jx];exact HFT.out) 2 (by decide)).1 (hRx.on h) (hRy.on h))
      clear hbare j1 j2 j3 j4 hR3 hRx hRy jx jy own hv
      generalize t3.c=c3 at *
      obtain ⟨k3,tb3,neg3,ma3,mn3,mc3,e3,s3',ka3,kn3,kc3,va3,vn3,vc3⟩:=c3
      simp only at jkn jvn
      subst jkn jvn
      obtain ⟨kb,ko,rfl,hkb⟩:=hkr.shape (by rw [sv_len];simp)
      obtain ⟨vb,vo,rfl,hvb⟩:=hvr.shape (by rw [flat_len];simp)
      have HKR:=Lib.hid (fun W (h:Below w6.heap.size w6 W)=>hkr.on h)
      have HVR:=Lib.hid (fun W (h:Below w6.heap.size w6 W)=>hvr.on h)
      change Hid (∀ W,_→RdV W _ (flat [x.c,y.c])) at HVR
      generalize x.c=cx at *
      generalize y.c=cy at *
      obtain ⟨xk,xbb,xneg,xma,xmn,xmc,xe,xs',xka,xkn,xkc,xva,xvn,xvc⟩:=cx
      obtain ⟨yk,ybb,yneg,yma,ymn,ymc,ye,ys',yka,ykn,ykc,yva,yvn,yvc⟩:=cy
      unfold Cel.val at KSM ⊢
      obtain ⟨w7,hw7⟩:∃ x,w6.alloc (.cells #[.int .i64 k3,.bool tb3,.bool neg3,.slice ma3 mn3 mc3,.int .i64 e3,.string s3',.slice (some ⟨kb,ko,none⟩) 2 kc3,.slice (some ⟨vb,vo,none⟩) 2 vc3] 28)=x:=⟨_,rfl⟩
      have hb7:Below w6.heap.size w6 w7:=by rw [← hw7];exact (Below.refl _ _).alloc (Nat.le_refl _) _
      have q7:w7.heap[w6.heap.size]? = some (.cells #[.int .i64 k3,.bool tb3,.bool neg3,.slice ma3 mn3 mc3,.int .i64 e3,.string s3',.slice (some ⟨kb,ko,none⟩) 2 kc3,.slice (some ⟨vb,vo,none⟩) 2 vc3] 28):=by rw [← hw7];exact heap_alloc_new w6 _
      have HB7:=Lib.hid (HB5.out.trans ((hb6.trans (hb7.mono hb6.size)).mono HB5.out.size))
      have HW7:=Lib.hid hw7
      have H67:=Lib.hid hb7
      clear hkr hvr hb6 hw7 KD2
      go_wp2_with fail
      rw [HW7.out]
      have hx6:w6.heap.size<w7.heap.size:=(Array.getElem?_eq_some_iff.1 q7).1
      have c6:w7.cell? ⟨w6.heap.size,6,none⟩=some (.slice (some ⟨kb,ko,none⟩) 2 kc3):=(box_cellsJ q7 6 _ rfl).1
      have c7:w7.cell? ⟨w6.heap.size,7,none⟩=some (.slice (some ⟨vb,vo,none⟩) 2 vc3):=(box_cellsJ q7 7 _ rfl).1
      have H6W:Hid (∀ W,Below w7.heap.size w7 W→Below w6.heap.size w6 W):=Lib.hid (fun W h=>H67.out.trans (h.mono H67.out.size))
      have HSX:Hid (sa.extract 1 2=⟨#[nmL m]⟩∧sa.size=3):=HSX0
      refine rg_norm (fun J hJ=>?_)
      have HJ:=Lib.hid hJ
      clear hJ
      refine wp_region_held_drew (S:=fun W=>Below w7.heap.size w7 W) (by kernel_rfl) (below_drew (Below.refl _ _)) (fun hH=>?_)
      refine rg_pure 0 _ (.int .i64 2) (some 85) rfl (by kernel_rfl) (by kernel_rfl) (by kernel_rfl) (by kernel_rfl) (fun _ _ _ h=>h) (by kernel_rfl) (fun w=>by kernel_rfl) hH ?_
      refine rg_pure 1 _ (.bool true) (some 86) rfl (by kernel_rfl) (by kernel_rfl) (by kernel_rfl) (by kernel_rfl) (fun _ _ _ h=>h) (by kernel_rfl) (fun w=>rg_eqI w _ _ _ _ _ _ .i64 (2) rfl (by kernel_rfl) (by kernel_rfl)) hH ?_
      refine rg_pure 2 _ (.bool true) (some 87) rfl (by kernel_rfl) (by kernel_rfl) (by kernel_rfl) (by kernel_rfl) (fun _ _ _ h=>h) (by kernel_rfl) (fun w=>by kernel_rfl) hH ?_
      refine rg_pure 3 _ (.int .i64 0) (some 88) rfl (by kernel_rfl) (by kernel_rfl) (by kernel_rfl) (by kernel_rfl) (fun _ _ _ h=>h) (by kernel_rfl) (fun w=>by kernel_rfl) hH ?_
      refine rg_pure 4 _ (.bool true) (some 89) rfl (by kernel_rfl) (by kernel_rfl) (by kernel_rfl) (by kernel_rfl) (fun _ _ _ h=>h) (by kernel_rfl) (fun w=>rg_eqI w _ _ _ _ _ _ .i64 (0) rfl (by kernel_rfl) (by kernel_rfl)) hH ?_
      refine rg_pure 5 _ (.bool true) (some 90) rfl (by kernel_rfl) (by kernel_rfl) (by kernel_rfl) (by kernel_rfl) (fun _ _ _ h=>h) (by kernel_rfl) (fun w=>by kernel_rfl) hH ?_
      refine rg_pure 6 _ (.bool true) (some 91) rfl (by kernel_rfl) (by kernel_rfl) (by kernel_rfl) (by kernel_rfl) (fun _ _ _ h=>h) (by kernel_rfl) (fun w=>by kernel_rfl) hH ?_
      refine rg_pure 7 _ (.pointer (some ⟨w6.heap.size,6,none⟩)) (some 92) rfl (by kernel_rfl) (by kernel_rfl) (by kernel_rfl) (by kernel_rfl) (fun _ _ _ h=>h) (by kernel_rfl) (fun w=>by kernel_rfl) hH ?_
      refine rg_load1 8 _ 25 (.tmp 92) ⟨w6.heap.size,6,none⟩ (.slice (some ⟨kb,ko,none⟩) 2 kc3) _ (some 93) rfl (by kernel_rfl) (by kernel_rfl) (by kernel_rfl) (by kernel_rfl) (fun _ _ _ h=>h) (by kernel_rfl) rfl (by kernel_rfl) Tryz.underlying25 rfl (fun W hW=>(hW.cell (p:=⟨w6.heap.size,6,none⟩) hx6).trans c6) hH ?_
      refine rg_pure 9 _ (.int .i64 2) (some 94) rfl (by kernel_rfl) (by kernel_rfl) (by kernel_rfl) (by kernel_rfl) (fun _ _ _ h=>h) (by kernel_rfl) (fun w=>by kernel_rfl) hH ?_
      refine rg_pure 10 _ (.bool true) (some 95) rfl (by kernel_rfl) (by kernel_rfl) (by kernel_rfl) (by kernel_rfl) (fun _ _ _ h=>h) (by kernel_rfl) (fun w=>rg_eqI w _ _ _ _ _ _ .i64 (2) rfl (by kernel_rfl) (by kernel_rfl)) hH ?_
      refine rg_pure 11 _ (.bool true) (some 96) rfl (by kernel_rfl) (by kernel_rfl) (by kernel_rfl) (by kernel_rfl) (fun _ _ _ h=>h) (by kernel_rfl) (fun w=>by kernel_rfl) hH ?_
      refine rg_pure 12 _ (.bool true) (some 97) rfl (by kernel_rfl) (by kernel_rfl) (by kernel_rfl) (by kernel_rfl) (fun _ _ _ h=>h) (by kernel_rfl) (fun w=>by kernel_rfl) hH ?_
      refine rg_pure 13 _ (.pointer (some ⟨w6.heap.size,6,none⟩)) (some 98) rfl (by kernel_rfl) (by kernel_rfl) (by kernel_rfl) (by kernel_rfl) (fun _ _ _ h=>h) (by kernel_rfl) (fun w=>by kernel_rfl) hH ?_
      refine rg_load1 14 _ 25 (.tmp 98) ⟨w6.heap.size,6,none⟩ (.slice (some ⟨kb,ko,none⟩) 2 kc3) _ (some 99) rfl (by kernel_rfl) (by kernel_rfl) (by kernel_rfl) (by kernel_rfl) (fun _ _ _ h=>h) (by kernel_rfl) rfl (by kernel_rfl) Tryz.underlying25 rfl (fun W hW=>(hW.cell (p:=⟨w6.heap.size,6,none⟩) hx6).trans c6) hH ?_
      refine rg_pure 15 _ (.pointer (some ⟨kb,ko+0,none⟩)) (some 100) rfl (by kernel_rfl) (by kernel_rfl) (by kernel_rfl) (by kernel_rfl) (fun _ _ _ h=>h) (by kernel_rfl) (fun w=>rl_idx w _ _ _ _ _ 9 kb ko 2 kc3 0 0 1 rfl (by kernel_rfl) (by kernel_rfl) Tryz.underlying25 (by kernel_rfl) (by decide) rfl) hH ?_
      refine rg_load1 16 _ 9 (.tmp 100) ⟨kb,ko+0,none⟩ (.string ⟨#[]⟩) _ (some 101) rfl (by kernel_rfl) (by kernel_rfl) (by kernel_rfl) (by kernel_rfl) (fun _ _ _ h=>h) (by kernel_rfl) rfl (by kernel_rfl) Tryz.underlying9 rfl (fun W hW=>rdv_str (HKR.out W (H6W.out W hW)) rfl 0 (by simp)) hH ?_
      refine rg_pure 17 _ (.bool true) (some 102) rfl (by kernel_rfl) (by kernel_rfl) (by kernel_rfl) (by kernel_rfl) (fun _ _ _ h=>h) (by kernel_rfl) (fun w=>rg_eqS w _ _ _ _ _ _ (⟨#[]⟩) rfl (by kernel_rfl) (by kernel_rfl)) hH ?_
      refine rg_pure 18 _ (.bool true) (some 103) rfl (by kernel_rfl) (by kernel_rfl) (by kernel_rfl) (by kernel_rfl) (fun _ _ _ h=>h) (by kernel_rfl) (fun w=>by kernel_rfl) hH ?_
      refine rg_pure 19 _ (.bool true) (some 104) rfl (by kernel_rfl) (by kernel_rfl) (by kernel_rfl) (by kernel_rfl) (fun _ _ _ h=>h) (by kernel_rfl) (fun w=>by kernel_rfl) hH ?_
      refine rg_pure 20 _ (.pointer (some ⟨w6.heap.size,6,none⟩)) (some 105) rfl (by kernel_rfl) (by kernel_rfl) (by kernel_rfl) (by kernel_rfl) (fun _ _ _ h=>h) (by kernel_rfl) (fun w=>by kernel_rfl) hH ?_
      refine rg_load1 21 _ 25 (.tmp 105) ⟨w6.heap.size,6,none⟩ (.slice (some ⟨kb,ko,none⟩) 2 kc3) _ (some 106) rfl (by kernel_rfl) (by kernel_rfl) (by kernel_rfl) (by kernel_rfl) (fun _ _ _ h=>h) (by kernel_rfl) rfl (by kernel_rfl) Tryz.underlying25 rfl (fun W hW=>(hW.cell (p:=⟨w6.heap.size,6,none⟩) hx6).trans c6) hH ?_
      refine rg_pure 22 _ (.pointer (some ⟨kb,ko+1,none⟩)) (some 107) rfl (by kernel_rfl) (by kernel_rfl) (by kernel_rfl) (by kernel_rfl) (fun _ _ _ h=>h) (by kernel_rfl) (fun w=>rl_idx w _ _ _ _ _ 9 kb ko 2 kc3 1 1 1 rfl (by kernel_rfl) (by kernel_rfl) Tryz.underlying25 (by kernel_rfl) (by decide) rfl) hH ?_
      refine rg_load1 23 _ 9 (.tmp 107) ⟨kb,ko+1,none⟩ (.string ⟨#[nmL m]⟩) _ (some 108) rfl (by kernel_rfl) (by kernel_rfl) (by kernel_rfl) (by kernel_rfl) (fun _ _ _ h=>h) (by kernel_rfl) rfl (by kernel_rfl) Tryz.underlying9 rfl (fun W hW=>rdv_str (HKR.out W (H6W.out W hW)) rfl 1 (by simp)) hH ?_
      refine rg_pure 24 _ (.string sa) (some 109) rfl (by kernel_rfl) (by kernel_rfl) (by kernel_rfl) (by kernel_rfl) (fun _ _ _ h=>h) (by kernel_rfl) (fun w=>by kernel_rfl) hH ?_
      refine rg_pure 25 _ (.string ⟨#[nmL m]⟩) (some 110) rfl (by kernel_rfl) (by kernel_rfl) (by kernel_rfl) (by kernel_rfl) (fun _ _ _ h=>h) (by kernel_rfl) (fun w=>slice_one w _ _ _ _ sa _ rfl (by kernel_rfl) (fun _=>rfl) Tryz.underlying9 HSX.out) hH ?_
      refine rg_pure 26 _ (.bool true) (some 111) rfl (by kernel_rfl) (by kernel_rfl) (by kernel_rfl) (by kernel_rfl) (fun _ _ _ h=>h) (by kernel_rfl) (fun w=>rg_eqS w _ _ _ _ _ _ (⟨#[nmL m]⟩) rfl (by kernel_rfl) (by kernel_rfl)) hH ?_
      refine rg_pure 27 _ (.bool true) (some 112) rfl (by kernel_rfl) (by kernel_rfl) (by kernel_rfl) (by kernel_rfl) (fun _ _ _ h=>h) (by kernel_rfl) (fun w=>by kernel_rfl) hH ?_
      refine rg_pure 28 _ (.bool true) (some 113) rfl (by kernel_rfl) (by kernel_rfl) (by kernel_rfl) (by kernel_rfl) (fun _ _ _ h=>h) (by kernel_rfl) (fun w=>by kernel_rfl) hH ?_
      refine rg_pure 29 _ (.pointer (some ⟨w6.heap.size,7,none⟩)) (some 114) rfl (by kernel_rfl) (by kernel_rfl) (by kernel_rfl) (by kernel_rfl) (fun _ _ _ h=>h) (by kernel_rfl) (fun w=>by kernel_rfl) hH ?_
      refine rg_load1 30 _ 26 (.tmp 114) ⟨w6.heap.size,7,none⟩ (.slice (some ⟨vb,vo,none⟩) 2 vc3) _ (some 115) rfl (by kernel_rfl) (by kernel_rfl) (by kernel_rfl) (by kernel_rfl) (fun _ _ _ h=>h) (by kernel_rfl) rfl (by kernel_rfl) Tryz.underlying26 rfl (fun W hW=>(hW.cell (p:=⟨w6.heap.size,7,none⟩) hx6).trans c7) hH ?_
      refine rg_pure 31 _ (.pointer (some ⟨vb,vo+0,none⟩)) (some 116) rfl (by kernel_rfl) (by kernel_rfl) (by kernel_rfl) (by kernel_rfl) (fun _ _ _ h=>h) (by kernel_rfl) (fun w=>rl_idx w _ _ _ _ _ 28 vb vo 2 vc3 0 0 8 rfl (by kernel_rfl) (by kernel_rfl) Tryz.underlying26 (by kernel_rfl) (by decide) rfl) hH ?_
      refine rg_loadM 32 _ 28 (.tmp 116) vb (vo+0) ([.int .i64 xk,.bool xbb,.bool xneg,.slice xma xmn xmc,.int .i64 xe,.string xs',.slice xka xkn xkc,.slice xva xvn xvc]) _ (some 117) rfl (by kernel_rfl) (by kernel_rfl) (by kernel_rfl) (by kernel_rfl) (fun _ _ _ h=>h) (by kernel_rfl) rfl (by kernel_rfl) Tryz.underlying28 rfl (by kernel_rfl) (fun W hW=>rng_flat (HVR.out W (H6W.out W hW)) 0 (by simp) rfl _ rfl) hH ?_
      refine rg_pure 33 _ (.pointer (some ⟨w6.heap.size,7,none⟩)) (some 118) rfl (by kernel_rfl) (by kernel_rfl) (by kernel_rfl) (by kernel_rfl) (fun _ _ _ h=>h) (by kernel_rfl) (fun w=>by kernel_rfl) hH ?_
      refine rg_load1 34 _ 26 (.tmp 118) ⟨w6.heap.size,7,none⟩ (.slice (some ⟨vb,vo,none⟩) 2 vc3) _ (some 119) rfl (by kernel_rfl) (by kernel_rfl) (by kernel_rfl) (by kernel_rfl) (fun _ _ _ h=>h) (by kernel_rfl) rfl (by kernel_rfl) Tryz.underlying26 rfl (fun W hW=>(hW.cell (p:=⟨w6.heap.size,7,none⟩) hx6).trans c7) hH ?_
      refine rg_pure 35 _ (.pointer (some ⟨vb,vo+8,none⟩)) (some 120) rfl (by kernel_rfl) (by kernel_rfl) (by kernel_rfl) (by kernel_rfl) (fun _ _ _ h=>h) (by kernel_rfl) (fun w=>rl_idx w _ _ _ _ _ 28 vb vo 2 vc3 1 8 8 rfl (by kernel_rfl) (by kernel_rfl) Tryz.underlying26 (by kernel_rfl) (by decide) rfl) hH ?_
      refine rg_loadM 36 _ 28 (.tmp 120) vb (vo+8) ([.int .i64 yk,.bool ybb,.bool yneg,.slice yma ymn ymc,.int .i64 ye,.string ys',.slice yka ykn ykc,.slice yva yvn yvc]) _ (some 121) rfl (by kernel_rfl) (by kernel_rfl) (by kernel_rfl) (by kernel_rfl) (fun _ _ _ h=>h) (by kernel_rfl) rfl (by kernel_rfl) Tryz.underlying28 rfl (by kernel_rfl) (fun W hW=>rng_flat (HVR.out W (H6W.out W hW)) 1 (by simp) rfl _ rfl) hH ?_
      refine rg_call 37 _ 17 _ _ _ _ #[.agg #[.int .i64 xk,.bool xbb,.bool xneg,.slice xma xmn xmc,.int .i64 xe,.string xs',.slice xka xkn xkc,.slice xva xvn xvc],.agg #[.int .i64 yk,.bool ybb,.bool yneg,.slice yma ymn ymc,.int .i64 ye,.string ys',.slice yka ykn ykc,.slice yva yvn yvc]] (some 122) rfl (by kernel_rfl) (by kernel_rfl) (by kernel_rfl) rfl (by kernel_rfl) Tryz.func17 (by kernel_rfl) (by kernel_rfl) (by kernel_rfl) (KSM.out _ (H6W.out _ hH)) ?_
      rintro r' w' ⟨rfl,hb⟩
      replace hH:=hH.trans (hb.mono hH.size)
      refine ⟨_,rfl,hH,?_⟩
      refine rg_pure 38 _ (.bool true) (some 123) rfl (by kernel_rfl) (by kernel_rfl) (by kernel_rfl) (by kernel_rfl) (fun _ _ _ h=>h) (by kernel_rfl) (fun w=>by kernel_rfl) hH ?_
      refine rg_pure 39 _ (.bool true) (some 124) rfl (by kernel_rfl) (by kernel_rfl) (by kernel_rfl) (by kernel_rfl) (fun _ _ _ h=>h) (by kernel_rfl) (fun w=>by kernel_rfl) hH ?_
      refine rg_call 40 _ 10 _ _ _ _ #[] (some 125) rfl (by kernel_rfl) (by kernel_rfl) (by kernel_rfl) rfl (by kernel_rfl) Tryz.func10 (by kernel_rfl) (by kernel_rfl) (by kernel_rfl) (AW2.out _ (HB7.out.trans (hH.mono HB7.out.size))) ?_
      rintro r' w' ⟨rfl,hb⟩
      replace hH:=hH.trans (hb.mono hH.size)
      refine ⟨_,rfl,hH,?_⟩
      refine rg_pure 41 _ (.bool true) (some 126) rfl (by kernel_rfl) (by kernel_rfl) (by kernel_rfl) (by kernel_rfl) (fun _ _ _ h=>h) (by kernel_rfl) (fun w=>by kernel_rfl) hH ?_
      refine rg_pure 42 _ (.bool true) (some 6) rfl (by kernel_rfl) (by kernel_rfl) (by kernel_rfl) (by kernel_rfl) (fun _ _ _ h=>h) (by kernel_rfl) (fun w=>by kernel_rfl) hH ?_
      refine wpAnyH_done (by kernel_rfl) ?_ _
      have HFF:=Lib.hid (HB7.out.trans (hH.mono HB7.out.size))
      clear hH
      refine HJ.out _ _ ?_
      clear HJ
      simp only [Act.put,List.setIfInBounds_toArray,List.set_cons_zero,List.set_cons_succ]
      go_wp2
      go_ret
      exact BoolBelow.mk rfl HFF.out
    · go_enter Tryz.func7,Tryz.ntmps7
      go_wp2_with fail
      refine KM.out.mono ?_
      rintro r w1 ⟨u,rfl,hR,⟨hck,hnb,hel,hfit⟩,hb1⟩
      have hco:=Coh.of hR
      have KE:=Lib.hid (encode_anyj u w1 hR (HU.out _ hb1) (HT.out _ hb1))
      rw [encodeL_yes hck hnb (by omega)] at KE
      unfold EncPost at KE
      have HD1:=Lib.hid (decode_twice hfit hnb hco hel true hm26)
      have HD2:=Lib.hid (decode_once hfit hnb hco hel true hm26)
      have HFT:=Lib.hid hfit
      have HB1:=Lib.hid hb1
      clear hck hnb hfit hb1 hco hR KM
      generalize encJ u=l at *
      generalize u.bare=ub at *
      generalize hcu:u.c=c at *
      clear hcu
      obtain ⟨uk,ub0,uneg,uma,umn,umc,ue,us,uka,ukn,ukc,uva,uvn,uvc⟩:=c
      unfold Cel.val at KE ⊢
      have hsl:(⟨l.toArray⟩:ByteArray).size≤11060:=by show l.toArray.size≤_;simpa using hel
      have HT1:=Lib.hid (show (⟨#[91,123]⟩++strU (nmX false m)++⟨#[58]⟩++⟨l.toArray⟩++⟨#[44]⟩++strU (nmX true m)++⟨#[58]⟩++⟨l.toArray⟩++⟨#[125,93]⟩:ByteArray)=strU (twice1 true m l) from by show strU [91,123]++strU (nmX false m)++strU [58]++strU l++strU [44]++strU (nmX true m)++strU [58]++strU l++strU [125,93]=_;rw [strU_app,strU_app,strU_app,strU_app,strU_app,strU_app,strU_app,strU_app];unfold twice1;simp)
      have HT2:=Lib.hid (show (⟨#[123]⟩++strU (nmX true m)++⟨#[58]⟩++⟨l.toArray⟩++⟨#[44,34,34,58]⟩++⟨l.toArray⟩++⟨#[125]⟩:ByteArray)=strU (twice2 true m l) from by show strU [123]++strU (nmX true m)++strU [58]++strU l++strU [44,34,34,58]++strU l++strU [125]=_;rw [strU_app,strU_app,strU_app,strU_app,strU_app,strU_app];unfold twice2;simp)
      have hl1:(twice1 true m l).length≤32768:=by unfold twice1 nmX;simp [quoN,escN];omega
      have hl2:(twice2 true m l).length≤32768:=by unfold twice2 nmX;simp [quoN,escN];omega
      have KD1:=Lib.hid (fun W (h:Below w.heap.size w W)=>decode_anyj (twice1 true m l) W (by omega) (HU.out W h))
      have KD2:=Lib.hid (fun W (h:Below w.heap.size w W)=>decode_anyj (twice2 true m l) W (by omega) (HU.out W h))
      rw [HD1.out] at KD1
      rw [HD2.out] at KD2
      change Hid (∀ W,_→Calls _ _ #[.string (strU (twice1 true m l))] _ _) at KD1
      change Hid (∀ W,_→Calls _ _ #[.string (strU (twice2 true m l))] _ _) at KD2
      have hza:(strU (nmX false m)).size≤8:=by rw [strU_size];simp [nmX,quoN]
      have hzb:(strU (nmX true m)).size≤8:=by rw [strU_size];simp [nmX,quoN,escN]
      have HSL:Hid ((⟨l.toArray⟩:ByteArray)=strU l):=Lib.hid rfl
      have hE:=HE.out
      have hA:=HSA.out
      change (⟨l.toArray⟩:ByteArray).size≤11060 at hsl
      have p2:(⟨#[91,123]⟩++strU (nmX false m):ByteArray).size≤24000:=by rw [ByteArray.size_append];have:=hsl;have:=hza;have:=hzb;simp only [show (⟨#[91,123]⟩:ByteArray).size=2 from rfl] <;> omega
      have p3:(⟨#[91,123]⟩++strU (nmX false m)++⟨#[58]⟩:ByteArray).size≤36000:=by rw [ByteArray.size_append];have e:(⟨#[58]⟩:ByteArray).size=1:=rfl;omega
      have p4:(⟨#[91,123]⟩++strU (nmX false m)++⟨#[58]⟩++⟨l.toArray⟩:ByteArray).size≤48000:=by rw [ByteArray.size_append];have e:(⟨l.toArray⟩:ByteArray).size≤11060:=hsl;omega
      have p5:(⟨#[91,123]⟩++strU (nmX false m)++⟨#[58]⟩++⟨l.toArray⟩++⟨#[44]⟩:ByteArray).size≤60000:=by rw [ByteArray.size_append];have e:(⟨#[44]⟩:ByteArray).size=1:=rfl;omega
      have p6:(⟨#[91,123]⟩++strU (nmX false m)++⟨#[58]⟩++⟨l.toArray⟩++⟨#[44]⟩++strU (nmX true m):ByteArray).size≤72000:=by rw [ByteArray.size_append];have e:(strU (nmX true m):ByteArray).size≤11060:=Nat.le_trans hzb (by decide);omega
      have p7:(⟨#[91,123]⟩++strU (nmX false m)++⟨#[58]⟩++⟨l.toArray⟩++⟨#[44]⟩++strU (nmX true m)++⟨#[58]⟩:ByteArray).size≤84000:=by rw [ByteArray.size_append];have e:(⟨#[58]⟩:ByteArray).size=1:=rfl;omega
      have p8:(⟨#[91,123]⟩++strU (nmX false m)++⟨#[58]⟩++⟨l.toArray⟩++⟨#[44]⟩++strU (nmX true m)++⟨#[58]⟩++⟨l.toArray⟩:ByteArray).size≤96000:=by rw [ByteArray.size_append];have e:(⟨l.toArray⟩:ByteArray).size≤11060:=hsl;omega
      have p9:(⟨#[91,123]⟩++strU (nmX false m)++⟨#[58]⟩++⟨l.toArray⟩++⟨#[44]⟩++strU (nmX true m)++⟨#[58]⟩++⟨l.toArray⟩++⟨#[125,93]⟩:ByteArray).size≤108000:=by rw [ByteArray.size_append];have e:(⟨#[125,93]⟩:ByteArray).size=2:=rfl;omega
      have q2:(⟨#[123]⟩++strU (nmX true m):ByteArray).size≤24000:=by rw [ByteArray.size_append];have:=hsl;have:=hza;have:=hzb;simp only [show (⟨#[123]⟩:ByteArray).size=1 from rfl] <;> omega
      have q3:(⟨#[123]⟩++strU (nmX true m)++⟨#[58]⟩:ByteArray).size≤36000:=by rw [ByteArray.size_append];have e:(⟨#[58]⟩:ByteArray).size=1:=rfl;omega
      have q4:(⟨#[123]⟩++strU (nmX true m)++⟨#[58]⟩++⟨l.toArray⟩:ByteArray).size≤48000:=by rw [ByteArray.size_append];have e:(⟨l.toArray⟩:ByteArray).size≤11060:=hsl;omega
      have q5:(⟨#[123]⟩++strU (nmX true m)++⟨#[58]⟩++⟨l.toArray⟩++⟨#[44,34,34,58]⟩:ByteArray).size≤60000:=by rw [ByteArray.size_append];have e:(⟨#[44,34,34,58]⟩:ByteArray).size=4:=rfl;omega
      have q6:(⟨#[123]⟩++strU (nmX true m)++⟨#[58]⟩++⟨l.toArray⟩++⟨#[44,34,34,58]⟩++⟨l.toArray⟩:ByteArray).size≤72000:=by rw [ByteArray.size_append];have e:(⟨l.toArray⟩:ByteArray).size≤11060:=hsl;omega
      have q7:(⟨#[123]⟩++strU (nmX true m)++⟨#[58]⟩++⟨l.toArray⟩++⟨#[44,34,34,58]⟩++⟨l.toArray⟩++⟨#[125]⟩:ByteArray).size≤84000:=by rw [ByteArray.size_append];have e:(⟨#[125]⟩:ByteArray).size=1:=rfl;omega
      obtain ⟨q1,hq1,hq1b⟩:∃ q1:Nat,(97+(m:Int)) / 16=(q1:Int)∧q1=(97+m) / 16:=⟨(97+m) / 16,by omega,rfl⟩
      obtain ⟨q2,hq2,hq2b⟩:∃ q2:Nat,(97+(m:Int)) % 16=(q2:Int)∧q2=(97+m) % 16:=⟨(97+m) % 16,by omega,rfl⟩
      have u1:(q1:Int)≤15:=by omega
      have u2:(q2:Int)≤15:=by omega
      have u3:(0:Int)≤(q1:Int):=by omega
      have u4:(0:Int)≤(q2:Int):=by omega
      have hE1:=hex_at q1 (by omega)
      have hE2:=hex_at q2 (by omega)
      have hB:(⟨#[34,92,117,48,48]⟩:ByteArray)++⟨#[hexD q1]⟩++⟨#[hexD q2]⟩++⟨#[34]⟩=strU (nmX true m):=by rw [hq1b,hq2b];show strU [34,92,117,48,48]++strU [hexD ((97+m) / 16)]++strU [hexD ((97+m) % 16)]++strU [34]=_;rw [strU_app,strU_app,strU_app];rfl
      clear hq1b hq2b
      have HSX0:Hid ((strU (nmX false m)).extract 1 2=⟨#[nmL m]⟩∧(strU (nmX false m)).size=3):=Lib.hid ⟨by apply ByteArray.ext;simp [strU,nmX,quoN,ByteArray.data_extract],by rw [strU_size];rfl⟩
      generalize strU (twice1 true m l)=t1 at *
      generalize strU (twice2 true m l)=t2 at *
      generalize strU (nmX false m)=sa at *
      generalize strU (nmX true m)=sb at *
      go_wp2_with fail
      refine KE.out.mono ?_
      rintro r w2 ⟨rfl,hb2⟩
      have HB2:=Lib.hid (HB1.out.trans (hb2.mono HB1.out.size))
      clear hb2 KE
      have hzm:(m:Int)≤25:=by omega
      have hz0:(0:Int)≤(m:Int):=by omega
      go_wp2_with fail
      refine (KP.out _).mono ?_
      rintro r w3 ⟨rfl,rfl⟩
      go_wp2_with fail
      go_quiet (fail)
      have HB3:=Lib.hid (HB2.out.trans ((below_drewN (Below.refl _ _) nq).mono HB2.out.size))
      replace HB2:=HB3
      clear HB3
      generalize w3.drewN nq=w3 at *
      go_wp2_with fail
      rw [HT1.out]
      refine (KD1.out _ HB2.out).mono ?_
      intro r w4 hp4
      obtain ⟨rfl,hb4⟩:=hp4
      obtain ⟨w5,hw5⟩:∃ x,w4.alloc (.cells #[.int .i64 0,.bool false,.bool false,.slice none 0 0,.int .i64 0,.string ⟨#[]⟩,.slice none 0 0,.slice none 0 0] 28)=x:=⟨_,rfl⟩
      have hb5:Below w4.heap.size w4 w5:=by rw [← hw5];exact (Below.refl _ _).alloc (Nat.le_refl _) _
      have HB5:=Lib.hid (HB2.out.trans ((hb4.trans (hb5.mono hb4.size)).mono HB2.out.size))
      have HW5:=Lib.hid hw5
      clear hb4 hb5 hw5 KD1
      go_wp2_with fail
      rw [HW5.out]
      go_wp2_with fail
      rw [HT2.out]
      refine (KD2.out _ HB5.out).mono ?_
      intro r w6 hp6
      obtain ⟨t3,rfl,hbare,hR3,hb6⟩:=hp6
      have hbr:=hbare
      rw [MT.bare_eq] at hbr
      injection hbr with j1 j2 j3 j4
      have jkn:t3.c.kn=2:=by have:=congrArg Cel.kn j1;exact this
      have jvn:t3.c.vn=2:=by have:=congrArg Cel.vn j1;exact this
      obtain ⟨x,y,hv⟩:∃ x y,t3.v=[x,y]:=by
        cases hv:t3.v with
        | nil=>rw [hv] at j4;simp at j4
        | cons x l2 =>
          cases l2 with
          | nil=>rw [hv] at j4;simp at j4
          | cons y l3 =>
            cases l3 with
            | nil=>exact ⟨x,y,rfl⟩
            | cons z l4=>rw [hv] at j4;simp at j4
      have jxy:x.bare=ub∧y.bare=ub:=by rw [hv] at j4;simpa using j4
      obtain ⟨jx,jy⟩:=jxy
      have own:=hR3.own
      have hkr:=own.kr
      have hvr:=own.vr
      rw [j3] at hkr
      rw [hv] at hvr
      have hRx:Rep w6 x:=hR3.part (by rw [hv];simp)
      have hRy:Rep w6 y:=hR3.part (by rw [hv];simp)
      have KSM:=Lib.hid (fun W (h:Below w6.heap.size w6 W)=>refSame_yes (t:=x) (u:=y) (d:=2) (w:=W) (by rw [jx,jy]) (small_snd (by rw [jx];exact HFT.out) 2 (by decide)).1 (hRx.on h) (hRy.on h))
      clear hbare j1 j2 j3 j4 hR3 hRx hRy jx jy own hv
      generalize t3.c=c3 at *
      obtain ⟨k3,tb3,neg3,ma3,mn3,mc3,e3,s3',ka3,kn3,kc3,va3,vn3,vc3⟩:=c3
      simp only at jkn jvn
      subst jkn jvn
      obtain ⟨kb,ko,rfl,hkb⟩:=hkr.shape (by rw [sv_len];simp)
      obtain ⟨vb,vo,rfl,hvb⟩:=hvr.shape (by rw [flat_len];simp)
      have HKR:=Lib.hid (fun W (h:Below w6.heap.size w6 W)=>hkr.on h)
      have HVR:=Lib.hid (fun W (h:Below w6.heap.size w6 W)=>hvr.on h)
      change Hid (∀ W,_→RdV W _ (flat [x.c,y.c])) at HVR
      generalize x.c=cx at *
      generalize y.c=cy at *
      obtain ⟨xk,xbb,xneg,xma,xmn,xmc,xe,xs',xka,xkn,xkc,xva,xvn,xvc⟩:=cx
      obtain ⟨yk,ybb,yneg,yma,ymn,ymc,ye,ys',yka,ykn,ykc,yva,yvn,yvc⟩:=cy
      unfold Cel.val at KSM ⊢
      obtain ⟨w7,hw7⟩:∃ x,w6.alloc (.cells #[.int .i64 k3,.bool tb3,.bool neg3,.slice ma3 mn3 mc3,.int .i64 e3,.string s3',.slice (some ⟨kb,ko,none⟩) 2 kc3,.slice (some ⟨vb,vo,none⟩) 2 vc3] 28)=x:=⟨_,rfl⟩
      have hb7:Below w6.heap.size w6 w7:=by rw [← hw7];exact (Below.refl _ _).alloc (Nat.le_refl _) _
      have q7:w7.heap[w6.heap.size]? = some (.cells #[.int .i64 k3,.bool tb3,.bool neg3,.slice ma3 mn3 mc3,.int .i64 e3,.string s3',.slice (some ⟨kb,ko,none⟩) 2 kc3,.slice (some ⟨vb,vo,none⟩) 2 vc3] 28):=by rw [← hw7];exact heap_alloc_new w6 _
      have HB7:=Lib.hid (HB5.out.trans ((hb6.trans (hb7.mono hb6.size)).mono HB5.out.size))
      have HW7:=Lib.hid hw7
      have H67:=Lib.hid hb7
      clear hkr hvr hb6 hw7 KD2
      go_wp2_with fail
      rw [HW7.out]
      have hx6:w6.heap.size<w7.heap.size:=(Array.getElem?_eq_some_iff.1 q7).1
      have c6:w7.cell? ⟨w6.heap.size,6,none⟩=some (.slice (some ⟨kb,ko,none⟩) 2 kc3):=(box_cellsJ q7 6 _ rfl).1
      have c7:w7.cell? ⟨w6.heap.size,7,none⟩=some (.slice (some ⟨vb,vo,none⟩) 2 vc3):=(box_cellsJ q7 7 _ rfl).1
      have H6W:Hid (∀ W,Below w7.heap.size w7 W→Below w6.heap.size w6 W):=Lib.hid (fun W h=>H67.out.trans (h.mono H67.out.size))
      have HSX:Hid (sa.extract 1 2=⟨#[nmL m]⟩∧sa.size=3):=HSX0
      refine rg_norm (fun J hJ=>?_)
      have HJ:=Lib.hid hJ
      clear hJ
      refine wp_region_held_drew (S:=fun W=>Below w7.heap.size w7 W) (by kernel_rfl) (below_drew (Below.refl _ _)) (fun hH=>?_)
      refine rg_pure 0 _ (.int .i64 2) (some 85) rfl (by kernel_rfl) (by kernel_rfl) (by kernel_rfl) (by kernel_rfl) (fun _ _ _ h=>h) (by kernel_rfl) (fun w=>by kernel_rfl) hH ?_
      refine rg_pure 1 _ (.bool true) (some 86) rfl (by kernel_rfl) (by kernel_rfl) (by kernel_rfl) (by kernel_rfl) (fun _ _ _ h=>h) (by kernel_rfl) (fun w=>rg_eqI w _ _ _ _ _ _ .i64 (2) rfl (by kernel_rfl) (by kernel_rfl)) hH ?_
      refine rg_pure 2 _ (.bool true) (some 87) rfl (by kernel_rfl) (by kernel_rfl) (by kernel_rfl) (by kernel_rfl) (fun _ _ _ h=>h) (by kernel_rfl) (fun w=>by kernel_rfl) hH ?_
      refine rg_pure 3 _ (.int .i64 0) (some 88) rfl (by kernel_rfl) (by kernel_rfl) (by kernel_rfl) (by kernel_rfl) (fun _ _ _ h=>h) (by kernel_rfl) (fun w=>by kernel_rfl) hH ?_
      refine rg_pure 4 _ (.bool true) (some 89) rfl (by kernel_rfl) (by kernel_rfl) (by kernel_rfl) (by kernel_rfl) (fun _ _ _ h=>h) (by kernel_rfl) (fun w=>rg_eqI w _ _ _ _ _ _ .i64 (0) rfl (by kernel_rfl) (by kernel_rfl)) hH ?_
      refine rg_pure 5 _ (.bool true) (some 90) rfl (by kernel_rfl) (by kernel_rfl) (by kernel_rfl) (by kernel_rfl) (fun _ _ _ h=>h) (by kernel_rfl) (fun w=>by kernel_rfl) hH ?_
      refine rg_pure 6 _ (.bool true) (some 91) rfl (by kernel_rfl) (by kernel_rfl) (by kernel_rfl) (by kernel_rfl) (fun _ _ _ h=>h) (by kernel_rfl) (fun w=>by kernel_rfl) hH ?_
      refine rg_pure 7 _ (.pointer (some ⟨w6.heap.size,6,none⟩)) (some 92) rfl (by kernel_rfl) (by kernel_rfl) (by kernel_rfl) (by kernel_rfl) (fun _ _ _ h=>h) (by kernel_rfl) (fun w=>by kernel_rfl) hH ?_
      refine rg_load1 8 _ 25 (.tmp 92) ⟨w6.heap.size,6,none⟩ (.slice (some ⟨kb,ko,none⟩) 2 kc3) _ (some 93) rfl (by kernel_rfl) (by kernel_rfl) (by kernel_rfl) (by kernel_rfl) (fun _ _ _ h=>h) (by kernel_rfl) rfl (by kernel_rfl) Tryz.underlying25 rfl (fun W hW=>(hW.cell (p:=⟨w6.heap.size,6,none⟩) hx6).trans c6) hH ?_
      refine rg_pure 9 _ (.int .i64 2) (some 94) rfl (by kernel_rfl) (by kernel_rfl) (by kernel_rfl) (by kernel_rfl) (fun _ _ _ h=>h) (by kernel_rfl) (fun w=>by kernel_rfl) hH ?_
      refine rg_pure 10 _ (.bool true) (some 95) rfl (by kernel_rfl) (by kernel_rfl) (by kernel_rfl) (by kernel_rfl) (fun _ _ _ h=>h) (by kernel_rfl) (fun w=>rg_eqI w _ _ _ _ _ _ .i64 (2) rfl (by kernel_rfl) (by kernel_rfl)) hH ?_
      refine rg_pure 11 _ (.bool true) (some 96) rfl (by kernel_rfl) (by kernel_rfl) (by kernel_rfl) (by kernel_rfl) (fun _ _ _ h=>h) (by kernel_rfl) (fun w=>by kernel_rfl) hH ?_
      refine rg_pure 12 _ (.bool true) (some 97) rfl (by kernel_rfl) (by kernel_rfl) (by kernel_rfl) (by kernel_rfl) (fun _ _ _ h=>h) (by kernel_rfl) (fun w=>by kernel_rfl) hH ?_
      refine rg_pure 13 _ (.pointer (some ⟨w6.heap.size,6,none⟩)) (some 98) rfl (by kernel_rfl) (by kernel_rfl) (by kernel_rfl) (by kernel_rfl) (fun _ _ _ h=>h) (by kernel_rfl) (fun w=>by kernel_rfl) hH ?_
      refine rg_load1 14 _ 25 (.tmp 98) ⟨w6.heap.size,6,none⟩ (.slice (some ⟨kb,ko,none⟩) 2 kc3) _ (some 99) rfl (by kernel_rfl) (by kernel_rfl) (by kernel_rfl) (by kernel_rfl) (fun _ _ _ h=>h) (by kernel_rfl) rfl (by kernel_rfl) Tryz.underlying25 rfl (fun W hW=>(hW.cell (p:=⟨w6.heap.size,6,none⟩) hx6).trans c6) hH ?_
      refine rg_pure 15 _ (.pointer (some ⟨kb,ko+0,none⟩)) (some 100) rfl (by kernel_rfl) (by kernel_rfl) (by kernel_rfl) (by kernel_rfl) (fun _ _ _ h=>h) (by kernel_rfl) (fun w=>rl_idx w _ _ _ _ _ 9 kb ko 2 kc3 0 0 1 rfl (by kernel_rfl) (by kernel_rfl) Tryz.underlying25 (by kernel_rfl) (by decide) rfl) hH ?_
      refine rg_load1 16 _ 9 (.tmp 100) ⟨kb,ko+0,none⟩ (.string ⟨#[]⟩) _ (some 101) rfl (by kernel_rfl) (by kernel_rfl) (by kernel_rfl) (by kernel_rfl) (fun _ _ _ h=>h) (by kernel_rfl) rfl (by kernel_rfl) Tryz.underlying9 rfl (fun W hW=>rdv_str (HKR.out W (H6W.out W hW)) rfl 0 (by simp)) hH ?_
      refine rg_pure 17 _ (.bool true) (some 102) rfl (by kernel_rfl) (by kernel_rfl) (by kernel_rfl) (by kernel_rfl) (fun _ _ _ h=>h) (by kernel_rfl) (fun w=>rg_eqS w _ _ _ _ _ _ (⟨#[]⟩) rfl (by kernel_rfl) (by kernel_rfl)) hH ?_
      refine rg_pure 18 _ (.bool true) (some 103) rfl (by kernel_rfl) (by kernel_rfl) (by kernel_rfl) (by kernel_rfl) (fun _ _ _ h=>h) (by kernel_rfl) (fun w=>by kernel_rfl) hH ?_
      refine rg_pure 19 _ (.bool true) (some 104) rfl (by kernel_rfl) (by kernel_rfl) (by kernel_rfl) (by kernel_rfl) (fun _ _ _ h=>h) (by kernel_rfl) (fun w=>by kernel_rfl) hH ?_
      refine rg_pure 20 _ (.pointer (some ⟨w6.heap.size,6,none⟩)) (some 105) rfl (by kernel_rfl) (by kernel_rfl) (by kernel_rfl) (by kernel_rfl) (fun _ _ _ h=>h) (by kernel_rfl) (fun w=>by kernel_rfl) hH ?_
      refine rg_load1 21 _ 25 (.tmp 105) ⟨w6.heap.size,6,none⟩ (.slice (some ⟨kb,ko,none⟩) 2 kc3) _ (some 106) rfl (by kernel_rfl) (by kernel_rfl) (by kernel_rfl) (by kernel_rfl) (fun _ _ _ h=>h) (by kernel_rfl) rfl (by kernel_rfl) Tryz.underlying25 rfl (fun W hW=>(hW.cell (p:=⟨w6.heap.size,6,none⟩) hx6).trans c6) hH ?_
      refine rg_pure 22 _ (.pointer (some ⟨kb,ko+1,none⟩)) (some 107) rfl (by kernel_rfl) (by kernel_rfl) (by kernel_rfl) (by kernel_rfl) (fun _ _ _ h=>h) (by kernel_rfl) (fun w=>rl_idx w _ _ _ _ _ 9 kb ko 2 kc3 1 1 1 rfl (by kernel_rfl) (by kernel_rfl) Tryz.underlying25 (by kernel_rfl) (by decide) rfl) hH ?_
      refine rg_load1 23 _ 9 (.tmp 107) ⟨kb,ko+1,none⟩ (.string ⟨#[nmL m]⟩) _ (some 108) rfl (by kernel_rfl) (by kernel_rfl) (by kernel_rfl) (by kernel_rfl) (fun _ _ _ h=>h) (by kernel_rfl) rfl (by kernel_rfl) Tryz.underlying9 rfl (fun W hW=>rdv_str (HKR.out W (H6W.out W hW)) rfl 1 (by simp)) hH ?_
      refine rg_pure 24 _ (.string sa) (some 109) rfl (by kernel_rfl) (by kernel_rfl) (by kernel_rfl) (by kernel_rfl) (fun _ _ _ h=>h) (by kernel_rfl) (fun w=>by kernel_rfl) hH ?_
      refine rg_pure 25 _ (.string ⟨#[nmL m]⟩) (some 110) rfl (by kernel_rfl) (by kernel_rfl) (by kernel_rfl) (by kernel_rfl) (fun _ _ _ h=>h) (by kernel_rfl) (fun w=>slice_one w _ _ _ _ sa _ rfl (by kernel_rfl) (fun _=>rfl) Tryz.underlying9 HSX.out) hH ?_
      refine rg_pure 26 _ (.bool true) (some 111) rfl (by kernel_rfl) (by kernel_rfl) (by kernel_rfl) (by kernel_rfl) (fun _ _ _ h=>h) (by kernel_rfl) (fun w=>rg_eqS w _ _ _ _ _ _ (⟨#[nmL m]⟩) rfl (by kernel_rfl) (by kernel_rfl)) hH ?_
      refine rg_pure 27 _ (.bool true) (some 112) rfl (by kernel_rfl) (by kernel_rfl) (by kernel_rfl) (by kernel_rfl) (fun _ _ _ h=>h) (by kernel_rfl) (fun w=>by kernel_rfl) hH ?_
      refine rg_pure 28 _ (.bool true) (some 113) rfl (by kernel_rfl) (by kernel_rfl) (by kernel_rfl) (by kernel_rfl) (fun _ _ _ h=>h) (by kernel_rfl) (fun w=>by kernel_rfl) hH ?_
      refine rg_pure 29 _ (.pointer (some ⟨w6.heap.size,7,none⟩)) (some 114) rfl (by kernel_rfl) (by kernel_rfl) (by kernel_rfl) (by kernel_rfl) (fun _ _ _ h=>h) (by kernel_rfl) (fun w=>by kernel_rfl) hH ?_
      refine rg_load1 30 _ 26 (.tmp 114) ⟨w6.heap.size,7,none⟩ (.slice (some ⟨vb,vo,none⟩) 2 vc3) _ (some 115) rfl (by kernel_rfl) (by kernel_rfl) (by kernel_rfl) (by kernel_rfl) (fun _ _ _ h=>h) (by kernel_rfl) rfl (by kernel_rfl) Tryz.underlying26 rfl (fun W hW=>(hW.cell (p:=⟨w6.heap.size,7,none⟩) hx6).trans c7) hH ?_
      refine rg_pure 31 _ (.pointer (some ⟨vb,vo+0,none⟩)) (some 116) rfl (by kernel_rfl) (by kernel_rfl) (by kernel_rfl) (by kernel_rfl) (fun _ _ _ h=>h) (by kernel_rfl) (fun w=>rl_idx w _ _ _ _ _ 28 vb vo 2 vc3 0 0 8 rfl (by kernel_rfl) (by kernel_rfl) Tryz.underlying26 (by kernel_rfl) (by decide) rfl) hH ?_
      refine rg_loadM 32 _ 28 (.tmp 116) vb (vo+0) ([.int .i64 xk,.bool xbb,.bool xneg,.slice xma xmn xmc,.int .i64 xe,.string xs',.slice xka xkn xkc,.slice xva xvn xvc]) _ (some 117) rfl (by kernel_rfl) (by kernel_rfl) (by kernel_rfl) (by kernel_rfl) (fun _ _ _ h=>h) (by kernel_rfl) rfl (by kernel_rfl) Tryz.underlying28 rfl (by kernel_rfl) (fun W hW=>rng_flat (HVR.out W (H6W.out W hW)) 0 (by simp) rfl _ rfl) hH ?_
      refine rg_pure 33 _ (.pointer (some ⟨w6.heap.size,7,none⟩)) (some 118) rfl (by kernel_rfl) (by kernel_rfl) (by kernel_rfl) (by kernel_rfl) (fun _ _ _ h=>h) (by kernel_rfl) (fun w=>by kernel_rfl) hH ?_
      refine rg_load1 34 _ 26 (.tmp 118) ⟨w6.heap.size,7,none⟩ (.slice (some ⟨vb,vo,none⟩) 2 vc3) _ (some 119) rfl (by kernel_rfl) (by kernel_rfl) (by kernel_rfl) (by kernel_rfl) (fun _ _ _ h=>h) (by kernel_rfl) rfl (by kernel_rfl) Tryz.underlying26 rfl (fun W hW=>(hW.cell (p:=⟨w6.heap.size,7,none⟩) hx6).trans c7) hH ?_
      refine rg_pure 35 _ (.pointer (some ⟨vb,vo+8,none⟩)) (some 120) rfl (by kernel_rfl) (by kernel_rfl) (by kernel_rfl) (by kernel_rfl) (fun _ _ _ h=>h) (by kernel_rfl) (fun w=>rl_idx w _ _ _ _ _ 28 vb vo 2 vc3 1 8 8 rfl (by kernel_rfl) (by kernel_rfl) Tryz.underlying26 (by kernel_rfl) (by decide) rfl) hH ?_
      refine rg_loadM 36 _ 28 (.tmp 120) vb (vo+8) ([.int .i64 yk,.bool ybb,.bool yneg,.slice yma ymn ymc,.int .i64 ye,.string ys',.slice yka ykn ykc,.slice yva yvn yvc]) _ (some 121) rfl (by kernel_rfl) (by kernel_rfl) (by kernel_rfl) (by kernel_rfl) (fun _ _ _ h=>h) (by kernel_rfl) rfl (by kernel_rfl) Tryz.underlying28 rfl (by kernel_rfl) (fun W hW=>rng_flat (HVR.out W (H6W.out W hW)) 1 (by simp) rfl _ rfl) hH ?_
      refine rg_call 37 _ 17 _ _ _ _ #[.agg #[.int .i64 xk,.bool xbb,.bool xneg,.slice xma xmn xmc,.int .i64 xe,.string xs',.slice xka xkn xkc,.slice xva xvn xvc],.agg #[.int .i64 yk,.bool ybb,.bool yneg,.slice yma ymn ymc,.int .i64 ye,.string ys',.slice yka ykn ykc,.slice yva yvn yvc]] (some 122) rfl (by kernel_rfl) (by kernel_rfl) (by kernel_rfl) rfl (by kernel_rfl) Tryz.func17 (by kernel_rfl) (by kernel_rfl) (by kernel_rfl) (KSM.out _ (H6W.out _ hH)) ?_
      rintro r' w' ⟨rfl,hb⟩
      replace hH:=hH.trans (hb.mono hH.size)
      refine ⟨_,rfl,hH,?_⟩
      refine rg_pure 38 _ (.bool true) (some 123) rfl (by kernel_rfl) (by kernel_rfl) (by kernel_rfl) (by kernel_rfl) (fun _ _ _ h=>h) (by kernel_rfl) (fun w=>by kernel_rfl) hH ?_
      refine rg_pure 39 _ (.bool true) (some 124) rfl (by kernel_rfl) (by kernel_rfl) (by kernel_rfl) (by kernel_rfl) (fun _ _ _ h=>h) (by kernel_rfl) (fun w=>by kernel_rfl) hH ?_
      refine rg_call 40 _ 10 _ _ _ _ #[] (some 125) rfl (by kernel_rfl) (by kernel_rfl) (by kernel_rfl) rfl (by kernel_rfl) Tryz.func10 (by kernel_rfl) (by kernel_rfl) (by kernel_rfl) (AW2.out _ (HB7.out.trans (hH.mono HB7.out.size))) ?_
      rintro r' w' ⟨rfl,hb⟩
      replace hH:=hH.trans (hb.mono hH.size)
      refine ⟨_,rfl,hH,?_⟩
      refine rg_pure 41 _ (.bool true) (some 126) rfl (by kernel_rfl) (by kernel_rfl) (by kernel_rfl) (by kernel_rfl) (fun _ _ _ h=>h) (by kernel_rfl) (fun w=>by kernel_rfl) hH ?_
      refine rg_pure 42 _ (.bool true) (some 6) rfl (by kernel_rfl) (by kernel_rfl) (by kernel_rfl) (by kernel_rfl) (fun _ _ _ h=>h) (by kernel_rfl) (fun w=>by kernel_rfl) hH ?_
      refine wpAnyH_done (by kernel_rfl) ?_ _
      have HFF:=Lib.hid (HB7.out.trans (hH.mono HB7.out.size))
      clear hH
      refine HJ.out _ _ ?_
      clear HJ
      simp only [Act.put,List.setIfInBounds_toArray,List.set_cons_zero,List.set_cons_succ]
      go_wp2
      go_ret
      exact BoolBelow.mk rfl HFF.out
  · have h60z:(60:Int)<(n:Int):=by omega
    clear hn hcap hx hr hnm hU hT
    go_enter Tryz.func7,Tryz.ntmps7
    go_wp2_with fail
    refine (AW.out _ (Below.refl _ _)).mono ?_
    rintro r w1 ⟨rfl,hb1⟩
    have HB1:=Lib.hid hb1
    clear hb1
    go_wp2
    go_ret
    exact BoolBelow.mk rfl HB1.out
end Go.Proofs.YtijaphbccnadbaaGreatDoor
namespace Go.Proofs.YtijaphbccnadbaaGreatDoor
open Go.ChangeShapes Go.WideShapes Go.ChangeAt Go.RowKit Go.Shelf
theorem own:ownKnob Tryz.prog.godebug=none:=by kernel_rfl
theorem laidOut:laidOutB Tryz.prog=true:=by kernel_rfl
theorem i64_bd {n:Int} (h:(Lit.int .i64 n).wf=true):-9223372036854775808≤n∧n≤9223372036854775807:=by
  simpa [Lit.wf,IntKind.min,IntKind.max,IntKind.signed,IntKind.bits] using h
theorem hargs_keep {H:Type} {enc:TypeId × Value→H} {t:TypeId} {W W':World} {v:Value} {d:DataW H} {ps:List MemPlace} (hr:Tryz.prog.readableRec t=true) (hrow:t<Tryz.prog.types.size)
    (h:DataW.Trod enc Tryz.prog W 0 (fun _=>true) true t v d ps) (hb:Below W.heap.size W W') (hlt:∀ x∈ps,x.block<W.heap.size) :
    DataW.Trod enc Tryz.prog W' 0 (fun b=>decide (b<W.heap.size)) true t v d ps:=Below.trod laidOut hr hrow h hb hlt
def ren8:Go.Shelf.Ren:=⟨fun n=>n,fun | 5=>5 | 119=>200 | 138=>202 | 139=>203 | n=>n,fun | 3=>0 | 4=>1 | n=>n⟩
theorem types8:U8Types Tryz.prog ren8:={ t5:=Tryz.underlying5,t119:=Tryz.underlying200,t138:=Tryz.underlying202,t139:=Tryz.underlying203 }
theorem extra8:U8Extra Tryz.prog ren8:={ n3:=by kernel_rfl,n4:=by kernel_rfl,y3:=by kernel_rfl,y4:=by kernel_rfl,c5:=by kernel_rfl,c119:=by kernel_rfl,c138:=by kernel_rfl }
theorem first_data:Rows.laid_unicode_utf8_first=Lib.firstData:=by kernel_rfl
theorem accept_data:(Rows.laid_unicode_utf8_acceptRanges:DataW Unit)=Lib.acceptData:=by kernel_rfl
theorem ut_of_laid {l:List (String × DataW Unit)} {W:World} (h:laidMet Tryz.prog l W) (h1:("unicode/utf8.first",Rows.laid_unicode_utf8_first)∈l) (h2:("unicode/utf8.acceptRanges",Rows.laid_unicode_utf8_acceptRanges)∈l):UT W:=by
  have r1:=Lib.laidMet.reads h h1
  have r2:=Lib.laidMet.reads h h2
  rw [first_data] at r1
  rw [accept_data] at r2
  exact utf8Tabs_of_readsT types8 extra8 r1 r2
theorem cells_i64:Tryz.prog.cellsOf 3=1:=by kernel_rfl
/-- An argument that is a slice of numbers. -/
theorem ints_arg {H:Type} {enc:TypeId × Value→H} {W:World} {base:Nat} {v:Value} {d:DataW H} {p:List MemPlace}
    (hok:Value.okWide Tryz.prog W .any base 40 v) (h:DataW.Trod enc Tryz.prog W 0 (fun _=>true) true 40 v d p) :
    ∃ (ad:Option Addr) (len cap:Nat) (xs:List Int),v=.slice ad len cap∧xs.length=len∧len≤cap∧(∀ r∈xs,-9223372036854775808≤r∧r≤9223372036854775807)∧RdV W ad (xs.map iz):=by
  obtain ⟨a0,len,cap,rfl⟩:=okWide_slice Tryz.underlying40 hok
  obtain ⟨fuel,hf⟩:=h
  rcases open_ints Tryz.underlying40 Tryz.underlying3 cells_i64 hf with ⟨hcs,hx⟩ | ⟨a,len',cap',zs,hcs,_,hl,hm,hz,hx,hcell,hwz⟩
  · simp [Value.cells] at hcs
    obtain ⟨rfl,rfl,rfl⟩:=hcs
    exact ⟨none,0,0,[],rfl,rfl,Nat.le_refl _,by simp,RdV.nil _ _⟩
  · simp [Value.cells] at hcs
    obtain ⟨rfl,rfl,rfl⟩:=hcs
    simp only [if_true] at hz
    refine ⟨some a,len,cap,zs.take len,rfl,by simp;omega,hl,fun r hr=>i64_bd (hwz r (List.mem_of_mem_take hr)),?_⟩
    intro i hi
    have hi':i<len:=by simp at hi;omega
    have hil:i<zs.length:=by omega
    have hc:=hcell i hil
    have h0:=hcell 0 (by omega)
    obtain ⟨b,off,spot⟩:=a
    have hspot:spot=none:=by simpa [Addr.add] using World.cell?_spot h0
    subst hspot
    have e:(Addr.add ⟨b,off,none⟩ i)=⟨b,off+i,none⟩:=by unfold Addr.add;split <;> simp_all
    rw [e] at hc
    refine ⟨b,off,rfl,?_,?_⟩
    · rcases Nat.lt_or_ge b W.heap.size with h1 | h1
      · exact h1
      · simp [World.cell?,Array.getElem?_eq_none h1] at hc
    · rw [hc]
      simp [iz,hi',hil]
end Go.Proofs.YtijaphbccnadbaaGreatDoor
namespace Go.Proofs.YtijaphbccnadbaaGreatDoor
open Go.ChangeShapes Go.WideShapes Go.ChangeAt Go.RowKit
theorem laidMet_tail {P:Program} {x:String × DataW Unit} {l:List (String × DataW Unit)} {w:World} (h:laidMet P (x::l) w):laidMet P l w:=by
  obtain ⟨ps,⟨g',t',cs,fuel,p,q,hg',ht',hvar,hd,h6,h7⟩,hn,h3⟩:=h
  subst h7
  exact ⟨q,h6,(List.nodup_append.1 hn).2.1,fun b off hq=>h3 b off (List.mem_append_right _ hq)⟩
theorem g_tab:Tryz.prog.globalNamed "internal/strconv.uint64pow10" = some 3:=by kernel_rfl
theorem g_type:(Tryz.prog.globals[3]?).map (·.type)=some 222:=by kernel_rfl
theorem tab_data:(Rows.laid_internal_strconv_uint64pow10:DataW Unit)=Lib.tabData .u64 Lib.pow10Tab:=by kernel_rfl
theorem tb_of_laid {a b:String × DataW Unit} {l:List (String × DataW Unit)} {W:World} (h:laidMet Tryz.prog (a::b::("internal/strconv.uint64pow10",Rows.laid_internal_strconv_uint64pow10)::l) W):TB W:=by
  have h2:=laidMet_tail (laidMet_tail h)
  rw [tab_data] at h2
  exact Lib.tabIs_of_head g_tab g_type Tryz.underlying222 Tryz.underlying131 (by kernel_rfl) (by kernel_rfl) h2
end Go.Proofs.YtijaphbccnadbaaGreatDoor
